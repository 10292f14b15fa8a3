/- advance: the next order. -/
import Derived.Test.YtidengcihakijaaAdr
import Derived.Deep.RegionHeld
import Derived.Deep.RegionHeld2
namespace Go.Proofs.Ytidengcihakijaa
set_option linter.unusedVariables false
set_option linter.unusedSimpArgs false
open Go Go.RowKit Go.Shelf Go.Sort
theorem search_row (g l cap : Nat) (L : List Int) (C : Array Value) (x : Int) (w : World) (h : RowC w g (trnL L l) C) (hl : l + 1 ≤ L.length) (hsz : L.length ≤ 1048576) (hs : (bhL L l).Pairwise (· ≤ ·)) :
    Calls Try.prog 59 #[.slice (some ⟨g, l + 1, none⟩) (L.length - (l + 1)) cap, .int .i64 x] w fun e w' => (∃ q, e = .returned (.tuple #[.int .i64 (((bhL L l).countP (· < x) : Nat) : Int), .bool q])) ∧ RowC w' g (trnL L l) C ∧ OnlyB g w w' := by
  have hb := bh_len L l
  have ht : (bhL L l).take (L.length - (l + 1)) = bhL L l := List.take_of_length_le (by omega)
  have H := search59 g (l + 1) (L.length - (l + 1)) cap (bhL L l) x w (by omega) (by omega) (fun j hj => by
    rw [← trn_hi (by omega)]
    exact h.cell (by rw [trn_len hl]; omega)) (by rw [ht]; exact hs)
  rw [ht] at H
  refine H.mono ?_
  rintro e w' ⟨rfl, q, rfl⟩
  exact ⟨⟨_, rfl⟩, h, (OnlyB.refl g w).drewN q⟩
set_option maxRecDepth 100000 in
set_option maxHeartbeats 4000000 in
theorem adv40 (L : List Int) (g cap : Nat) (C : Array Value) (w : World) (h : RowC w g L C) (h1 : 1 ≤ L.length) (hsz : L.length ≤ 1048576) (hcap : L.length ≤ cap) :
    Calls Try.prog 40 #[.slice (some ⟨g, 0, none⟩) L.length cap] w fun e w' => e = .returned (.bool (advF L).isSome) ∧ (∃ C', RowC w' g ((advF L).getD L) C') ∧ OnlyB g w w' := by
  have HR := hidd h
  have HLOW := hidd (show ∀ k, (L.getD (k + 1) 0 < L.getD k 0 → lowF L (k + 1) = lowF L k) ∧ (¬ L.getD (k + 1) 0 < L.getD k 0 → lowF L (k + 1) = some k) from fun k => ⟨fun h => by rw [lowF, if_pos h], fun h => by rw [lowF, if_neg h]⟩)
  have HADV := hidd (show advF L = (lowF L (L.length - 1)).map (nxtL L) from rfl)
  have hw2 : wrap64 ((L.length : Int) - 2) = (L.length : Int) - 2 := IntWalk.wrap64_in _ ⟨by omega, by omega⟩
  have hw3 : IntKind.i64.wrap ((L.length : Int) - 2) = (L.length : Int) - 2 := IntWalk.i64_in _ (by omega)
  clear h
  go_enter Try.func40, Try.ntmps40
  go_wp2_with fail
  go_loopw [3] (fun lv wr => ∃ (k : Nat) (z : Int), lv = .int .i64 z ∧ Hid (z = (k : Int) - 1 ∧ k + 1 ≤ L.length ∧ lowF L (L.length - 1) = lowF L k ∧ (∀ j, k ≤ j → j + 1 < L.length → L.getD (j + 1) 0 < L.getD j 0) ∧ RowC wr g L C ∧ OnlyB g w wr)) (fun lv _ => (intOf lv + 1).toNat)
  case atStart => exact ⟨L.length - 1, _, rfl, by omega, by omega, rfl, fun j h2 h3 => by omega, HR.out, OnlyB.refl _ _⟩
  case round =>
    obtain ⟨k, z, rfl, HK⟩ := hrel
    cases k with
    | zero =>
      have hz : decide (z ≥ 0) = false := by have := HK.out.1; simp; omega
      have hz2 : decide (0 ≤ z) = false := hz
      have hz3 : ¬ 0 ≤ z := by have := HK.out.1; omega
      have HA := hidd (show advF L = none from by rw [HADV.out, HK.out.2.2.1]; rfl)
      go_wp2_with fail
      go_ret
      exact ⟨by rw [HA.out]; rfl, ⟨C, by rw [HA.out]; exact HK.out.2.2.2.2.1⟩, HK.out.2.2.2.2.2⟩
    | succ l =>
      obtain rfl : z = (l : Int) := by have := HK.out.1; omega
      have hl := HK.out.2.1
      have hz : decide ((l : Int) ≥ 0) = true := by simp
      have c0 := HK.out.2.2.2.2.1.cell (show l < L.length by omega)
      have c1 := HK.out.2.2.2.2.1.cell (show l + 1 < L.length by omega)
      have hlI : (l : Int) < (L.length : Int) := by omega
      have hlI1 : (l : Int) + 1 < (L.length : Int) := by omega
      have hwl : IntKind.i64.wrap ((l : Int) + 1) = (l : Int) + 1 := IntWalk.i64_in _ (by omega)
      have hwl2 : wrap64 ((l : Int) + 1) = (l : Int) + 1 := IntWalk.wrap64_in _ ⟨by omega, by omega⟩
      have hwm : IntKind.i64.wrap ((l : Int) - 1) = (l : Int) - 1 := IntWalk.i64_in _ (by omega)
      have hwm2 : wrap64 ((l : Int) - 1) = (l : Int) - 1 := IntWalk.wrap64_in _ ⟨by omega, by omega⟩
      have htn : ((l : Int) + 1).toNat = l + 1 := by omega
      have hl0 : l + 1 ≤ L.length := by omega
      have hl2 : l + 1 < L.length := by omega
      have hnn : (0 : Int) ≤ (l : Int) + 1 := by omega
      have HLK := hidd (HLOW.out l)
      obtain ⟨x, hx⟩ : ∃ x, x = L.getD l 0 := ⟨_, rfl⟩
      obtain ⟨y, hy⟩ : ∃ y, y = L.getD (l + 1) 0 := ⟨_, rfl⟩
      rw [← hx] at c0 HLK
      rw [← hy] at c1 HLK
      have HX := hidd (And.intro hx hy)
      clear hx hy
      by_cases hgt : y < x
      · have hd : decide (x > y) = true := by simpa using hgt
        have hd2 : decide (y < x) = true := by simpa using hgt
        have K := hidd (show (l : Int) - 1 = (l : Int) - 1 ∧ l + 1 ≤ L.length ∧ lowF L (L.length - 1) = lowF L l ∧ (∀ j, l ≤ j → j + 1 < L.length → L.getD (j + 1) 0 < L.getD j 0) ∧ RowC wr.drew g L C ∧ OnlyB g w wr.drew from
          ⟨rfl, by omega, HK.out.2.2.1.trans (HLK.out.1 (by omega)), fun j hj hj2 => by
            by_cases e : j = l
            · rw [e, ← HX.out.1, ← HX.out.2]; exact hgt
            · exact HK.out.2.2.2.1 j (by omega) hj2, HK.out.2.2.2.2.1, HK.out.2.2.2.2.2⟩)
        clear hgt
        go_wp2_with fail
        refine wp_region_still_lit (by kernel_rfl) (by kernel_rfl) ?_
        iterate 10 still_step
        refine wpStill_nil ?_
        go_wp2
        go_roundw
        case rel => exact ⟨l, _, rfl, rfl, K.out.2⟩
        case measure => simp [intOf]
      · have hd : decide (x > y) = false := by simpa using hgt
        have hd2 : decide (y < x) = false := by simpa using hgt
        have HA := hidd (show advF L = some (nxtL L l) from by rw [HADV.out, HK.out.2.2.1, HLK.out.2 (by omega)]; rfl)
        have HBS := hidd (bh_sorted (L := L) (l := l) HK.out.2.2.2.1)
        have HAT := hidd (at_lt (L := L) (l := l) (by omega) (by rw [← HX.out.1, ← HX.out.2]; exact hgt))
        have HK1 := hidd (show RowC wr.drew g L C ∧ OnlyB g w wr.drew from HK.out.2.2.2.2)
        clear hgt
        go_wp2_with fail
        refine wp_region_still_lit (by kernel_rfl) (by kernel_rfl) ?_
        iterate 10 still_step
        refine wpStill_nil ?_
        go_wp2_with fail
        refine (rev_row g l (cap - (l + 1)) L C _ HK1.out.1 hl0 hsz).mono ?_
        rintro e w1 ⟨rfl, ⟨C1, hC1⟩, hO1⟩
        have R1 := hidd (show RowC w1 g (trnL L l) C1 ∧ OnlyB g w w1 from ⟨hC1, HK1.out.2.trans hO1⟩)
        have cx1 : w1.cell? ⟨g, l, none⟩ = some (.int .i64 x) := by
          have := hC1.cell (j := l) (by rw [trn_len hl0]; omega)
          rw [trn_lo hl0 (by omega), ← HX.out.1] at this; exact this
        clear hC1 hO1
        go_wp2_with fail
        refine (search_row g l (cap - (l + 1)) L C1 x _ R1.out.1 hl0 hsz HBS.out).mono ?_
        rintro e w3 ⟨⟨qb, rfl⟩, hC3, hO3⟩
        have hat : (bhL L l).countP (· < x) = atN L l := by rw [HX.out.1]; rfl
        rw [hat]
        have hbl := bh_len L l
        obtain ⟨at0, hat0⟩ : ∃ k, k = atN L l := ⟨_, rfl⟩
        have hal : at0 < L.length - (l + 1) := by rw [hat0, ← hbl]; exact HAT.out
        have hNX := nxt_sets (L := L) (l := l) hl2
        rw [← hat0] at hNX ⊢
        obtain ⟨z, hz'⟩ : ∃ z, z = (bhL L l).getD at0 0 := ⟨_, rfl⟩
        rw [← hz', ← HX.out.1] at hNX
        have HC3 := hidd hC3
        have cx3 : w3.drew.cell? ⟨g, l, none⟩ = some (.int .i64 x) := by
          have := hC3.cell (j := l) (by rw [trn_len hl0]; omega)
          rw [trn_lo hl0 (by omega), ← HX.out.1] at this; exact this
        have cz3 : w3.drew.cell? ⟨g, l + 1 + at0, none⟩ = some (.int .i64 z) := by
          have := hC3.cell (j := l + 1 + at0) (by rw [trn_len hl0]; omega)
          rw [trn_hi hl0, ← hz'] at this; exact this
        have f3 : w3.drew.frozen? ⟨g, l, none⟩ = false := hC3.1.fro l
        have HN1 := hidd (show RowC (w3.drew.setCell ⟨g, l, none⟩ (.int .i64 z)) g ((trnL L l).set l z) (C1.setIfInBounds l (.int .i64 z)) ∧ OnlyB g w (w3.drew.setCell ⟨g, l, none⟩ (.int .i64 z)) from
          ⟨RowC.set (W := w3.drew) hC3 (by rw [trn_len hl0]; omega) z, (R1.out.2.trans hO3).drew.set l _⟩)
        have cz4 := HN1.out.1.cell (j := l + 1 + at0) (by rw [List.length_set, trn_len hl0]; omega)
        have f4 := HN1.out.1.1.fro (l + 1 + at0)
        have cz5 : (w3.setCell ⟨g, l, none⟩ (.int .i64 z)).drew.cell? ⟨g, l + 1 + at0, none⟩ = _ := cz4
        have f5 : (w3.setCell ⟨g, l, none⟩ (.int .i64 z)).drew.frozen? ⟨g, l + 1 + at0, none⟩ = false := f4
        have HN2 := hidd (show RowC ((w3.drew.setCell ⟨g, l, none⟩ (.int .i64 z)).setCell ⟨g, l + 1 + at0, none⟩ (.int .i64 x)) g (nxtL L l) ((C1.setIfInBounds l (.int .i64 z)).setIfInBounds (l + 1 + at0) (.int .i64 x)) ∧ OnlyB g w ((w3.drew.setCell ⟨g, l, none⟩ (.int .i64 z)).setCell ⟨g, l + 1 + at0, none⟩ (.int .i64 x)) from
          ⟨by rw [← hNX]; exact HN1.out.1.set (by rw [List.length_set, trn_len hl0]; omega) x, HN1.out.2.set _ _⟩)
        have haI : (at0 : Int) < ((L.length - (l + 1) : Nat) : Int) := by omega
        clear hC3 hO3 hat hNX hz' hat0 hbl
        go_wp2_with fail
        refine wp_region_held_drew (S := fun _ => True) (by kernel_rfl) trivial (fun hHeld => ?_)
        refine wpAnyH_take (i := 0) (oi := _) (v := ?_) rfl (by kernel_rfl) (by kernel_rfl) (by kernel_rfl) (fun _ _ _ h => h) (Or.inl ⟨by rfl, ?_⟩) (by assumption) ?_
        rotate_left
        · intro wX hSw; (try dsimp only at hSw); go_simp; first | done | with_reducible rfl
        simp only [List.getElem_toArray, List.getElem_cons_succ, List.getElem_cons_zero, Act.put, List.setIfInBounds_toArray, List.set_cons_zero, List.set_cons_succ]
        refine wpAnyH_take (i := 1) (oi := _) (v := ?_) rfl (by kernel_rfl) (by kernel_rfl) (by kernel_rfl) (fun _ _ _ h => h) (Or.inl ⟨by rfl, ?_⟩) (by assumption) ?_
        rotate_left
        · intro wX hSw; (try dsimp only at hSw); go_simp; first | done | with_reducible rfl
        simp only [List.getElem_toArray, List.getElem_cons_succ, List.getElem_cons_zero, Act.put, List.setIfInBounds_toArray, List.set_cons_zero, List.set_cons_succ]
        refine wpAnyH_take (i := 2) (oi := _) (v := ?_) rfl (by kernel_rfl) (by kernel_rfl) (by kernel_rfl) (fun _ _ _ h => h) (Or.inl ⟨by rfl, ?_⟩) (by assumption) ?_
        rotate_left
        · intro wX hSw; (try dsimp only at hSw); go_simp; first | done | with_reducible rfl
        simp only [List.getElem_toArray, List.getElem_cons_succ, List.getElem_cons_zero, Act.put, List.setIfInBounds_toArray, List.set_cons_zero, List.set_cons_succ]
        refine wpAnyH_take (i := 3) (oi := _) (v := ?_) rfl (by kernel_rfl) (by kernel_rfl) (by kernel_rfl) (fun _ _ _ h => h) (Or.inl ⟨by rfl, ?_⟩) (by assumption) ?_
        rotate_left
        · intro wX hSw; (try dsimp only at hSw); go_simp; first | done | with_reducible rfl
        simp only [List.getElem_toArray, List.getElem_cons_succ, List.getElem_cons_zero, Act.put, List.setIfInBounds_toArray, List.set_cons_zero, List.set_cons_succ]
        refine wpAnyH_take (i := 4) (oi := _) (v := ?_) rfl (by kernel_rfl) (by kernel_rfl) (by kernel_rfl) (fun _ _ _ h => h) (Or.inl ⟨by rfl, ?_⟩) (by assumption) ?_
        rotate_left
        · intro wX hSw; (try dsimp only at hSw); go_simp; first | done | with_reducible rfl
        simp only [List.getElem_toArray, List.getElem_cons_succ, List.getElem_cons_zero, Act.put, List.setIfInBounds_toArray, List.set_cons_zero, List.set_cons_succ]
        refine wpAnyH_take (i := 5) (oi := _) (v := ?_) rfl (by kernel_rfl) (by kernel_rfl) (by kernel_rfl) (fun _ _ _ h => h) (Or.inl ⟨by rfl, ?_⟩) (by assumption) ?_
        rotate_left
        · intro wX hSw; (try dsimp only at hSw); go_simp; first | done | with_reducible rfl
        simp only [List.getElem_toArray, List.getElem_cons_succ, List.getElem_cons_zero, Act.put, List.setIfInBounds_toArray, List.set_cons_zero, List.set_cons_succ]
        refine wpAnyH_take (i := 6) (oi := _) (v := ?_) rfl (by kernel_rfl) (by kernel_rfl) (by kernel_rfl) (fun _ _ _ h => h) (Or.inl ⟨by rfl, ?_⟩) (by assumption) ?_
        rotate_left
        · intro wX hSw; (try dsimp only at hSw); go_simp; first | done | with_reducible rfl
        simp only [List.getElem_toArray, List.getElem_cons_succ, List.getElem_cons_zero, Act.put, List.setIfInBounds_toArray, List.set_cons_zero, List.set_cons_succ]
        refine wpAnyH_take (i := 8) (oi := _) (v := ?_) rfl (by kernel_rfl) (by kernel_rfl) (by kernel_rfl) (fun _ _ _ h => h) (Or.inl ⟨by rfl, ?_⟩) (by assumption) ?_
        rotate_left
        · intro wX hSw; (try dsimp only at hSw); go_simp; first | done | with_reducible rfl
        simp only [List.getElem_toArray, List.getElem_cons_succ, List.getElem_cons_zero, Act.put, List.setIfInBounds_toArray, List.set_cons_zero, List.set_cons_succ]
        refine wpAnyH_take (i := 9) (oi := _) (v := ?_) rfl (by kernel_rfl) (by kernel_rfl) (by kernel_rfl) (fun _ _ _ h => h) (Or.inl ⟨by rfl, ?_⟩) (by assumption) ?_
        rotate_left
        · intro wX hSw; (try dsimp only at hSw); go_simp; first | done | with_reducible rfl
        simp only [List.getElem_toArray, List.getElem_cons_succ, List.getElem_cons_zero, Act.put, List.setIfInBounds_toArray, List.set_cons_zero, List.set_cons_succ]
        refine wpAnyH_take (i := 10) (oi := _) (v := ?_) rfl (by kernel_rfl) (by kernel_rfl) (by kernel_rfl) (fun _ _ _ h => h) (Or.inl ⟨by rfl, ?_⟩) (by assumption) ?_
        rotate_left
        · intro wX hSw; (try dsimp only at hSw); go_simp; first | done | with_reducible rfl
        simp only [List.getElem_toArray, List.getElem_cons_succ, List.getElem_cons_zero, Act.put, List.setIfInBounds_toArray, List.set_cons_zero, List.set_cons_succ]
        refine wpAnyH_ready (rs := [7, 11]) (by kernel_rfl) (by simp) (AllReadyH.cons (o := _) rfl (fun KQ hKQ => ?_) (AllReadyH.cons (o := _) rfl (fun KQ hKQ => ?_) AllReadyH.nil))
        · go_simp
          refine hKQ.out _ _ trivial (fun hNext => ?_)
          clear hKQ KQ hHeld
          have hHeld := hNext
          clear hNext
          refine wpAnyH_ready (rs := [11]) (by kernel_rfl) (by simp) (AllReadyH.cons (o := _) rfl (fun KQ hKQ => ?_) AllReadyH.nil)
          go_simp
          refine hKQ.out _ _ trivial (fun hNext => ?_)
          clear hKQ KQ hHeld
          have hHeld := hNext
          clear hNext
          refine wpAnyH_take (i := 12) (oi := _) (v := ?_) rfl (by kernel_rfl) (by kernel_rfl) (by kernel_rfl) (fun _ _ _ h => h) (Or.inl ⟨by rfl, ?_⟩) (by assumption) ?_
          rotate_left
          · intro wX hSw; (try dsimp only at hSw); go_simp; first | done | with_reducible rfl
          simp only [List.getElem_toArray, List.getElem_cons_succ, List.getElem_cons_zero, Act.put, List.setIfInBounds_toArray, List.set_cons_zero, List.set_cons_succ]
          refine wpAnyH_ready (rs := [13]) (by kernel_rfl) (by simp) (AllReadyH.cons (o := _) rfl (fun KQ hKQ => ?_) AllReadyH.nil)
          go_simp
          refine hKQ.out _ _ trivial (fun hNext => ?_)
          clear hKQ KQ hHeld
          have hHeld := hNext
          clear hNext
          refine wpAnyH_take (i := 14) (oi := _) (v := ?_) rfl (by kernel_rfl) (by kernel_rfl) (by kernel_rfl) (fun _ _ _ h => h) (Or.inl ⟨by rfl, ?_⟩) (by assumption) ?_
          rotate_left
          · intro wX hSw; (try dsimp only at hSw); go_simp; first | done | with_reducible rfl
          simp only [List.getElem_toArray, List.getElem_cons_succ, List.getElem_cons_zero, Act.put, List.setIfInBounds_toArray, List.set_cons_zero, List.set_cons_succ]
          refine wpAnyH_ready (rs := [15]) (by kernel_rfl) (by simp) (AllReadyH.cons (o := _) rfl (fun KQ hKQ => ?_) AllReadyH.nil)
          go_simp
          refine hKQ.out _ _ trivial (fun hNext => ?_)
          clear hKQ KQ hHeld
          have hHeld := hNext
          clear hNext
          refine wpAnyH_done (by kernel_rfl) ?_ _
          go_wp2_with fail
          go_ret
          exact ⟨by rw [HA.out]; rfl, ⟨_, by rw [HA.out]; exact HN2.out.1⟩, HN2.out.2⟩
        · go_simp
          refine hKQ.out _ _ trivial (fun hNext => ?_)
          clear hKQ KQ hHeld
          have hHeld := hNext
          clear hNext
          refine wpAnyH_ready (rs := [7]) (by kernel_rfl) (by simp) (AllReadyH.cons (o := _) rfl (fun KQ hKQ => ?_) AllReadyH.nil)
          go_simp
          refine hKQ.out _ _ trivial (fun hNext => ?_)
          clear hKQ KQ hHeld
          have hHeld := hNext
          clear hNext
          refine wpAnyH_take (i := 12) (oi := _) (v := ?_) rfl (by kernel_rfl) (by kernel_rfl) (by kernel_rfl) (fun _ _ _ h => h) (Or.inl ⟨by rfl, ?_⟩) (by assumption) ?_
          rotate_left
          · intro wX hSw; (try dsimp only at hSw); go_simp; first | done | with_reducible rfl
          simp only [List.getElem_toArray, List.getElem_cons_succ, List.getElem_cons_zero, Act.put, List.setIfInBounds_toArray, List.set_cons_zero, List.set_cons_succ]
          refine wpAnyH_ready (rs := [13]) (by kernel_rfl) (by simp) (AllReadyH.cons (o := _) rfl (fun KQ hKQ => ?_) AllReadyH.nil)
          go_simp
          refine hKQ.out _ _ trivial (fun hNext => ?_)
          clear hKQ KQ hHeld
          have hHeld := hNext
          clear hNext
          refine wpAnyH_take (i := 14) (oi := _) (v := ?_) rfl (by kernel_rfl) (by kernel_rfl) (by kernel_rfl) (fun _ _ _ h => h) (Or.inl ⟨by rfl, ?_⟩) (by assumption) ?_
          rotate_left
          · intro wX hSw; (try dsimp only at hSw); go_simp; first | done | with_reducible rfl
          simp only [List.getElem_toArray, List.getElem_cons_succ, List.getElem_cons_zero, Act.put, List.setIfInBounds_toArray, List.set_cons_zero, List.set_cons_succ]
          refine wpAnyH_ready (rs := [15]) (by kernel_rfl) (by simp) (AllReadyH.cons (o := _) rfl (fun KQ hKQ => ?_) AllReadyH.nil)
          go_simp
          refine hKQ.out _ _ trivial (fun hNext => ?_)
          clear hKQ KQ hHeld
          have hHeld := hNext
          clear hNext
          refine wpAnyH_done (by kernel_rfl) ?_ _
          go_wp2_with fail
          go_ret
          exact ⟨by rw [HA.out]; rfl, ⟨_, by rw [HA.out]; exact HN2.out.1⟩, HN2.out.2⟩
end Go.Proofs.Ytidengcihakijaa
