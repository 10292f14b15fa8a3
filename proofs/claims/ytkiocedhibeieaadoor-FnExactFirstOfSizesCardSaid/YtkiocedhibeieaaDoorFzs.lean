/- FirstOfSizes: its model. -/
import Derived.Test.YtkiocedhibeieaaDoorFzm
import Derived.Test.YtkiocedhibeieaaDoorGqs
namespace Go.Proofs.YtkiocedhibeieaaDoor
set_option linter.unusedVariables false
set_option linter.unusedSimpArgs false
open Go Go.RowKit Go.Shelf
/-- A number, a list and a code; the list need not be new. -/
def NOut0 (w : World) (c : Int) (zs : List Int) (code : Int) (e : Ending) (w' : World) : Prop :=
  ∃ a cap, e = .returned (.tuple #[.int .i64 c, .slice a zs.length cap, .int .i64 code]) ∧ OwnL w' 0 a zs ∧ Below w.heap.size w w'
set_option maxRecDepth 100000 in
set_option maxHeartbeats 2000000 in
theorem spec13f (n k : Int) (bs : List Nat) (hb : Bys bs) (zs : List Int) (a : Option Addr) (cap : Nat) (w : World) (hs : SlI w a zs) (hl : zs.length ≤ 1048576) :
    Calls Tryd.prog 13 #[.agg (ccells n k bs).toArray, .slice a zs.length cap] w (NOut0 w (fzC n k bs zs) (fzL n k bs zs) (fzE n k bs zs)) := by
  have HS := hidd (size_c26 n k hb)
  have HSC := hidd (fun W h => sizes28 n k bs hb zs a cap W h hl)
  have HSL := hidd hs
  by_cases hc0 : szCode n k bs zs = 0
  · obtain ⟨hi, ho⟩ := sz_ok hc0
    obtain ⟨n1, n2, k1, k2⟩ := isCol_bd hi
    unfold szOk at ho
    rw [Bool.and_eq_true] at ho
    have hlk := of_decide_eq_true ho.1
    obtain ⟨N, rfl⟩ := Int.eq_ofNat_of_zero_le (show 0 ≤ n by omega)
    obtain ⟨K, rfl⟩ := Int.eq_ofNat_of_zero_le (show 0 ≤ k by omega)
    have hlK : zs.length = K := by omega
    have hg := fz_good hc0
    rw [Int.toNat_natCast, Int.toNat_natCast] at hg
    rw [hg.1, hg.2.1, hg.2.2]
    rw [hc0] at HSC
    have HSZ := hidd (show szP zs K = true by rw [← hlK]; exact ho.2)
    have n1N : 1 ≤ N := by omega
    have hN17 : N ≤ 17 := by omega
    have hK4 : K ≤ 4 := by omega
    have HC1 := hidd (show (ccells (N : Int) (K : Int) bs).toArray[1]? = some (.int .i64 (K : Int)) from rfl)
    have HLZ := hidd hlK
    rw [hlK] at HSC ⊢
    clear hi hc0 ho hlk hg hs hlK hl
    go_enter Tryd.func13, Tryd.ntmps13
    go_wp2_with (refine wpList_load_row rfl 28 (.tmp 2) rfl w.heap.size rfl 28 _ (0,0) _ (Blk.new _ _ _ _ rfl) Tryd.underlying28 rfl HS.out ?_)
    have hbA : Below w.heap.size w (w.alloc (.cells (ccells (N : Int) (K : Int) bs).toArray 28)) := (Below.refl w.heap.size w).alloc (Nat.le_refl _) _
    refine (HSC.out _ (HSL.out.below hbA (Nat.le_refl _))).mono ?_
    rintro e w1 ⟨rfl, hb1⟩
    have G := hidd (And.intro ((Blk.new w (ccells (N : Int) (K : Int) bs).toArray 28 _ rfl).below hb1 (by simp)) (hbA.trans (hb1.mono (by simp))))
    clear hb1 hbA
    go_wp2_with fail
    go_loopw [8] (fun e wr => ∃ d : Nat, d ≤ K ∧ e = .int .i64 (d : Int) ∧ Hid ((∀ j, j < d → fzS N bs zs j = []) ∧ Blk wr w.heap.size (ccells (N : Int) (K : Int) bs).toArray 28 ∧ Below w.heap.size w wr)) (fun e _ => K - (intOf e).toNat)
    case atStart => exact ⟨0, Nat.zero_le _, rfl, fun j hj => by omega, G.out.1, G.out.2⟩
    case round =>
      obtain ⟨d, hd, rfl, HK⟩ := hrel
      have c1 := HK.out.2.1.cell HC1.out
      by_cases hlt : d < K
      · have hin := inB_bd (szP_get HSZ.out hlt)
        obtain ⟨m, hm⟩ := Int.eq_ofNat_of_zero_le (show 0 ≤ zs.getD d 0 by omega)
        have hm17 : m ≤ 17 := by omega
        have hm0 : m ≠ 0 := by omega
        rcases HSL.out with hz | ⟨bl, off, ha, hc⟩
        · have := HLZ.out; rw [hz] at this; simp at this; omega
        · subst ha
          have hcd := hc d (by have := HLZ.out; omega)
          rw [hm] at hcd
          have cj := cell_below hcd HK.out.2.2
          have htk := foS_take (N := N) (bs := bs) (c := (d : Int)) hm0
          have hfz : fzS N bs zs d = foS N bs (d : Int) m := by unfold fzS; rw [hm, Int.toNat_natCast]
          rw [← hfz] at htk
          have HLI := hidd (fun W => list45 N (K : Int) bs hb (d : Int) m 1 n1N hN17 (by omega) (by omega) (by omega) W)
          rw [htk] at HLI
          have HCB := hidd (fun W (h : Blk W w.heap.size (ccells (N : Int) (K : Int) bs).toArray 28) (h2 : W.cell? ⟨bl, off + d, none⟩ = some (.int .i64 (m : Int))) => (And.intro h h2 : Blk W w.heap.size (ccells (N : Int) (K : Int) bs).toArray 28 ∧ W.cell? ⟨bl, off + d, none⟩ = some (.int .i64 (m : Int))))
          have HRG := hidd (fun W (h : Blk W w.heap.size (ccells (N : Int) (K : Int) bs).toArray 28 ∧ W.cell? ⟨bl, off + d, none⟩ = some (.int .i64 (m : Int))) => h.1.range 0 (ccells (N : Int) (K : Int) bs) (fun j v hj => by simpa using hj))
          have HSZ2 := hidd (show (Tryd.prog.info? 28).map (·.size) = some (ccells (N : Int) (K : Int) bs).length by rw [HS.out]; simp)
          have HCD := hidd (fun W (h : Below w.heap.size w W) => cell_below hcd h)
          by_cases hx : fzS N bs zs d = []
          · have HX := hidd hx
            rw [if_pos hx] at HLI
            clear hc hcd htk hfz hx hm hm0 hin
            go_wp2_with fail
            refine wp_region_held_drew (S := (fun W => Blk W w.heap.size (ccells (N : Int) (K : Int) bs).toArray 28 ∧ W.cell? ⟨bl, off + d, none⟩ = some (.int .i64 (m : Int)))) (by kernel_rfl) ?_ (fun hHeld => ?_)
            · exact HCB.out _ HK.out.2.1 cj
            refine wpAnyH_take (i := 0) (oi := _) (v := _) rfl (by kernel_rfl) (by kernel_rfl) (by kernel_rfl) (fun _ _ _ h => h) (yieldsIf_load_mid (by rfl) _ _ rfl _ _ rfl _ _ (HRG.out) Tryd.underlying28 rfl (HSZ2.out)) (by assumption) ?_
            simp only [List.getElem_toArray, List.getElem_cons_succ, List.getElem_cons_zero, Act.put, List.setIfInBounds_toArray, List.set_cons_zero, List.set_cons_succ]
            refine wpAnyH_take (i := 1) (oi := _) (v := ?_) rfl (by kernel_rfl) (by kernel_rfl) (by kernel_rfl) (fun _ _ _ h => h) (Or.inl ⟨by rfl, ?_⟩) (by assumption) ?_
            rotate_left
            · intro wX hSw; (try dsimp only at hSw); go_simp; first | done | with_reducible rfl
            simp only [List.getElem_toArray, List.getElem_cons_succ, List.getElem_cons_zero, Act.put, List.setIfInBounds_toArray, List.set_cons_zero, List.set_cons_succ]
            refine wpAnyH_take (i := 2) (oi := _) (v := ?_) rfl (by kernel_rfl) (by kernel_rfl) (by kernel_rfl) (fun _ _ _ h => h) (Or.inl ⟨by rfl, ?_⟩) (by assumption) ?_
            rotate_left
            · intro wX hSw; (try dsimp only at hSw); go_simp; first | done | with_reducible rfl
            simp only [List.getElem_toArray, List.getElem_cons_succ, List.getElem_cons_zero, Act.put, List.setIfInBounds_toArray, List.set_cons_zero, List.set_cons_succ]
            refine wpAnyH_take (i := 3) (oi := _) (v := ?_) rfl (by kernel_rfl) (by kernel_rfl) (by kernel_rfl) (fun _ _ _ h => h) (Or.inl ⟨by rfl, ?_⟩) (by assumption) ?_
            rotate_left
            · intro wX hSw; (try dsimp only at hSw); go_simp; first | done | with_reducible rfl
            simp only [List.getElem_toArray, List.getElem_cons_succ, List.getElem_cons_zero, Act.put, List.setIfInBounds_toArray, List.set_cons_zero, List.set_cons_succ]
            refine wpAnyH_take (i := 4) (oi := _) (v := ?_) rfl (by kernel_rfl) (by kernel_rfl) (by kernel_rfl) (fun _ _ _ h => h) (Or.inl ⟨by rfl, ?_⟩) (by assumption) ?_
            rotate_left
            · intro wX hSw; (try dsimp only at hSw); go_simp; first | done | with_reducible rfl
            simp only [List.getElem_toArray, List.getElem_cons_succ, List.getElem_cons_zero, Act.put, List.setIfInBounds_toArray, List.set_cons_zero, List.set_cons_succ]
            refine wpAnyH_take (i := 5) (oi := _) (v := ?_) rfl (by kernel_rfl) (by kernel_rfl) (by kernel_rfl) (fun _ _ _ h => h) (Or.inl ⟨by rfl, ?_⟩) (by assumption) ?_
            rotate_left
            · intro wX hSw; (try dsimp only at hSw); go_simp; first | done | with_reducible rfl
            simp only [List.getElem_toArray, List.getElem_cons_succ, List.getElem_cons_zero, Act.put, List.setIfInBounds_toArray, List.set_cons_zero, List.set_cons_succ]
            refine wpAnyH_ready (rs := [6]) (by kernel_rfl) (by simp) (AllReadyH.cons (o := _) rfl (fun KQ hKQ => ?_) AllReadyH.nil)
            go_simp
            go_wp2_with (refine (HLI.out _).mono ?_; rintro e W1 ⟨a1, c1', rfl, hLX, hbY⟩; have hbX : Below w.heap.size w W1 := HK.out.2.2.trans ((((Below.refl wr.heap.size wr).drew).trans hbY).mono HK.out.2.2.size); have hbC : Blk W1 w.heap.size (ccells (N : Int) (K : Int) bs).toArray 28 := HK.out.2.1.below (((Below.refl wr.heap.size wr).drew).trans hbY) HK.out.2.1.lt)
            refine hKQ.out _ _ ?_ (fun hNext => ?_)
            · exact HCB.out _ hbC (HCD.out _ hbX)
            clear hKQ KQ hHeld
            have hHeld := hNext
            clear hNext
            have K1 := hidd (And.intro hbC hbX)
            clear hbC hbX hbY hLX
            refine wpAnyH_ready (rs := [7]) (by kernel_rfl) (by simp) (AllReadyH.cons (o := _) rfl (fun KQ hKQ => ?_) AllReadyH.nil)
            go_simp
            refine hKQ.out _ _ ?_ (fun hNext => ?_)
            · exact hHeld
            clear hKQ KQ hHeld
            have hHeld := hNext
            clear hNext
            refine wpAnyH_done (by kernel_rfl) ?_ _
            clear hHeld cj
            go_wp2_with fail
            go_roundw
            case rel => exact ⟨d + 1, by omega, by go_num, ⟨fun j hj => by
              by_cases e : j = d
              · subst e; exact HX.out
              · exact HK.out.1 j (by omega), K1.out⟩⟩
            case measure => simp [intOf]; omega
          · have HR := hidd (fzR_some (fzI_hit HK.out.1 hlt hx))
            rw [if_neg hx] at HLI
            obtain ⟨Z, hZ⟩ : ∃ Z, Z = rv (fzS N bs zs d) := ⟨_, rfl⟩
            rw [← hZ] at HLI HR
            clear hc hcd htk hfz hx hm hm0 hin hZ
            go_wp2_with fail
            refine wp_region_held_drew (S := (fun W => Blk W w.heap.size (ccells (N : Int) (K : Int) bs).toArray 28 ∧ W.cell? ⟨bl, off + d, none⟩ = some (.int .i64 (m : Int)))) (by kernel_rfl) ?_ (fun hHeld => ?_)
            · exact HCB.out _ HK.out.2.1 cj
            refine wpAnyH_take (i := 0) (oi := _) (v := _) rfl (by kernel_rfl) (by kernel_rfl) (by kernel_rfl) (fun _ _ _ h => h) (yieldsIf_load_mid (by rfl) _ _ rfl _ _ rfl _ _ (HRG.out) Tryd.underlying28 rfl (HSZ2.out)) (by assumption) ?_
            simp only [List.getElem_toArray, List.getElem_cons_succ, List.getElem_cons_zero, Act.put, List.setIfInBounds_toArray, List.set_cons_zero, List.set_cons_succ]
            refine wpAnyH_take (i := 1) (oi := _) (v := ?_) rfl (by kernel_rfl) (by kernel_rfl) (by kernel_rfl) (fun _ _ _ h => h) (Or.inl ⟨by rfl, ?_⟩) (by assumption) ?_
            rotate_left
            · intro wX hSw; (try dsimp only at hSw); go_simp; first | done | with_reducible rfl
            simp only [List.getElem_toArray, List.getElem_cons_succ, List.getElem_cons_zero, Act.put, List.setIfInBounds_toArray, List.set_cons_zero, List.set_cons_succ]
            refine wpAnyH_take (i := 2) (oi := _) (v := ?_) rfl (by kernel_rfl) (by kernel_rfl) (by kernel_rfl) (fun _ _ _ h => h) (Or.inl ⟨by rfl, ?_⟩) (by assumption) ?_
            rotate_left
            · intro wX hSw; (try dsimp only at hSw); go_simp; first | done | with_reducible rfl
            simp only [List.getElem_toArray, List.getElem_cons_succ, List.getElem_cons_zero, Act.put, List.setIfInBounds_toArray, List.set_cons_zero, List.set_cons_succ]
            refine wpAnyH_take (i := 3) (oi := _) (v := ?_) rfl (by kernel_rfl) (by kernel_rfl) (by kernel_rfl) (fun _ _ _ h => h) (Or.inl ⟨by rfl, ?_⟩) (by assumption) ?_
            rotate_left
            · intro wX hSw; (try dsimp only at hSw); go_simp; first | done | with_reducible rfl
            simp only [List.getElem_toArray, List.getElem_cons_succ, List.getElem_cons_zero, Act.put, List.setIfInBounds_toArray, List.set_cons_zero, List.set_cons_succ]
            refine wpAnyH_take (i := 4) (oi := _) (v := ?_) rfl (by kernel_rfl) (by kernel_rfl) (by kernel_rfl) (fun _ _ _ h => h) (Or.inl ⟨by rfl, ?_⟩) (by assumption) ?_
            rotate_left
            · intro wX hSw; (try dsimp only at hSw); go_simp; first | done | with_reducible rfl
            simp only [List.getElem_toArray, List.getElem_cons_succ, List.getElem_cons_zero, Act.put, List.setIfInBounds_toArray, List.set_cons_zero, List.set_cons_succ]
            refine wpAnyH_take (i := 5) (oi := _) (v := ?_) rfl (by kernel_rfl) (by kernel_rfl) (by kernel_rfl) (fun _ _ _ h => h) (Or.inl ⟨by rfl, ?_⟩) (by assumption) ?_
            rotate_left
            · intro wX hSw; (try dsimp only at hSw); go_simp; first | done | with_reducible rfl
            simp only [List.getElem_toArray, List.getElem_cons_succ, List.getElem_cons_zero, Act.put, List.setIfInBounds_toArray, List.set_cons_zero, List.set_cons_succ]
            refine wpAnyH_ready (rs := [6]) (by kernel_rfl) (by simp) (AllReadyH.cons (o := _) rfl (fun KQ hKQ => ?_) AllReadyH.nil)
            go_simp
            go_wp2_with (refine (HLI.out _).mono ?_; rintro e W1 ⟨a1, c1', rfl, hLX, hbY⟩; have hbX : Below w.heap.size w W1 := HK.out.2.2.trans ((((Below.refl wr.heap.size wr).drew).trans hbY).mono HK.out.2.2.size); have hbC : Blk W1 w.heap.size (ccells (N : Int) (K : Int) bs).toArray 28 := HK.out.2.1.below (((Below.refl wr.heap.size wr).drew).trans hbY) HK.out.2.1.lt)
            refine hKQ.out _ _ ?_ (fun hNext => ?_)
            · exact HCB.out _ hbC (HCD.out _ hbX)
            clear hKQ KQ hHeld
            have hHeld := hNext
            clear hNext
            obtain ⟨g, cap1, hv, a2, c2, hcell, hown⟩ := ll_first hLX
            cases hv
            have K1 := hidd (And.intro hbX hown)
            clear hbC hbX hbY hLX hown
            refine wpAnyH_ready (rs := [7]) (by kernel_rfl) (by simp) (AllReadyH.cons (o := _) rfl (fun KQ hKQ => ?_) AllReadyH.nil)
            go_simp
            refine hKQ.out _ _ ?_ (fun hNext => ?_)
            · exact hHeld
            clear hKQ KQ hHeld
            have hHeld := hNext
            clear hNext
            refine wpAnyH_done (by kernel_rfl) ?_ _
            clear hHeld cj
            go_wp2_with fail
            go_quiet (fail)
            go_wp2_with fail
            go_ret3
            rw [HR.out]
            exact ⟨a2, c2, rfl, OwnL.below K1.out.2 (below_drewN (Below.refl _ _) _) (Nat.le_refl _), below_drewN K1.out.1 _⟩
      · have hde : d = K := by omega
        have HP := hidd (fzR_none (fzI_none (K := K) (fun j hj => HK.out.1 j (by omega))))
        have hltI : decide ((d : Int) < (K : Int)) = false := by simp; omega
        clear hde
        go_wp2_with fail
        go_ret3
        rw [HP.out]
        exact ⟨none, 0, rfl, .inl rfl, HK.out.2.2⟩
  · have hg := fz_bad hc0
    rw [hg.1, hg.2.1, hg.2.2]
    obtain ⟨cd, hcd⟩ : ∃ cd, cd = szCode n k bs zs := ⟨_, rfl⟩
    rw [← hcd] at HSC hc0 ⊢
    have hz : (cd != 0) = true := by rw [bne_iff_ne]; exact hc0
    clear hg hcd hs hc0
    go_enter Tryd.func13, Tryd.ntmps13
    go_wp2_with (refine wpList_load_row rfl 28 (.tmp 2) rfl w.heap.size rfl 28 _ (0,0) _ (Blk.new _ _ _ _ rfl) Tryd.underlying28 rfl HS.out ?_)
    have hbA : Below w.heap.size w (w.alloc (.cells (ccells n k bs).toArray 28)) := (Below.refl w.heap.size w).alloc (Nat.le_refl _) _
    refine (HSC.out _ (HSL.out.below hbA (Nat.le_refl _))).mono ?_
    rintro e w1 ⟨rfl, hb1⟩
    have G := hidd (hbA.trans (hb1.mono (by simp)))
    clear hb1 hbA
    go_wp2_with fail
    go_ret3
    exact ⟨none, 0, rfl, .inl rfl, G.out⟩
end Go.Proofs.YtkiocedhibeieaaDoor
