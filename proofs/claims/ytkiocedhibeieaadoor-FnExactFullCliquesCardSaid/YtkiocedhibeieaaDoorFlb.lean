/- l02Full: the program. -/
import Derived.Test.YtkiocedhibeieaaDoorFla
import Derived.Test.YtkiocedhibeieaaDoorCpr
namespace Go.Proofs.YtkiocedhibeieaaDoor
set_option linter.unusedVariables false
set_option linter.unusedSimpArgs false
open Go Go.RowKit Go.Shelf
/-- A list of the call's own; of what was there, only the old list's block may have turned. -/
def FOut (w : World) (v : Value) (L : List Int) (e : Ending) (w' : World) : Prop :=
  ∃ a c, e = .returned (.slice a L.length c) ∧ w'.ownsRow 0 2 1 (.slice a L.length c) L.length (icells L) ∧ Fr w w' v (.slice a L.length c)
theorem own_shape2 {w : World} {v : Value} {L : List Int} (h : w.ownsRow 0 2 1 v L.length (icells L)) : ∃ a c, v = .slice a L.length c := by
  obtain ⟨a, c, e, _⟩ := own_list h
  exact ⟨a, c, e⟩
theorem and_pow (P j : Nat) : P &&& 2 ^ j = if P.testBit j = true then 2 ^ j else 0 := by
  apply Nat.eq_of_testBit_eq
  intro q
  rw [Nat.testBit_and, Nat.testBit_two_pow]
  by_cases e : j = q
  · subst e
    cases h : P.testBit j <;> simp
  · rw [decide_eq_false e, Bool.and_false]
    split
    · rw [Nat.testBit_two_pow, decide_eq_false e]
    · rw [Nat.zero_testBit]
/-- What the rows are: N of them, in a block that is not the list's. -/
def RwB (w : World) (g : Nat) (v : Value) (N : Nat) (R : Nat → Nat) : Prop := ∃ C, Blk w g C 2 ∧ v.ownBlock ≠ some g ∧ ∀ j, j < N → C[j]? = some (.int .i64 ((R j : Nat) : Int))
theorem RwB.fr {w w' : World} {g N : Nat} {v v' : Value} {R : Nat → Nat} (h : RwB w g v N R) (hf : Fr w w' v v') : RwB w' g v' N R := by
  obtain ⟨C, h1, h2, h4⟩ := h
  refine ⟨C, (hf.1.block g h1.lt (fun e => h2 e.symm)).trans h1, fun e => ?_, h4⟩
  rcases hf.2 g e with h5 | h5
  · have := h1.lt; omega
  · exact h2 h5
theorem RwB.cell {w : World} {g N : Nat} {v : Value} {R : Nat → Nat} (h : RwB w g v N R) {j : Nat} (hj : j < N) : w.cell? ⟨g, j, none⟩ = some (.int .i64 ((R j : Nat) : Int)) := by
  obtain ⟨C, h1, h2, h4⟩ := h
  exact h1.cell (h4 j hj)
theorem bitS_cons (q : Nat) (s : List Nat) : bitS (q :: s) = bitS s ||| 2 ^ q := rfl
set_option maxRecDepth 100000 in
set_option maxHeartbeats 4000000 in
theorem full56 (N : Nat) (hN : N ≤ 17) (R : Nat → Nat) (h0 : ∀ q, (R q).testBit q = false) (hR : ∀ p, R p < 2 ^ 17) (g cap most : Nat) (hm2 : most ≤ 1000) :
    ∀ (D d : Nat) (s : List Nat), d < D → d ≤ N → (∀ q ∈ s, q < N) → ∀ (w : World) (ao : Option Addr) (co : Nat) (L : List Int), RwB w g (.slice ao L.length co) N R → w.ownsRow 0 2 1 (.slice ao L.length co) L.length (icells L) → L.length ≤ most →
    Calls Tryd.prog 56 #[.slice (some ⟨g, 0, none⟩) N cap, .int .i64 (bitS s : Nat), .int .i64 (frB R N s d : Nat), .int .i64 (xB R N s d : Nat), .slice ao L.length co, .int .i64 (most : Int)] w (FOut w (.slice ao L.length co) ((L ++ (fqH R N d s).map fun c => ((bitS c : Nat) : Int)).take most))
  | 0, d, s, hd0, _, _, _, _, _, _, _, _, _ => absurd hd0 (by omega)
  | D + 1, d, s, hd0, hd, hs, w, ao, co, L, hA, hL, hlm => by
    have HREC := hidd (fun d s (hd0 : d < D) hd hs => full56 N hN R h0 hR g cap most hm2 D d s hd0 hd hs)
    obtain ⟨t0, hi2, hz0, hz1, hz3⟩ := info_parts info2
    have HIF := hidd (And.intro hi2 (And.intro hz0 (And.intro hz1 hz3)))
    have HA := hidd hA
    have HL := hidd hL
    have hs17 : bitS s < 2 ^ 17 := Nat.lt_of_lt_of_le (bitS_lt s hs) (Nat.pow_le_pow_right (by omega) hN)
    have hF17 := frB_lt R hN s d
    have hX17 := xB_lt R hN s d
    obtain ⟨S, hS⟩ : ∃ S, S = bitS s := ⟨_, rfl⟩
    obtain ⟨F, hF⟩ : ∃ F, F = frB R N s d := ⟨_, rfl⟩
    obtain ⟨X, hX⟩ : ∃ X, X = xB R N s d := ⟨_, rfl⟩
    have hful : fulB R N s = true ↔ F = 0 ∧ X = 0 := by rw [hF, hX]; exact fulB_iff
    have hnone : F = 0 → fqE R N d s = [] := fun e => fqE_none hd (by rw [← hF]; exact e)
    rw [← hS] at hs17
    rw [← hF] at hF17
    rw [← hX] at hX17
    rw [← hS, ← hF, ← hX]
    by_cases hf0 : F = 0
    · subst hf0
      have hE := hnone rfl
      by_cases hx0 : X = 0
      · subst hx0
        have hH : fqH R N d s = [s] := by unfold fqH; rw [if_pos (hful.2 ⟨rfl, rfl⟩), hE]; rfl
        rw [hH]
        by_cases hlt : L.length < most
        · have hcI : decide ((L.length : Int) < (most : Int)) = true := by simp; omega
          have hres : (L ++ [s].map fun c => ((bitS c : Nat) : Int)).take most = L ++ [(S : Int)] := by
            rw [hS]; exact List.take_of_length_le (by simp; omega)
          rw [hres]
          have hown := hL
          clear hres hE hH hful hnone hF hX hS hA hL HREC hi2 hz0 hz1 hz3
          go_enter Tryd.func56, Tryd.ntmps56
          go_wp2_with (at_builtin; refine wpList_append_own_at _ rfl _ _ 25 rfl 0 2 t0 (.int .i64 0) 1 8 Tryd.underlying25 HIF.out.1 HIF.out.2.1 HIF.out.2.2.1 HIF.out.2.2.2 rfl (by decide) _ _ _ rfl (hown.alloc _) ⟨_, 0, none⟩ 1 1 [.int .i64 (S : Int)] rfl rfl ?c1 ?c2 ?c3 ?c4 ?c5 ?_)
          case c1 => exact one_new _ _ _
          case c2 => intro u hu; simp at hu; subst hu; rfl
          case c3 => unfold maxLen; omega
          case c4 => omega
          case c5 => simp
          intro v' w4 hown' hgrow hnil hat
          have hown2 : w4.ownsRow 0 2 1 v' (L ++ [(S : Int)]).length (icells (L ++ [(S : Int)])) := by rw [List.length_append, icells_app]; exact hown'
          have hfr : Fr w w4 (.slice ao L.length co) v' := (Fr.below ((Below.refl w.heap.size w).alloc (Nat.le_refl _) _) (.slice ao L.length co)).trans ⟨hgrow, fun r hr => by
            rcases hat with e | e
            · exact .inr (by rw [← e]; exact hr)
            · rw [hr] at e; cases e; exact .inl (by simp)⟩
          obtain ⟨a', c', rfl⟩ := own_shape2 hown2
          have K4 := hidd (And.intro hown2 hfr)
          clear hown2 hown' hgrow hown hfr hat hnil
          go_wp2
          go_ret
          exact ⟨a', c', rfl, K4.out.1, K4.out.2⟩
        · have hcI : decide ((L.length : Int) < (most : Int)) = false := by simp; omega
          have hres : (L ++ [s].map fun c => ((bitS c : Nat) : Int)).take most = L := by
            rw [List.take_append_of_le_length (by omega), List.take_of_length_le (by omega)]
          rw [hres]
          clear hres hE hH hful hnone hF hX hS hA hL HREC hi2 hz0 hz1 hz3
          go_enter Tryd.func56, Tryd.ntmps56
          go_wp2
          go_ret
          exact ⟨ao, co, rfl, HL.out, Fr.refl _ _⟩
      · have hxI : ((X : Int) == 0) = false := by simpa using hx0
        have hH : fqH R N d s = [] := by
          unfold fqH
          rw [if_neg (fun h => hx0 (hful.1 h).2), hE]; rfl
        have hres : (L ++ (fqH R N d s).map fun c => ((bitS c : Nat) : Int)).take most = L := by
          rw [hH]; simp only [List.map_nil, List.append_nil]; exact List.take_of_length_le hlm
        rw [hres]
        clear hres hE hH hful hnone hF hX hS hA hL HREC hi2 hz0 hz1 hz3
        go_enter Tryd.func56, Tryd.ntmps56
        go_wp2
        go_ret
        exact ⟨ao, co, rfl, HL.out, Fr.refl _ _⟩
    · have hfI : ((F : Int) == 0) = false := by simpa using hf0
      have hH : fqH R N d s = fqE R N d s := by
        unfold fqH
        rw [if_neg (fun h => hf0 (hful.1 h).1)]; rfl
      rw [hH]
      have HS := hidd hS
      have HST := hidd (show F = frB R N s (min d (N - 0)) ∧ X = xB R N s (min d (N - 0)) by
        rw [show min d (N - 0) = d by omega]; exact ⟨hF, hX⟩)
      clear hH hful hnone hF hX hS hA hL hi2 hz0 hz1 hz3
      go_enter Tryd.func56, Tryd.ntmps56
      go_wp2_with fail
      go_loopw [2, 3, 4, 13] (fun ef ex v e wr => ∃ (j : Nat) (a' : Option Addr) (c' : Nat) (cur : List Int), j ≤ N ∧ e = .int .i64 (j : Int) ∧ ef = .int .i64 (frB R N s (min d (N - j)) : Nat) ∧ ex = .int .i64 (xB R N s (min d (N - j)) : Nat) ∧ v = .slice a' cur.length c' ∧ Hid (Fway R N d s L most (N - j) cur ∧ wr.ownsRow 0 2 1 (.slice a' cur.length c') cur.length (icells cur) ∧ RwB wr g (.slice a' cur.length c') N R ∧ Fr w wr (.slice ao L.length co) (.slice a' cur.length c'))) (fun _ _ _ e _ => N - (intOf e).toNat)
      case atStart => exact ⟨0, ao, co, L, by omega, rfl, by rw [← HST.out.1], by rw [← HST.out.2], rfl, hidd ⟨fway_start hd hlm, HL.out, HA.out, Fr.refl _ _⟩⟩
      case round =>
        clear HST
        obtain ⟨j, a', c', cur, hj, rfl, rfl, rfl, rfl, HK⟩ := hrel
        have hcl := fway_len HK.out.1
        have hP17 := frB_lt R hN s (min d (N - j))
        have hX17 := xB_lt R hN s (min d (N - j))
        obtain ⟨P, hP⟩ : ∃ P, P = frB R N s (min d (N - j)) := ⟨_, rfl⟩
        obtain ⟨X, hX⟩ : ∃ X, X = xB R N s (min d (N - j)) := ⟨_, rfl⟩
        rw [← hP] at hP17 ⊢
        rw [← hX] at hX17 ⊢
        by_cases hlt : j < N
        · by_cases hcm : cur.length < most
          · have hcI : decide ((cur.length : Int) < (most : Int)) = true := by simp; omega
            have hlI : decide ((j : Int) < (N : Int)) = true := by simp; omega
            have hju : IntKind.u64.wrap (j : Int) = (j : Int) := by unfold IntKind.wrap; simp [IntKind.signed, IntKind.bits]; omega
            have hmn : min j 64 = j := by omega
            obtain ⟨Y, hY⟩ : ∃ Y : Nat, Y = 2 ^ j := ⟨_, rfl⟩
            have hYv : Y ≤ 131072 := by rw [hY]; exact Nat.pow_le_pow_right (by omega) (show j ≤ 17 by omega)
            have hY1 : 1 ≤ Y := by rw [hY]; exact Nat.two_pow_pos j
            have hsh : IntKind.i64.wrap (2 ^ j) = (Y : Int) := by rw [show (2 : Int) ^ j = ((2 ^ j : Nat) : Int) by simp, ← hY]; exact IntWalk.i64_in _ (by omega)
            have handb := i64_and_nat P Y (by omega) (by omega)
            have hpw := and_pow P j
            rw [← hY] at hpw
            cases hbit : P.testBit j with
            | false =>
              rw [hbit, if_neg (by simp)] at hpw
              rw [hpw] at handb
              have HSK := hidd (fx_skip (d := d) (s := s) (R := R) hlt (by rw [← hP]; exact hbit))
              have HW := hidd (show Fway R N d s L most (N - (j + 1)) cur ∧ wr.ownsRow 0 2 1 (.slice a' cur.length c') cur.length (icells cur) ∧ RwB wr g (.slice a' cur.length c') N R ∧ Fr w wr (.slice ao L.length co) (.slice a' cur.length c') from ⟨fway_skip HK.out.1 hlt hd (by rw [← hP]; exact hbit), HK.out.2⟩)
              have HPX := hidd (And.intro hP hX)
              clear hbit hpw hP hX hY HK
              go_wp2_with fail
              go_roundw
              case rel => exact ⟨j + 1, a', c', cur, by omega, by go_num, by rw [HSK.out.1, ← HPX.out.1], by rw [HSK.out.2, ← HPX.out.2], rfl, HW⟩
              case measure => simp [intOf]; omega
            | true =>
              rw [hbit, if_pos rfl] at hpw
              rw [hpw] at handb
              have hzz : ((Y : Int) == 0) = false := by
                have : ¬ (Y : Int) = 0 := by omega
                simpa using this
              have hb2 : (frB R N s (min d (N - j))).testBit j = true := by rw [← hP]; exact hbit
              have HTK := hidd (fx_take hlt hb2)
              have hdn := fx_down h0 hlt hb2
              have hW := fway_take HK.out.1 hlt hb2 hcm
              have hmd : min d (N - j) = N - j := (fx_hit hlt hb2).1
              have hD1 : N - (j + 1) < D := by omega
              have hD2 : N - (j + 1) ≤ N := by omega
              rw [← hP, ← hX] at hdn
              have hx := hR j
              have crow := HK.out.2.2.1.cell hlt
              have HCJ := hidd (fun W v (h : RwB W g v N R) => h.cell hlt)
              have HREC2 := HREC.out (N - (j + 1)) (j :: s) hD1 hD2 (fun q hq => by
                rcases List.mem_cons.1 hq with h | h
                · rw [h]; exact hlt
                · exact hs q h)
              rw [← hdn.1, ← hdn.2, bitS_cons, ← HS.out, ← hY] at HREC2
              obtain ⟨x, hxe⟩ : ∃ x, x = R j := ⟨_, rfl⟩
              rw [← hxe] at hx crow HCJ HREC2
              have hand1 := i64_and_nat P x (by omega) (by omega)
              have hand2 := i64_and_nat X x (by omega) (by omega)
              have hor1 := i64_or_nat S Y (by omega) (by omega)
              have hor2 := i64_or_nat X Y (by omega) (by omega)
              have hxor := i64_xor_nat P Y (by omega) (by omega)
              have HREC3 := hidd (fun W ao co (hA : RwB W g (.slice ao cur.length co) N R) (hL : W.ownsRow 0 2 1 (.slice ao cur.length co) cur.length (icells cur)) => HREC2 W ao co cur hA hL hcl)
              have hHT := HTK.out
              rw [← hP, ← hX, ← hY] at hHT
              obtain ⟨nx, hnx⟩ : ∃ nx, nx = (cur ++ (fqH R N (N - (j + 1)) (j :: s)).map fun c => ((bitS c : Nat) : Int)).take most := ⟨_, rfl⟩
              rw [← hnx] at hW HREC3
              have HW := hidd hW
              have HHT := hidd hHT
              clear hW hHT hnx HREC2 hxe hdn hmd HTK hb2 hpw hbit hP hX hY
              go_wp2_with fail
              refine wp_region_held_drew (S := (fun W => W.cell? ⟨g, j, none⟩ = some (.int .i64 (x : Int)))) (by kernel_rfl) ?_ (fun hHeld => ?_)
              · exact crow
              refine wpAnyH_take (i := 0) (oi := _) (v := ?_) rfl (by kernel_rfl) (by kernel_rfl) (by kernel_rfl) (fun _ _ _ h => h) (Or.inl ⟨by rfl, ?_⟩) (by assumption) ?_
              rotate_left
              · intro wX hSw; (try dsimp only at hSw); go_simp; first | done | with_reducible rfl
              simp only [List.getElem_toArray, List.getElem_cons_succ, List.getElem_cons_zero, Act.put, List.setIfInBounds_toArray, List.set_cons_zero, List.set_cons_succ]
              refine wpAnyH_take (i := 1) (oi := _) (v := ?_) rfl (by kernel_rfl) (by kernel_rfl) (by kernel_rfl) (fun _ _ _ h => h) (Or.inl ⟨by rfl, ?_⟩) (by assumption) ?_
              rotate_left
              · intro wX hSw; (try dsimp only at hSw); go_simp; first | done | with_reducible rfl
              simp only [List.getElem_toArray, List.getElem_cons_succ, List.getElem_cons_zero, Act.put, List.setIfInBounds_toArray, List.set_cons_zero, List.set_cons_succ]
              refine wpAnyH_take (i := 2) (oi := _) (v := ?_) rfl (by kernel_rfl) (by kernel_rfl) (by kernel_rfl) (fun _ _ _ h => h) (Or.inl ⟨by rfl, ?_⟩) (by assumption) ?_
              rotate_left
              · intro wX hSw; (try dsimp only at hSw); go_simp; first | done | with_reducible rfl
              simp only [List.getElem_toArray, List.getElem_cons_succ, List.getElem_cons_zero, Act.put, List.setIfInBounds_toArray, List.set_cons_zero, List.set_cons_succ]
              refine wpAnyH_take (i := 3) (oi := _) (v := ?_) rfl (by kernel_rfl) (by kernel_rfl) (by kernel_rfl) (fun _ _ _ h => h) (Or.inl ⟨by rfl, ?_⟩) (by assumption) ?_
              rotate_left
              · intro wX hSw; (try dsimp only at hSw); go_simp; first | done | with_reducible rfl
              simp only [List.getElem_toArray, List.getElem_cons_succ, List.getElem_cons_zero, Act.put, List.setIfInBounds_toArray, List.set_cons_zero, List.set_cons_succ]
              refine wpAnyH_take (i := 4) (oi := _) (v := ?_) rfl (by kernel_rfl) (by kernel_rfl) (by kernel_rfl) (fun _ _ _ h => h) (Or.inl ⟨by rfl, ?_⟩) (by assumption) ?_
              rotate_left
              · intro wX hSw; (try dsimp only at hSw); go_simp; first | done | with_reducible rfl
              simp only [List.getElem_toArray, List.getElem_cons_succ, List.getElem_cons_zero, Act.put, List.setIfInBounds_toArray, List.set_cons_zero, List.set_cons_succ]
              refine wpAnyH_take (i := 5) (oi := _) (v := ?_) rfl (by kernel_rfl) (by kernel_rfl) (by kernel_rfl) (fun _ _ _ h => h) (Or.inl ⟨by rfl, ?_⟩) (by assumption) ?_
              rotate_left
              · intro wX hSw; (try dsimp only at hSw); go_simp; first | done | with_reducible rfl
              simp only [List.getElem_toArray, List.getElem_cons_succ, List.getElem_cons_zero, Act.put, List.setIfInBounds_toArray, List.set_cons_zero, List.set_cons_succ]
              refine wpAnyH_take (i := 6) (oi := _) (v := ?_) rfl (by kernel_rfl) (by kernel_rfl) (by kernel_rfl) (fun _ _ _ h => h) (Or.inl ⟨by rfl, ?_⟩) (by assumption) ?_
              rotate_left
              · intro wX hSw; (try dsimp only at hSw); go_simp; first | done | with_reducible rfl
              simp only [List.getElem_toArray, List.getElem_cons_succ, List.getElem_cons_zero, Act.put, List.setIfInBounds_toArray, List.set_cons_zero, List.set_cons_succ]
              refine wpAnyH_take (i := 7) (oi := _) (v := ?_) rfl (by kernel_rfl) (by kernel_rfl) (by kernel_rfl) (fun _ _ _ h => h) (Or.inl ⟨by rfl, ?_⟩) (by assumption) ?_
              rotate_left
              · intro wX hSw; (try dsimp only at hSw); go_simp; first | done | with_reducible rfl
              simp only [List.getElem_toArray, List.getElem_cons_succ, List.getElem_cons_zero, Act.put, List.setIfInBounds_toArray, List.set_cons_zero, List.set_cons_succ]
              refine wpAnyH_take (i := 8) (oi := _) (v := ?_) rfl (by kernel_rfl) (by kernel_rfl) (by kernel_rfl) (fun _ _ _ h => h) (Or.inl ⟨by rfl, ?_⟩) (by assumption) ?_
              rotate_left
              · intro wX hSw; (try dsimp only at hSw); go_simp; first | done | with_reducible rfl
              simp only [List.getElem_toArray, List.getElem_cons_succ, List.getElem_cons_zero, Act.put, List.setIfInBounds_toArray, List.set_cons_zero, List.set_cons_succ]
              refine wpAnyH_take (i := 9) (oi := _) (v := ?_) rfl (by kernel_rfl) (by kernel_rfl) (by kernel_rfl) (fun _ _ _ h => h) (Or.inl ⟨by rfl, ?_⟩) (by assumption) ?_
              rotate_left
              · intro wX hSw; (try dsimp only at hSw); go_simp; first | done | with_reducible rfl
              simp only [List.getElem_toArray, List.getElem_cons_succ, List.getElem_cons_zero, Act.put, List.setIfInBounds_toArray, List.set_cons_zero, List.set_cons_succ]
              refine wpAnyH_take (i := 10) (oi := _) (v := ?_) rfl (by kernel_rfl) (by kernel_rfl) (by kernel_rfl) (fun _ _ _ h => h) (Or.inl ⟨by rfl, ?_⟩) (by assumption) ?_
              rotate_left
              · intro wX hSw; (try dsimp only at hSw); go_simp; first | done | with_reducible rfl
              simp only [List.getElem_toArray, List.getElem_cons_succ, List.getElem_cons_zero, Act.put, List.setIfInBounds_toArray, List.set_cons_zero, List.set_cons_succ]
              refine wpAnyH_take (i := 11) (oi := _) (v := ?_) rfl (by kernel_rfl) (by kernel_rfl) (by kernel_rfl) (fun _ _ _ h => h) (Or.inl ⟨by rfl, ?_⟩) (by assumption) ?_
              rotate_left
              · intro wX hSw; (try dsimp only at hSw); go_simp; first | done | with_reducible rfl
              simp only [List.getElem_toArray, List.getElem_cons_succ, List.getElem_cons_zero, Act.put, List.setIfInBounds_toArray, List.set_cons_zero, List.set_cons_succ]
              refine wpAnyH_take (i := 12) (oi := _) (v := ?_) rfl (by kernel_rfl) (by kernel_rfl) (by kernel_rfl) (fun _ _ _ h => h) (Or.inl ⟨by rfl, ?_⟩) (by assumption) ?_
              rotate_left
              · intro wX hSw; (try dsimp only at hSw); go_simp; first | done | with_reducible rfl
              simp only [List.getElem_toArray, List.getElem_cons_succ, List.getElem_cons_zero, Act.put, List.setIfInBounds_toArray, List.set_cons_zero, List.set_cons_succ]
              refine wpAnyH_take (i := 13) (oi := _) (v := ?_) rfl (by kernel_rfl) (by kernel_rfl) (by kernel_rfl) (fun _ _ _ h => h) (Or.inl ⟨by rfl, ?_⟩) (by assumption) ?_
              rotate_left
              · intro wX hSw; (try dsimp only at hSw); go_simp; first | done | with_reducible rfl
              simp only [List.getElem_toArray, List.getElem_cons_succ, List.getElem_cons_zero, Act.put, List.setIfInBounds_toArray, List.set_cons_zero, List.set_cons_succ]
              refine wpAnyH_take (i := 14) (oi := _) (v := ?_) rfl (by kernel_rfl) (by kernel_rfl) (by kernel_rfl) (fun _ _ _ h => h) (Or.inl ⟨by rfl, ?_⟩) (by assumption) ?_
              rotate_left
              · intro wX hSw; (try dsimp only at hSw); go_simp; first | done | with_reducible rfl
              simp only [List.getElem_toArray, List.getElem_cons_succ, List.getElem_cons_zero, Act.put, List.setIfInBounds_toArray, List.set_cons_zero, List.set_cons_succ]
              refine wpAnyH_take (i := 15) (oi := _) (v := ?_) rfl (by kernel_rfl) (by kernel_rfl) (by kernel_rfl) (fun _ _ _ h => h) (Or.inl ⟨by rfl, ?_⟩) (by assumption) ?_
              rotate_left
              · intro wX hSw; (try dsimp only at hSw); go_simp; first | done | with_reducible rfl
              simp only [List.getElem_toArray, List.getElem_cons_succ, List.getElem_cons_zero, Act.put, List.setIfInBounds_toArray, List.set_cons_zero, List.set_cons_succ]
              refine wpAnyH_take (i := 16) (oi := _) (v := ?_) rfl (by kernel_rfl) (by kernel_rfl) (by kernel_rfl) (fun _ _ _ h => h) (Or.inl ⟨by rfl, ?_⟩) (by assumption) ?_
              rotate_left
              · intro wX hSw; (try dsimp only at hSw); go_simp; first | done | with_reducible rfl
              simp only [List.getElem_toArray, List.getElem_cons_succ, List.getElem_cons_zero, Act.put, List.setIfInBounds_toArray, List.set_cons_zero, List.set_cons_succ]
              refine wpAnyH_take (i := 17) (oi := _) (v := ?_) rfl (by kernel_rfl) (by kernel_rfl) (by kernel_rfl) (fun _ _ _ h => h) (Or.inl ⟨by rfl, ?_⟩) (by assumption) ?_
              rotate_left
              · intro wX hSw; (try dsimp only at hSw); go_simp; first | done | with_reducible rfl
              simp only [List.getElem_toArray, List.getElem_cons_succ, List.getElem_cons_zero, Act.put, List.setIfInBounds_toArray, List.set_cons_zero, List.set_cons_succ]
              refine wpAnyH_ready (rs := [18]) (by kernel_rfl) (by simp) (AllReadyH.cons (o := _) rfl (fun KQ hKQ => ?_) AllReadyH.nil)
              go_simp
              refine (HREC3.out _ a' c' (HK.out.2.2.1.fr (Fr.below (Below.refl wr.heap.size wr).drew _)) (own_below (B := wr.heap.size) HK.out.2.1 ((Below.refl _ _).drew) (Nat.le_refl _))).mono ?_
              rintro e W1 ⟨a2, c2, rfl, ho, hb1⟩
              have hbX : Fr wr W1 (.slice a' cur.length c') (.slice a2 nx.length c2) := (Fr.below (Below.refl wr.heap.size wr).drew _).trans hb1
              have hRW := HK.out.2.2.1.fr hbX
              refine hKQ.out _ _ ?_ (fun hNext => ?_)
              · exact HCJ.out _ _ hRW
              clear hKQ KQ hHeld
              have hHeld := hNext
              clear hNext
              refine wpAnyH_take (i := 19) (oi := _) (v := ?_) rfl (by kernel_rfl) (by kernel_rfl) (by kernel_rfl) (fun _ _ _ h => h) (Or.inl ⟨by rfl, ?_⟩) (by assumption) ?_
              rotate_left
              · intro wX hSw; (try dsimp only at hSw); go_simp; first | done | with_reducible rfl
              simp only [List.getElem_toArray, List.getElem_cons_succ, List.getElem_cons_zero, Act.put, List.setIfInBounds_toArray, List.set_cons_zero, List.set_cons_succ]
              refine wpAnyH_done (by kernel_rfl) ?_ _
              have K3 := hidd (show Fway R N d s L most (N - (j + 1)) nx ∧ W1.ownsRow 0 2 1 (.slice a2 nx.length c2) nx.length (icells nx) ∧ RwB W1 g (.slice a2 nx.length c2) N R ∧ Fr w W1 (.slice ao L.length co) (.slice a2 nx.length c2) from ⟨HW.out, ho, hRW, HK.out.2.2.2.trans hbX⟩)
              clear hHeld ho hb1 hbX hRW HK crow
              go_wp2_with fail
              go_roundw
              case rel => exact ⟨j + 1, a2, c2, nx, by omega, by go_num, by rw [HHT.out.1], by rw [HHT.out.2], rfl, K3⟩
              case measure => simp [intOf]; omega
          · have hcI : decide ((cur.length : Int) < (most : Int)) = false := by simp; omega
            have hlI : decide ((j : Int) < (N : Int)) = true := by simp; omega
            have HE := hidd (fway_end HK.out.1 (.inr (by omega)))
            clear hP hX
            go_wp2_with fail
            go_ret
            rw [← HE.out]
            exact ⟨a', c', rfl, HK.out.2.1, HK.out.2.2.2⟩
        · have hlI : decide ((j : Int) < (N : Int)) = false := by simp; omega
          have HE := hidd (fway_end HK.out.1 (.inl (by omega)))
          clear hP hX
          go_wp2_with fail
          go_ret
          rw [← HE.out]
          exact ⟨a', c', rfl, HK.out.2.1, HK.out.2.2.2⟩
end Go.Proofs.YtkiocedhibeieaaDoor
