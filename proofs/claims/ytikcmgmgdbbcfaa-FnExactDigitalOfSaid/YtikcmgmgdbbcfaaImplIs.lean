import Derived.Test.YtikcmgmgdbbcfaaSl
namespace Go.Proofs.Ytikcmgmgdbbcfaa
open Go Go.RowKit
theorem shape47_no (n k : Int) (w : World) (h : n < 1 ∨ 17 < n ∨ k < 1 ∨ 4 < k) :
    Calls Try.prog 91 #[.int .i64 n, .int .i64 k] w fun e w' => e = .returned (.bool false) ∧ w = w' := by
  by_cases h1 : n < 1
  · clear h
    go_enter Try.func91, Try.ntmps91
    go_wp2
    go_ret
    exact ⟨rfl, rfl⟩
  · have h1' : 1 ≤ n := by omega
    by_cases h2 : 17 < n
    · clear h
      go_enter Try.func91, Try.ntmps91
      go_wp2
      go_ret
      exact ⟨rfl, rfl⟩
    · have h2' : n ≤ 17 := by omega
      by_cases h3 : k < 1
      · clear h
        go_enter Try.func91, Try.ntmps91
        go_wp2
        go_ret
        exact ⟨rfl, rfl⟩
      · have h3' : 1 ≤ k := by omega
        have h4 : decide (k ≤ 4) = false := by simp; omega
        clear h
        go_enter Try.func91, Try.ntmps91
        go_wp2
        go_ret
        exact ⟨rfl, rfl⟩
theorem shape47_yes (n k : Int) (w : World) (h1 : 1 ≤ n) (h2 : n ≤ 17) (h3 : 1 ≤ k) (h4 : k ≤ 4) :
    Calls Try.prog 91 #[.int .i64 n, .int .i64 k] w fun e w' => e = .returned (.bool true) ∧ w = w' := by
  go_enter Try.func91, Try.ntmps91
  go_wp2
  go_ret
  exact ⟨rfl, rfl⟩
theorem edge48 (n : Int) (w : World) (h1 : 1 ≤ n) (h2 : n ≤ 17) :
    Calls Try.prog 92 #[.int .i64 n] w fun e w' => e = .returned (.int .i64 (edg n)) ∧ w = w' := by
  have hm := mul_bd h1 h2
  obtain ⟨hm0, hm1⟩ := hm
  go_enter Try.func92, Try.ntmps92
  go_wp2
  go_ret
  exact ⟨rfl, rfl⟩
theorem implIs_no (n k : Int) (C : Array Value) (w : World) (hC0 : C[0]? = some (.int .i64 n)) (hC1 : C[1]? = some (.int .i64 k)) (h : n < 1 ∨ 17 < n ∨ k < 1 ∨ 4 < k) :
    Calls Try.prog 56 #[.agg C] w fun e w' => e = .returned (.bool false) ∧ Below w.heap.size w w' := by
  have H := hidd h
  clear h
  go_enter Try.func56, Try.ntmps56
  go_wp2_with (go_at_call 91; refine (shape47_no _ _ _ H.out).mono ?_; rintro e w' ⟨rfl, rfl⟩)
  go_ret
  exact ⟨rfl, (Below.refl _ _).alloc (Nat.le_refl _) _⟩
def RelA17 (w : World) (n k : Int) (bs : List Nat) (C : Array Value) (j : Nat) (wr : World) : Prop :=
  Blk wr w.heap.size C 25 ∧ (∀ i, i < j → goodAt n k bs i = true) ∧ Below w.heap.size w wr
set_option maxRecDepth 100000 in
set_option maxHeartbeats 1000000 in
theorem implIs_any (n k : Int) (bs : List Nat) (hb : Bys bs) (w : World) :
    Calls Try.prog 56 #[.agg (ccells n k bs).toArray] w fun e w' => e = .returned (.bool (isCol n k bs)) ∧ Below w.heap.size w w' := by
  obtain ⟨C, hC⟩ : ∃ C, C = (ccells n k bs).toArray := ⟨_, rfl⟩
  have hC0 : C[0]? = some (.int .i64 n) := by rw [hC]; rfl
  have hC1 : C[1]? = some (.int .i64 k) := by rw [hC]; rfl
  have hCg : ∀ j, j < 136 → C[2 + j]? = some (.int .u8 ((bs.getD j 0 : Nat) : Int)) := fun j hj => by rw [hC]; exact hb.cget n k hj
  rw [← hC]
  have HC := hidd hC
  have HCg := hidd hCg
  clear hC hCg
  by_cases hs : shapeB n k = true
  · obtain ⟨h1, h2, h3, h4⟩ := shape_bd hs
    have HS := hidd hs
    clear hs
    have he := edg_bd h1 h2
    obtain ⟨E, hE⟩ := Int.eq_ofNat_of_zero_le he.1
    have hE1 : E ≤ 136 := by omega
    have HE := hidd hE
    clear he
    rw [show edg n = (E : Int) from hE] at hE
    clear hE
    have hsl1 := fun b o w => slice22_hi b o E w hE1
    go_enter Try.func56, Try.ntmps56
    go_wp2_with (first | (go_at_call 91; refine (shape47_yes _ _ _ (by omega) (by omega) (by omega) (by omega)).mono ?_; rintro e w' ⟨rfl, rfl⟩) | (go_at_call 92; refine (edge48 _ _ (by omega) (by omega)).mono ?_; rintro e w' ⟨rfl, rfl⟩; rw [HE.out]))
    go_loopw [21] (fun e wr => ∃ j : Nat, j ≤ E ∧ e = .int .i64 j ∧ RelA17 w n k bs C j wr) (fun e _ => E - (intOf e).toNat)
    case atStart =>
      exact ⟨0, by omega, rfl, Blk.new _ _ _ _ rfl, fun i hi => absurd hi (by omega), (Below.refl _ _).alloc (Nat.le_refl _) _⟩
    case round =>
      obtain ⟨j, hj, rfl, HR⟩ := hrel
      have hw1 := HR.1.cell hC1
      by_cases hlt : j < E
      · have hw2 := HR.1.cell (HCg.out j (by omega))
        have hx256 := hb.lt j
        obtain ⟨x, hx⟩ : ∃ x, x = bs.getD j 0 := ⟨_, rfl⟩
        rw [← hx] at hw2 hx256
        have HX := hidd hx
        clear hx
        have hwr : IntKind.i64.wrap (x : Int) = x := IntWalk.i64_in _ (by omega)
        have HRR := hidd HR
        clear HR
        by_cases hv : (x : Int) < k
        · have hd : decide (k ≤ (x : Int)) = false := by simp; omega
          have hg := hidd (good_lo (n := n) (k := k) (bs := bs) (j := j) (by rw [HE.out]; omega) (by rw [← HX.out]; exact hv))
          go_wp2
          go_roundw
          case rel => exact ⟨j + 1, by omega, by go_num, HRR.out.1, fun i hi => by
            by_cases e : i = j
            · subst e; exact hg.out
            · exact HRR.out.2.1 i (by omega), HRR.out.2.2⟩
          case measure => simp [intOf]; omega
        · have hd : decide (k ≤ (x : Int)) = true := by simp; omega
          have hg := hidd (isCol_bad (n := n) (k := k) (bs := bs) (show j < 136 by omega) (bad_lo (by rw [HE.out]; omega) (by rw [← HX.out]; omega)))
          go_wp2
          go_ret
          exact ⟨by rw [hg.out]; rfl, HRR.out.2.2⟩
      · have hjE : j = E := by omega
        subst hjE
        obtain ⟨wo, rfl⟩ : ∃ wo : World, wo = wr := ⟨_, rfl⟩
        have HRR := hidd HR
        obtain ⟨p, hp, hsl⟩ := slice22_lo w.heap.size 2 j wo hE1
        have HP := hidd hp
        clear hp HR hw1
        go_wp2
        go_loopw [35] (fun e wr => ∃ i : Nat, i ≤ 136 - j ∧ e = .int .i64 i ∧ RelA17 w n k bs C (j + i) wr) (fun e _ => 136 - j - (intOf e).toNat)
        case atStart => exact ⟨0, by omega, rfl, HRR.out⟩
        case round =>
          obtain ⟨i, hi, rfl, HR2⟩ := hrel
          by_cases hlt2 : i < 136 - j
          · have hw2 := HR2.1.cell (HCg.out (j + i) (by omega))
            obtain rfl := HP.out (by omega)
            rw [show 2 + (j + i) = 2 + j + i by omega] at hw2
            obtain ⟨x, hx⟩ : ∃ x, x = bs.getD (j + i) 0 := ⟨_, rfl⟩
            rw [← hx] at hw2
            have HX := hidd hx
            clear hx
            have HRR2 := hidd HR2
            clear HR2
            by_cases hv : x = 0
            · have hg := hidd (good_hi (n := n) (k := k) (bs := bs) (j := j + i) (by rw [HE.out]; omega) (by rw [← HX.out]; exact hv))
              have hz : ((x : Int) != 0) = false := by subst hv; rfl
              clear hv
              go_wp2
              go_roundw
              case rel => exact ⟨i + 1, by omega, by go_num, HRR2.out.1, fun m hm => by
                by_cases e : m = j + i
                · subst e; exact hg.out
                · exact HRR2.out.2.1 m (by omega), HRR2.out.2.2⟩
              case measure => simp [intOf]; omega
            · have hg := hidd (isCol_bad (n := n) (k := k) (bs := bs) (show j + i < 136 by omega) (bad_hi (by rw [HE.out]; omega) (by rw [← HX.out]; omega)))
              have hz : ((x : Int) != 0) = true := by rw [bne_iff_ne]; omega
              go_wp2
              go_ret
              exact ⟨by rw [hg.out]; rfl, HRR2.out.2.2⟩
          · have hj6 : j + i = 136 := by omega
            rw [hj6] at HR2
            have hg := hidd (isCol_yes HS.out HR2.2.1)
            go_wp2
            go_ret
            exact ⟨by rw [hg.out]; rfl, HR2.2.2⟩
  · have hs' : shapeB n k = false := by simpa using hs
    rw [isCol_shape hs']
    exact implIs_no n k C w hC0 hC1 (shape_no hs')
end Go.Proofs.Ytikcmgmgdbbcfaa
