import Derived.Test.YtikcmgmgdbbcfaaTypes
namespace Go.Proofs.Ytikcmgmgdbbcfaa
open Go Go.RowKit
set_option maxRecDepth 100000 in
set_option maxHeartbeats 400000 in
theorem l01Is_no (n k : Int) (C : Array Value) (w : World) (hC0 : C[0]? = some (.int .i64 n)) (hC1 : C[1]? = some (.int .i64 k)) (h : n < 1 ∨ 17 < n ∨ k < 1 ∨ 4 < k) :
    Calls Try.prog 52 #[.agg C] w fun e w' => e = .returned (.bool false) ∧ Below w.heap.size w w' := by
  by_cases h1 : n < 1
  · clear h
    go_enter Try.func52, Try.ntmps52
    go_wp2
    go_ret
    exact ⟨rfl, (Below.refl _ _).alloc (Nat.le_refl _) _⟩
  · by_cases h2 : 17 < n
    · clear h
      have h1' : 1 ≤ n := by omega
      go_enter Try.func52, Try.ntmps52
      go_wp2
      go_ret
      exact ⟨rfl, (Below.refl _ _).alloc (Nat.le_refl _) _⟩
    · have h1' : 1 ≤ n := by omega
      have h2' : n ≤ 17 := by omega
      by_cases h3 : k < 1
      · clear h
        go_enter Try.func52, Try.ntmps52
        go_wp2
        go_ret
        exact ⟨rfl, (Below.refl _ _).alloc (Nat.le_refl _) _⟩
      · have h3' : 1 ≤ k := by omega
        have h4 : decide (k ≤ 4) = false := by simp; omega
        clear h
        go_enter Try.func52, Try.ntmps52
        go_wp2
        go_ret
        exact ⟨rfl, (Below.refl _ _).alloc (Nat.le_refl _) _⟩
theorem in49_yes (n lo hi : Int) (w : World) (h1 : lo ≤ n) (h2 : n ≤ hi) : Calls Try.prog 42 #[.int .i64 n, .int .i64 lo, .int .i64 hi] w fun e w' => e = .returned (.bool true) ∧ w = w' := by
  go_enter Try.func42, Try.ntmps42
  go_wp2
  go_ret
  exact ⟨rfl, rfl⟩
def Rel45 (w : World) (n k : Int) (bs : List Nat) (C : Array Value) (j : Nat) (wr : World) : Prop :=
  Blk wr w.heap.size C 25 ∧ (∀ i, i < j → goodAt n k bs i = true) ∧ Below w.heap.size w wr
set_option maxRecDepth 100000 in
set_option maxHeartbeats 1000000 in
theorem l01Is_any (n k : Int) (bs : List Nat) (hb : Bys bs) (w : World) :
    Calls Try.prog 52 #[.agg (ccells n k bs).toArray] w fun e w' => e = .returned (.bool (isCol n k bs)) ∧ Below w.heap.size w w' := by
  obtain ⟨C, hC⟩ : ∃ C, C = (ccells n k bs).toArray := ⟨_, rfl⟩
  have hC0 : C[0]? = some (.int .i64 n) := by rw [hC]; rfl
  have hC1 : C[1]? = some (.int .i64 k) := by rw [hC]; rfl
  have hCg : ∀ j, j < 136 → C[2 + j]? = some (.int .u8 ((bs.getD j 0 : Nat) : Int)) := fun j hj => by rw [hC]; exact hb.cget n k hj
  rw [← hC]
  have HC := hidd hC
  have HCg := hidd hCg
  clear hC hCg
  by_cases hs : shapeB n k = true
  · obtain ⟨h1, h2, h3, h4⟩ := shape_bd hs
    have HS := hidd hs
    clear hs
    have hm := mul_bd h1 h2
    obtain ⟨hm0, hm1⟩ := hm
    have he := edg_bd h1 h2
    obtain ⟨he0, he1⟩ := he
    have HE := hidd (show edg n = n * (n - 1) / 2 from rfl)
    go_enter Try.func52, Try.ntmps52
    go_wp2_with (go_at_call 42; refine (in49_yes _ _ _ _ (by omega) (by omega)).mono ?_; rintro e w' ⟨rfl, rfl⟩)
    go_loopw [4] (fun e wr => ∃ j : Nat, j ≤ 136 ∧ e = .int .i64 j ∧ Rel45 w n k bs C j wr) (fun e _ => 136 - (intOf e).toNat)
    case atStart =>
      exact ⟨0, by omega, rfl, Blk.new _ _ _ _ rfl, fun i hi => absurd hi (by omega), (Below.refl _ _).alloc (Nat.le_refl _) _⟩
    case round =>
      obtain ⟨j, hj, rfl, HR⟩ := hrel
      have hw0 := HR.1.cell hC0
      have hw1 := HR.1.cell hC1
      by_cases hlt : j < 136
      · have hw2 := HR.1.cell (HCg.out j hlt)
        have hx256 := hb.lt j
        obtain ⟨x, hx⟩ : ∃ x, x = bs.getD j 0 := ⟨_, rfl⟩
        rw [← hx] at hw2 hx256
        have HX := hidd hx
        clear hx
        have hwr : IntKind.i64.wrap (x : Int) = x := IntWalk.i64_in _ (by omega)
        have HRR := hidd HR
        clear HR
        by_cases hje : (j : Int) < n * (n - 1) / 2
        · by_cases hv : (x : Int) < k
          · have hd : decide (k ≤ (x : Int)) = false := by simp; omega
            have hd2 : decide (n * (n - 1) / 2 ≤ (j : Int)) = false := by simp; omega
            have hg := hidd (good_lo (n := n) (k := k) (bs := bs) (j := j) (by rw [HE.out]; exact hje) (by rw [← HX.out]; exact hv))
            go_wp2
            go_quiet (fail)
            go_wp2
            go_roundw
            case rel => exact ⟨j + 1, by omega, by go_num, HRR.out.1.drewN _, fun i hi => by
              by_cases e : i = j
              · subst e; exact hg.out
              · exact HRR.out.2.1 i (by omega), below_drewN HRR.out.2.2 _⟩
            case measure => simp [intOf]; omega
          · have hd : decide (k ≤ (x : Int)) = true := by simp; omega
            have hg := hidd (isCol_bad (n := n) (k := k) (bs := bs) hlt (bad_lo (by rw [HE.out]; exact hje) (by rw [← HX.out]; omega)))
            go_wp2
            go_quiet (fail)
            go_wp2
            go_ret
            exact ⟨by rw [hg.out]; rfl, below_drewN HRR.out.2.2 _⟩
        · have hd1 : decide ((j : Int) < n * (n - 1) / 2) = false := by simp; omega
          have hd2 : decide (n * (n - 1) / 2 ≤ (j : Int)) = true := by simp; omega
          by_cases hv : x = 0
          · have hg := hidd (good_hi (n := n) (k := k) (bs := bs) (j := j) (by rw [HE.out]; omega) (by rw [← HX.out]; exact hv))
            have hz : ((x : Int) != 0) = false := by subst hv; rfl
            clear hv
            go_wp2
            go_quiet (fail)
            go_wp2
            go_roundw
            case rel => exact ⟨j + 1, by omega, by go_num, HRR.out.1.drewN _, fun i hi => by
              by_cases e : i = j
              · subst e; exact hg.out
              · exact HRR.out.2.1 i (by omega), below_drewN HRR.out.2.2 _⟩
            case measure => simp [intOf]; omega
          · have hg := hidd (isCol_bad (n := n) (k := k) (bs := bs) hlt (bad_hi (by rw [HE.out]; omega) (by rw [← HX.out]; omega)))
            have hz : ((x : Int) != 0) = true := by rw [bne_iff_ne]; omega
            go_wp2
            go_quiet (fail)
            go_wp2
            go_ret
            exact ⟨by rw [hg.out]; rfl, below_drewN HRR.out.2.2 _⟩
      · have hj6 : j = 136 := by omega
        subst hj6
        have hg := hidd (isCol_yes HS.out HR.2.1)
        go_wp2
        go_ret
        exact ⟨by rw [hg.out]; rfl, HR.2.2⟩
  · have hs' : shapeB n k = false := by simpa using hs
    rw [isCol_shape hs']
    exact l01Is_no n k C w hC0 hC1 (shape_no hs')
end Go.Proofs.Ytikcmgmgdbbcfaa
