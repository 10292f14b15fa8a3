/- countingBound, number by number. -/
import Derived.Test.YtblehhiojednhaaDoorMst
namespace Go.Proofs.YtblehhiojednhaaDoor
set_option linter.unusedVariables false
set_option linter.unusedSimpArgs false
open Go Go.RowKit
/-- The program's sets behind j rounds. -/
def svN (m : Nat) : Nat → Nat
  | 0 => 1
  | j + 1 => svN m j * (m + j + 1) / (j + 1)
/-- How many rounds there are. -/
def rdN (m : Nat) : Nat := [0, 0, 0, 1, 3, 7, 12, 21, 35, 57, 91].getD m 0
theorem sv_step (m j : Nat) : ((svN m (j + 1) : Nat) : Int) = ((svN m j : Nat) : Int) * ((m : Int) + j + 1) / ((j : Int) + 1) := by
  rw [svN]; push_cast; rfl
theorem tab_2 (j : Nat) (hj : j < 0) : 2 * svN 2 j < 2 ∧ ((svN 2 j : Nat) : Int) * (2 + (j : Int) + 1) < 2251799813685248 := by
  have h : ((List.range 0).all fun j => decide (2 * svN 2 j < 2 ∧ ((svN 2 j : Nat) : Int) * (2 + (j : Int) + 1) < 2251799813685248)) = true := by decide +kernel
  exact of_decide_eq_true (List.all_eq_true.1 h j (List.mem_range.2 hj))
theorem end_2 : 2 ≤ 2 * svN 2 0 ∧ svN 2 0 ≤ 1125899906842624 := by decide +kernel
set_option maxRecDepth 100000 in
set_option maxHeartbeats 1000000 in
theorem count42_2 (w : World) : Calls Tryd.prog 42 #[.int .i64 2] w fun e w' => e = .returned (.int .i64 1) ∧ w = w' := by
  go_enter Tryd.func42, Tryd.ntmps42
  go_wp2_with fail
  go_loop [4, 5] (fun n s => ∃ j : Nat, j ≤ 0 ∧ n = .int .i64 (1 + (j : Int)) ∧ s = .int .i64 ((svN 2 j : Nat) : Int)) (fun n s => 2 - (intOf n).toNat)
  case atStart => exact ⟨0, by omega, rfl, rfl⟩
  case round =>
    obtain ⟨j, hj, rfl, rfl⟩ := hrel
    obtain ⟨s, hs⟩ : ∃ s : Int, s = ((svN 2 j : Nat) : Int) := ⟨_, rfl⟩
    rw [← hs]
    by_cases hlt : j < 0
    · omega
    · have hje : j = 0 := by omega
      subst hje
      have h2 : ¬ 2 * s < 2 := by have := end_2.1; omega
      have h3 : 0 ≤ s := by omega
      have h4 : s ≤ 1125899906842624 := by have := end_2.2; omega
      have HS := hidd hs
      clear hs
      go_wp2_with fail
      go_ret
      exact ⟨rfl, rfl⟩
theorem tab_3 (j : Nat) (hj : j < 1) : 2 * svN 3 j < 8 ∧ ((svN 3 j : Nat) : Int) * (3 + (j : Int) + 1) < 2251799813685248 := by
  have h : ((List.range 1).all fun j => decide (2 * svN 3 j < 8 ∧ ((svN 3 j : Nat) : Int) * (3 + (j : Int) + 1) < 2251799813685248)) = true := by decide +kernel
  exact of_decide_eq_true (List.all_eq_true.1 h j (List.mem_range.2 hj))
theorem end_3 : 8 ≤ 2 * svN 3 1 ∧ svN 3 1 ≤ 1125899906842624 := by decide +kernel
set_option maxRecDepth 100000 in
set_option maxHeartbeats 1000000 in
theorem count42_3 (w : World) : Calls Tryd.prog 42 #[.int .i64 3] w fun e w' => e = .returned (.int .i64 3) ∧ w = w' := by
  go_enter Tryd.func42, Tryd.ntmps42
  go_wp2_with fail
  go_loop [4, 5] (fun n s => ∃ j : Nat, j ≤ 1 ∧ n = .int .i64 (2 + (j : Int)) ∧ s = .int .i64 ((svN 3 j : Nat) : Int)) (fun n s => 4 - (intOf n).toNat)
  case atStart => exact ⟨0, by omega, rfl, rfl⟩
  case round =>
    obtain ⟨j, hj, rfl, rfl⟩ := hrel
    obtain ⟨s, hs⟩ : ∃ s : Int, s = ((svN 3 j : Nat) : Int) := ⟨_, rfl⟩
    rw [← hs]
    by_cases hlt : j < 1
    · have ht := tab_3 j hlt
      have h2 : 2 * s < 8 := by omega
      have h3 : 0 ≤ s := by omega
      have h5 : s * (3 + (j : Int) + 1) < 2251799813685248 := by rw [hs]; exact ht.2
      have h6 : 0 ≤ s * (3 + (j : Int) + 1) := Int.mul_nonneg h3 (by omega)
      have HS := hidd hs
      have HT := hidd (sv_step 3 j)
      clear hs ht
      go_wp2_with fail
      have e1 : 2 + (j : Int) + 1 + 1 = 3 + (j : Int) + 1 := by omega
      have e2 : 3 + (j : Int) + 1 - 3 = (j : Int) + 1 := by omega
      have h7 : s * (3 + (j : Int) + 1) / ((j : Int) + 1) ≤ s * (3 + (j : Int) + 1) := Int.ediv_le_self _ h6
      have h8 : 0 ≤ s * (3 + (j : Int) + 1) / ((j : Int) + 1) := Int.ediv_nonneg h6 (by omega)
      rw [e1, e2, IntWalk.wrap64_in (s * (3 + (j : Int) + 1)) ⟨by omega, by omega⟩, Int.tdiv_eq_ediv_of_nonneg h6, IntWalk.wrap64_in (s * (3 + (j : Int) + 1) / ((j : Int) + 1)) ⟨by omega, by omega⟩]
      refine ⟨⟨j + 1, by omega, by go_num, ?_⟩, by simp [intOf]; omega⟩
      rw [HT.out, ← HS.out]
      rfl
    · have hje : j = 1 := by omega
      subst hje
      have h2 : ¬ 2 * s < 8 := by have := end_3.1; omega
      have h3 : 0 ≤ s := by omega
      have h4 : s ≤ 1125899906842624 := by have := end_3.2; omega
      have HS := hidd hs
      clear hs
      go_wp2_with fail
      go_ret
      exact ⟨rfl, rfl⟩
theorem tab_4 (j : Nat) (hj : j < 3) : 2 * svN 4 j < 64 ∧ ((svN 4 j : Nat) : Int) * (4 + (j : Int) + 1) < 2251799813685248 := by
  have h : ((List.range 3).all fun j => decide (2 * svN 4 j < 64 ∧ ((svN 4 j : Nat) : Int) * (4 + (j : Int) + 1) < 2251799813685248)) = true := by decide +kernel
  exact of_decide_eq_true (List.all_eq_true.1 h j (List.mem_range.2 hj))
theorem end_4 : 64 ≤ 2 * svN 4 3 ∧ svN 4 3 ≤ 1125899906842624 := by decide +kernel
set_option maxRecDepth 100000 in
set_option maxHeartbeats 1000000 in
theorem count42_4 (w : World) : Calls Tryd.prog 42 #[.int .i64 4] w fun e w' => e = .returned (.int .i64 6) ∧ w = w' := by
  go_enter Tryd.func42, Tryd.ntmps42
  go_wp2_with fail
  go_loop [4, 5] (fun n s => ∃ j : Nat, j ≤ 3 ∧ n = .int .i64 (3 + (j : Int)) ∧ s = .int .i64 ((svN 4 j : Nat) : Int)) (fun n s => 7 - (intOf n).toNat)
  case atStart => exact ⟨0, by omega, rfl, rfl⟩
  case round =>
    obtain ⟨j, hj, rfl, rfl⟩ := hrel
    obtain ⟨s, hs⟩ : ∃ s : Int, s = ((svN 4 j : Nat) : Int) := ⟨_, rfl⟩
    rw [← hs]
    by_cases hlt : j < 3
    · have ht := tab_4 j hlt
      have h2 : 2 * s < 64 := by omega
      have h3 : 0 ≤ s := by omega
      have h5 : s * (4 + (j : Int) + 1) < 2251799813685248 := by rw [hs]; exact ht.2
      have h6 : 0 ≤ s * (4 + (j : Int) + 1) := Int.mul_nonneg h3 (by omega)
      have HS := hidd hs
      have HT := hidd (sv_step 4 j)
      clear hs ht
      go_wp2_with fail
      have e1 : 3 + (j : Int) + 1 + 1 = 4 + (j : Int) + 1 := by omega
      have e2 : 4 + (j : Int) + 1 - 4 = (j : Int) + 1 := by omega
      have h7 : s * (4 + (j : Int) + 1) / ((j : Int) + 1) ≤ s * (4 + (j : Int) + 1) := Int.ediv_le_self _ h6
      have h8 : 0 ≤ s * (4 + (j : Int) + 1) / ((j : Int) + 1) := Int.ediv_nonneg h6 (by omega)
      rw [e1, e2, IntWalk.wrap64_in (s * (4 + (j : Int) + 1)) ⟨by omega, by omega⟩, Int.tdiv_eq_ediv_of_nonneg h6, IntWalk.wrap64_in (s * (4 + (j : Int) + 1) / ((j : Int) + 1)) ⟨by omega, by omega⟩]
      refine ⟨⟨j + 1, by omega, by go_num, ?_⟩, by simp [intOf]; omega⟩
      rw [HT.out, ← HS.out]
      rfl
    · have hje : j = 3 := by omega
      subst hje
      have h2 : ¬ 2 * s < 64 := by have := end_4.1; omega
      have h3 : 0 ≤ s := by omega
      have h4 : s ≤ 1125899906842624 := by have := end_4.2; omega
      have HS := hidd hs
      clear hs
      go_wp2_with fail
      go_ret
      exact ⟨rfl, rfl⟩
theorem tab_5 (j : Nat) (hj : j < 7) : 2 * svN 5 j < 1024 ∧ ((svN 5 j : Nat) : Int) * (5 + (j : Int) + 1) < 2251799813685248 := by
  have h : ((List.range 7).all fun j => decide (2 * svN 5 j < 1024 ∧ ((svN 5 j : Nat) : Int) * (5 + (j : Int) + 1) < 2251799813685248)) = true := by decide +kernel
  exact of_decide_eq_true (List.all_eq_true.1 h j (List.mem_range.2 hj))
theorem end_5 : 1024 ≤ 2 * svN 5 7 ∧ svN 5 7 ≤ 1125899906842624 := by decide +kernel
set_option maxRecDepth 100000 in
set_option maxHeartbeats 1000000 in
theorem count42_5 (w : World) : Calls Tryd.prog 42 #[.int .i64 5] w fun e w' => e = .returned (.int .i64 11) ∧ w = w' := by
  go_enter Tryd.func42, Tryd.ntmps42
  go_wp2_with fail
  go_loop [4, 5] (fun n s => ∃ j : Nat, j ≤ 7 ∧ n = .int .i64 (4 + (j : Int)) ∧ s = .int .i64 ((svN 5 j : Nat) : Int)) (fun n s => 12 - (intOf n).toNat)
  case atStart => exact ⟨0, by omega, rfl, rfl⟩
  case round =>
    obtain ⟨j, hj, rfl, rfl⟩ := hrel
    obtain ⟨s, hs⟩ : ∃ s : Int, s = ((svN 5 j : Nat) : Int) := ⟨_, rfl⟩
    rw [← hs]
    by_cases hlt : j < 7
    · have ht := tab_5 j hlt
      have h2 : 2 * s < 1024 := by omega
      have h3 : 0 ≤ s := by omega
      have h5 : s * (5 + (j : Int) + 1) < 2251799813685248 := by rw [hs]; exact ht.2
      have h6 : 0 ≤ s * (5 + (j : Int) + 1) := Int.mul_nonneg h3 (by omega)
      have HS := hidd hs
      have HT := hidd (sv_step 5 j)
      clear hs ht
      go_wp2_with fail
      have e1 : 4 + (j : Int) + 1 + 1 = 5 + (j : Int) + 1 := by omega
      have e2 : 5 + (j : Int) + 1 - 5 = (j : Int) + 1 := by omega
      have h7 : s * (5 + (j : Int) + 1) / ((j : Int) + 1) ≤ s * (5 + (j : Int) + 1) := Int.ediv_le_self _ h6
      have h8 : 0 ≤ s * (5 + (j : Int) + 1) / ((j : Int) + 1) := Int.ediv_nonneg h6 (by omega)
      rw [e1, e2, IntWalk.wrap64_in (s * (5 + (j : Int) + 1)) ⟨by omega, by omega⟩, Int.tdiv_eq_ediv_of_nonneg h6, IntWalk.wrap64_in (s * (5 + (j : Int) + 1) / ((j : Int) + 1)) ⟨by omega, by omega⟩]
      refine ⟨⟨j + 1, by omega, by go_num, ?_⟩, by simp [intOf]; omega⟩
      rw [HT.out, ← HS.out]
      rfl
    · have hje : j = 7 := by omega
      subst hje
      have h2 : ¬ 2 * s < 1024 := by have := end_5.1; omega
      have h3 : 0 ≤ s := by omega
      have h4 : s ≤ 1125899906842624 := by have := end_5.2; omega
      have HS := hidd hs
      clear hs
      go_wp2_with fail
      go_ret
      exact ⟨rfl, rfl⟩
theorem tab_6 (j : Nat) (hj : j < 12) : 2 * svN 6 j < 32768 ∧ ((svN 6 j : Nat) : Int) * (6 + (j : Int) + 1) < 2251799813685248 := by
  have h : ((List.range 12).all fun j => decide (2 * svN 6 j < 32768 ∧ ((svN 6 j : Nat) : Int) * (6 + (j : Int) + 1) < 2251799813685248)) = true := by decide +kernel
  exact of_decide_eq_true (List.all_eq_true.1 h j (List.mem_range.2 hj))
theorem end_6 : 32768 ≤ 2 * svN 6 12 ∧ svN 6 12 ≤ 1125899906842624 := by decide +kernel
set_option maxRecDepth 100000 in
set_option maxHeartbeats 1000000 in
theorem count42_6 (w : World) : Calls Tryd.prog 42 #[.int .i64 6] w fun e w' => e = .returned (.int .i64 17) ∧ w = w' := by
  go_enter Tryd.func42, Tryd.ntmps42
  go_wp2_with fail
  go_loop [4, 5] (fun n s => ∃ j : Nat, j ≤ 12 ∧ n = .int .i64 (5 + (j : Int)) ∧ s = .int .i64 ((svN 6 j : Nat) : Int)) (fun n s => 18 - (intOf n).toNat)
  case atStart => exact ⟨0, by omega, rfl, rfl⟩
  case round =>
    obtain ⟨j, hj, rfl, rfl⟩ := hrel
    obtain ⟨s, hs⟩ : ∃ s : Int, s = ((svN 6 j : Nat) : Int) := ⟨_, rfl⟩
    rw [← hs]
    by_cases hlt : j < 12
    · have ht := tab_6 j hlt
      have h2 : 2 * s < 32768 := by omega
      have h3 : 0 ≤ s := by omega
      have h5 : s * (6 + (j : Int) + 1) < 2251799813685248 := by rw [hs]; exact ht.2
      have h6 : 0 ≤ s * (6 + (j : Int) + 1) := Int.mul_nonneg h3 (by omega)
      have HS := hidd hs
      have HT := hidd (sv_step 6 j)
      clear hs ht
      go_wp2_with fail
      have e1 : 5 + (j : Int) + 1 + 1 = 6 + (j : Int) + 1 := by omega
      have e2 : 6 + (j : Int) + 1 - 6 = (j : Int) + 1 := by omega
      have h7 : s * (6 + (j : Int) + 1) / ((j : Int) + 1) ≤ s * (6 + (j : Int) + 1) := Int.ediv_le_self _ h6
      have h8 : 0 ≤ s * (6 + (j : Int) + 1) / ((j : Int) + 1) := Int.ediv_nonneg h6 (by omega)
      rw [e1, e2, IntWalk.wrap64_in (s * (6 + (j : Int) + 1)) ⟨by omega, by omega⟩, Int.tdiv_eq_ediv_of_nonneg h6, IntWalk.wrap64_in (s * (6 + (j : Int) + 1) / ((j : Int) + 1)) ⟨by omega, by omega⟩]
      refine ⟨⟨j + 1, by omega, by go_num, ?_⟩, by simp [intOf]; omega⟩
      rw [HT.out, ← HS.out]
      rfl
    · have hje : j = 12 := by omega
      subst hje
      have h2 : ¬ 2 * s < 32768 := by have := end_6.1; omega
      have h3 : 0 ≤ s := by omega
      have h4 : s ≤ 1125899906842624 := by have := end_6.2; omega
      have HS := hidd hs
      clear hs
      go_wp2_with fail
      go_ret
      exact ⟨rfl, rfl⟩
theorem tab_7 (j : Nat) (hj : j < 21) : 2 * svN 7 j < 2097152 ∧ ((svN 7 j : Nat) : Int) * (7 + (j : Int) + 1) < 2251799813685248 := by
  have h : ((List.range 21).all fun j => decide (2 * svN 7 j < 2097152 ∧ ((svN 7 j : Nat) : Int) * (7 + (j : Int) + 1) < 2251799813685248)) = true := by decide +kernel
  exact of_decide_eq_true (List.all_eq_true.1 h j (List.mem_range.2 hj))
theorem end_7 : 2097152 ≤ 2 * svN 7 21 ∧ svN 7 21 ≤ 1125899906842624 := by decide +kernel
set_option maxRecDepth 100000 in
set_option maxHeartbeats 1000000 in
theorem count42_7 (w : World) : Calls Tryd.prog 42 #[.int .i64 7] w fun e w' => e = .returned (.int .i64 27) ∧ w = w' := by
  go_enter Tryd.func42, Tryd.ntmps42
  go_wp2_with fail
  go_loop [4, 5] (fun n s => ∃ j : Nat, j ≤ 21 ∧ n = .int .i64 (6 + (j : Int)) ∧ s = .int .i64 ((svN 7 j : Nat) : Int)) (fun n s => 28 - (intOf n).toNat)
  case atStart => exact ⟨0, by omega, rfl, rfl⟩
  case round =>
    obtain ⟨j, hj, rfl, rfl⟩ := hrel
    obtain ⟨s, hs⟩ : ∃ s : Int, s = ((svN 7 j : Nat) : Int) := ⟨_, rfl⟩
    rw [← hs]
    by_cases hlt : j < 21
    · have ht := tab_7 j hlt
      have h2 : 2 * s < 2097152 := by omega
      have h3 : 0 ≤ s := by omega
      have h5 : s * (7 + (j : Int) + 1) < 2251799813685248 := by rw [hs]; exact ht.2
      have h6 : 0 ≤ s * (7 + (j : Int) + 1) := Int.mul_nonneg h3 (by omega)
      have HS := hidd hs
      have HT := hidd (sv_step 7 j)
      clear hs ht
      go_wp2_with fail
      have e1 : 6 + (j : Int) + 1 + 1 = 7 + (j : Int) + 1 := by omega
      have e2 : 7 + (j : Int) + 1 - 7 = (j : Int) + 1 := by omega
      have h7 : s * (7 + (j : Int) + 1) / ((j : Int) + 1) ≤ s * (7 + (j : Int) + 1) := Int.ediv_le_self _ h6
      have h8 : 0 ≤ s * (7 + (j : Int) + 1) / ((j : Int) + 1) := Int.ediv_nonneg h6 (by omega)
      rw [e1, e2, IntWalk.wrap64_in (s * (7 + (j : Int) + 1)) ⟨by omega, by omega⟩, Int.tdiv_eq_ediv_of_nonneg h6, IntWalk.wrap64_in (s * (7 + (j : Int) + 1) / ((j : Int) + 1)) ⟨by omega, by omega⟩]
      refine ⟨⟨j + 1, by omega, by go_num, ?_⟩, by simp [intOf]; omega⟩
      rw [HT.out, ← HS.out]
      rfl
    · have hje : j = 21 := by omega
      subst hje
      have h2 : ¬ 2 * s < 2097152 := by have := end_7.1; omega
      have h3 : 0 ≤ s := by omega
      have h4 : s ≤ 1125899906842624 := by have := end_7.2; omega
      have HS := hidd hs
      clear hs
      go_wp2_with fail
      go_ret
      exact ⟨rfl, rfl⟩
theorem tab_8 (j : Nat) (hj : j < 35) : 2 * svN 8 j < 268435456 ∧ ((svN 8 j : Nat) : Int) * (8 + (j : Int) + 1) < 2251799813685248 := by
  have h : ((List.range 35).all fun j => decide (2 * svN 8 j < 268435456 ∧ ((svN 8 j : Nat) : Int) * (8 + (j : Int) + 1) < 2251799813685248)) = true := by decide +kernel
  exact of_decide_eq_true (List.all_eq_true.1 h j (List.mem_range.2 hj))
theorem end_8 : 268435456 ≤ 2 * svN 8 35 ∧ svN 8 35 ≤ 1125899906842624 := by decide +kernel
set_option maxRecDepth 100000 in
set_option maxHeartbeats 1000000 in
theorem count42_8 (w : World) : Calls Tryd.prog 42 #[.int .i64 8] w fun e w' => e = .returned (.int .i64 42) ∧ w = w' := by
  go_enter Tryd.func42, Tryd.ntmps42
  go_wp2_with fail
  go_loop [4, 5] (fun n s => ∃ j : Nat, j ≤ 35 ∧ n = .int .i64 (7 + (j : Int)) ∧ s = .int .i64 ((svN 8 j : Nat) : Int)) (fun n s => 43 - (intOf n).toNat)
  case atStart => exact ⟨0, by omega, rfl, rfl⟩
  case round =>
    obtain ⟨j, hj, rfl, rfl⟩ := hrel
    obtain ⟨s, hs⟩ : ∃ s : Int, s = ((svN 8 j : Nat) : Int) := ⟨_, rfl⟩
    rw [← hs]
    by_cases hlt : j < 35
    · have ht := tab_8 j hlt
      have h2 : 2 * s < 268435456 := by omega
      have h3 : 0 ≤ s := by omega
      have h5 : s * (8 + (j : Int) + 1) < 2251799813685248 := by rw [hs]; exact ht.2
      have h6 : 0 ≤ s * (8 + (j : Int) + 1) := Int.mul_nonneg h3 (by omega)
      have HS := hidd hs
      have HT := hidd (sv_step 8 j)
      clear hs ht
      go_wp2_with fail
      have e1 : 7 + (j : Int) + 1 + 1 = 8 + (j : Int) + 1 := by omega
      have e2 : 8 + (j : Int) + 1 - 8 = (j : Int) + 1 := by omega
      have h7 : s * (8 + (j : Int) + 1) / ((j : Int) + 1) ≤ s * (8 + (j : Int) + 1) := Int.ediv_le_self _ h6
      have h8 : 0 ≤ s * (8 + (j : Int) + 1) / ((j : Int) + 1) := Int.ediv_nonneg h6 (by omega)
      rw [e1, e2, IntWalk.wrap64_in (s * (8 + (j : Int) + 1)) ⟨by omega, by omega⟩, Int.tdiv_eq_ediv_of_nonneg h6, IntWalk.wrap64_in (s * (8 + (j : Int) + 1) / ((j : Int) + 1)) ⟨by omega, by omega⟩]
      refine ⟨⟨j + 1, by omega, by go_num, ?_⟩, by simp [intOf]; omega⟩
      rw [HT.out, ← HS.out]
      rfl
    · have hje : j = 35 := by omega
      subst hje
      have h2 : ¬ 2 * s < 268435456 := by have := end_8.1; omega
      have h3 : 0 ≤ s := by omega
      have h4 : s ≤ 1125899906842624 := by have := end_8.2; omega
      have HS := hidd hs
      clear hs
      go_wp2_with fail
      go_ret
      exact ⟨rfl, rfl⟩
theorem tab_9 (j : Nat) (hj : j < 57) : 2 * svN 9 j < 68719476736 ∧ ((svN 9 j : Nat) : Int) * (9 + (j : Int) + 1) < 2251799813685248 := by
  have h : ((List.range 57).all fun j => decide (2 * svN 9 j < 68719476736 ∧ ((svN 9 j : Nat) : Int) * (9 + (j : Int) + 1) < 2251799813685248)) = true := by decide +kernel
  exact of_decide_eq_true (List.all_eq_true.1 h j (List.mem_range.2 hj))
theorem end_9 : 68719476736 ≤ 2 * svN 9 57 ∧ svN 9 57 ≤ 1125899906842624 := by decide +kernel
set_option maxRecDepth 100000 in
set_option maxHeartbeats 1000000 in
theorem count42_9 (w : World) : Calls Tryd.prog 42 #[.int .i64 9] w fun e w' => e = .returned (.int .i64 65) ∧ w = w' := by
  go_enter Tryd.func42, Tryd.ntmps42
  go_wp2_with fail
  go_loop [4, 5] (fun n s => ∃ j : Nat, j ≤ 57 ∧ n = .int .i64 (8 + (j : Int)) ∧ s = .int .i64 ((svN 9 j : Nat) : Int)) (fun n s => 66 - (intOf n).toNat)
  case atStart => exact ⟨0, by omega, rfl, rfl⟩
  case round =>
    obtain ⟨j, hj, rfl, rfl⟩ := hrel
    obtain ⟨s, hs⟩ : ∃ s : Int, s = ((svN 9 j : Nat) : Int) := ⟨_, rfl⟩
    rw [← hs]
    by_cases hlt : j < 57
    · have ht := tab_9 j hlt
      have h2 : 2 * s < 68719476736 := by omega
      have h3 : 0 ≤ s := by omega
      have h5 : s * (9 + (j : Int) + 1) < 2251799813685248 := by rw [hs]; exact ht.2
      have h6 : 0 ≤ s * (9 + (j : Int) + 1) := Int.mul_nonneg h3 (by omega)
      have HS := hidd hs
      have HT := hidd (sv_step 9 j)
      clear hs ht
      go_wp2_with fail
      have e1 : 8 + (j : Int) + 1 + 1 = 9 + (j : Int) + 1 := by omega
      have e2 : 9 + (j : Int) + 1 - 9 = (j : Int) + 1 := by omega
      have h7 : s * (9 + (j : Int) + 1) / ((j : Int) + 1) ≤ s * (9 + (j : Int) + 1) := Int.ediv_le_self _ h6
      have h8 : 0 ≤ s * (9 + (j : Int) + 1) / ((j : Int) + 1) := Int.ediv_nonneg h6 (by omega)
      rw [e1, e2, IntWalk.wrap64_in (s * (9 + (j : Int) + 1)) ⟨by omega, by omega⟩, Int.tdiv_eq_ediv_of_nonneg h6, IntWalk.wrap64_in (s * (9 + (j : Int) + 1) / ((j : Int) + 1)) ⟨by omega, by omega⟩]
      refine ⟨⟨j + 1, by omega, by go_num, ?_⟩, by simp [intOf]; omega⟩
      rw [HT.out, ← HS.out]
      rfl
    · have hje : j = 57 := by omega
      subst hje
      have h2 : ¬ 2 * s < 68719476736 := by have := end_9.1; omega
      have h3 : 0 ≤ s := by omega
      have h4 : s ≤ 1125899906842624 := by have := end_9.2; omega
      have HS := hidd hs
      clear hs
      go_wp2_with fail
      go_ret
      exact ⟨rfl, rfl⟩
theorem tab_10 (j : Nat) (hj : j < 91) : 2 * svN 10 j < 35184372088832 ∧ ((svN 10 j : Nat) : Int) * (10 + (j : Int) + 1) < 2251799813685248 := by
  have h : ((List.range 91).all fun j => decide (2 * svN 10 j < 35184372088832 ∧ ((svN 10 j : Nat) : Int) * (10 + (j : Int) + 1) < 2251799813685248)) = true := by decide +kernel
  exact of_decide_eq_true (List.all_eq_true.1 h j (List.mem_range.2 hj))
theorem end_10 : 35184372088832 ≤ 2 * svN 10 91 ∧ svN 10 91 ≤ 1125899906842624 := by decide +kernel
set_option maxRecDepth 100000 in
set_option maxHeartbeats 1000000 in
theorem count42_10 (w : World) : Calls Tryd.prog 42 #[.int .i64 10] w fun e w' => e = .returned (.int .i64 100) ∧ w = w' := by
  go_enter Tryd.func42, Tryd.ntmps42
  go_wp2_with fail
  go_loop [4, 5] (fun n s => ∃ j : Nat, j ≤ 91 ∧ n = .int .i64 (9 + (j : Int)) ∧ s = .int .i64 ((svN 10 j : Nat) : Int)) (fun n s => 101 - (intOf n).toNat)
  case atStart => exact ⟨0, by omega, rfl, rfl⟩
  case round =>
    obtain ⟨j, hj, rfl, rfl⟩ := hrel
    obtain ⟨s, hs⟩ : ∃ s : Int, s = ((svN 10 j : Nat) : Int) := ⟨_, rfl⟩
    rw [← hs]
    by_cases hlt : j < 91
    · have ht := tab_10 j hlt
      have h2 : 2 * s < 35184372088832 := by omega
      have h3 : 0 ≤ s := by omega
      have h5 : s * (10 + (j : Int) + 1) < 2251799813685248 := by rw [hs]; exact ht.2
      have h6 : 0 ≤ s * (10 + (j : Int) + 1) := Int.mul_nonneg h3 (by omega)
      have HS := hidd hs
      have HT := hidd (sv_step 10 j)
      clear hs ht
      go_wp2_with fail
      have e1 : 9 + (j : Int) + 1 + 1 = 10 + (j : Int) + 1 := by omega
      have e2 : 10 + (j : Int) + 1 - 10 = (j : Int) + 1 := by omega
      have h7 : s * (10 + (j : Int) + 1) / ((j : Int) + 1) ≤ s * (10 + (j : Int) + 1) := Int.ediv_le_self _ h6
      have h8 : 0 ≤ s * (10 + (j : Int) + 1) / ((j : Int) + 1) := Int.ediv_nonneg h6 (by omega)
      rw [e1, e2, IntWalk.wrap64_in (s * (10 + (j : Int) + 1)) ⟨by omega, by omega⟩, Int.tdiv_eq_ediv_of_nonneg h6, IntWalk.wrap64_in (s * (10 + (j : Int) + 1) / ((j : Int) + 1)) ⟨by omega, by omega⟩]
      refine ⟨⟨j + 1, by omega, by go_num, ?_⟩, by simp [intOf]; omega⟩
      rw [HT.out, ← HS.out]
      rfl
    · have hje : j = 91 := by omega
      subst hje
      have h2 : ¬ 2 * s < 35184372088832 := by have := end_10.1; omega
      have h3 : 0 ≤ s := by omega
      have h4 : s ≤ 1125899906842624 := by have := end_10.2; omega
      have HS := hidd hs
      clear hs
      go_wp2_with fail
      go_ret
      exact ⟨rfl, rfl⟩
end Go.Proofs.YtblehhiojednhaaDoor
