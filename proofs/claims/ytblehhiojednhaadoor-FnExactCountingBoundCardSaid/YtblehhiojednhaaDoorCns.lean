/- The model's CountingBound, number by number. -/
import Derived.Test.YtblehhiojednhaaDoorCho
import Derived.Test.YtblehhiojednhaaDoorCnt
namespace Go.Proofs.YtblehhiojednhaaDoor
set_option linter.unusedVariables false
set_option linter.unusedSimpArgs false
open Go Go.RowKit
theorem in29_yes (m : Int) (h1 : 2 ≤ m) (h2 : m ≤ 10) (w : World) : Calls Tryd.prog 29 #[.int .i64 m, .int .i64 2, .int .i64 10] w fun e w' => e = .returned (.bool true) ∧ w = w' := by
  have h := in49 m 2 10 w
  rw [inB_yes h1 h2] at h
  exact h
theorem tch_2 (j : Nat) (hj : j ≤ 0) : (∀ i : Nat, i < 2 → 0 ≤ cho8 (1 + (j : Int) + 1) i * (1 + (j : Int) + 1 - i) ∧ cho8 (1 + (j : Int) + 1) i * (1 + (j : Int) + 1 - i) ≤ 4611686018427387904) ∧ cho8 (1 + (j : Int) + 1) 2 = ((svN 2 j : Nat) : Int) := by
  have h : ((List.range 1).all fun j => ((List.range 2).all fun i => decide (0 ≤ cho8 (1 + (j : Int) + 1) i * (1 + (j : Int) + 1 - i) ∧ cho8 (1 + (j : Int) + 1) i * (1 + (j : Int) + 1 - i) ≤ 4611686018427387904)) && decide (cho8 (1 + (j : Int) + 1) 2 = ((svN 2 j : Nat) : Int))) = true := by decide +kernel
  have h2 := List.all_eq_true.1 h j (List.mem_range.2 (by omega))
  rw [Bool.and_eq_true] at h2
  exact ⟨fun i hi => of_decide_eq_true (List.all_eq_true.1 h2.1 i (List.mem_range.2 hi)), of_decide_eq_true h2.2⟩
set_option maxRecDepth 100000 in
theorem ch30_2 (j : Nat) (hj : j ≤ 0) (w : World) : Calls Tryd.prog 30 #[.int .i64 (1 + (j : Int) + 1), .int .i64 2] w fun e w' => e = .returned (.int .i64 ((svN 2 j : Nat) : Int)) ∧ w = w' := by
  have h := choose30 (1 + (j : Int) + 1) 2 w (by omega) (by omega) (by decide) (tch_2 j hj).1
  rw [(tch_2 j hj).2] at h
  exact h
set_option maxRecDepth 100000 in
set_option maxHeartbeats 1000000 in
theorem spec17_2 (w : World) : Calls Tryd.prog 17 #[.int .i64 2] w fun e w' => e = .returned (.tuple #[.int .i64 1, .int .i64 0]) ∧ w = w' := by
  go_enter Tryd.func17, Tryd.ntmps17
  go_wp2_with (go_at_call 29; refine (in29_yes _ (by decide) (by decide) _).mono ?_; rintro e w' ⟨rfl, rfl⟩)
  go_loop [4] (fun n => ∃ j : Nat, j ≤ 0 ∧ n = .int .i64 (1 + (j : Int))) (fun n => 2 - (intOf n).toNat)
  case atStart => exact ⟨0, by omega, rfl⟩
  case round =>
    obtain ⟨j, hj, rfl⟩ := hrel
    have HC := hidd (ch30_2 j hj w)
    have h3 : (0 : Int) ≤ ((svN 2 j : Nat) : Int) := Int.natCast_nonneg _
    by_cases hlt : j < 0
    · have h2 : 2 * ((svN 2 j : Nat) : Int) < 2 := by have := (tab_2 j hlt).1; omega
      go_wp2_with (go_at_call 30; refine HC.out.mono ?_; rintro e w' ⟨rfl, rfl⟩)
      exact ⟨⟨j + 1, by omega, by go_num⟩, by simp [intOf]; omega⟩
    · have hje : j = 0 := by omega
      subst hje
      have h2 : ¬ 2 * ((svN 2 0 : Nat) : Int) < 2 := by have := end_2.1; omega
      have h4 : ((svN 2 0 : Nat) : Int) ≤ 1125899906842624 := by have := end_2.2; omega
      go_wp2_with (go_at_call 30; refine HC.out.mono ?_; rintro e w' ⟨rfl, rfl⟩)
      go_ret2
      exact ⟨rfl, rfl⟩
theorem tch_3 (j : Nat) (hj : j ≤ 1) : (∀ i : Nat, i < 3 → 0 ≤ cho8 (2 + (j : Int) + 1) i * (2 + (j : Int) + 1 - i) ∧ cho8 (2 + (j : Int) + 1) i * (2 + (j : Int) + 1 - i) ≤ 4611686018427387904) ∧ cho8 (2 + (j : Int) + 1) 3 = ((svN 3 j : Nat) : Int) := by
  have h : ((List.range 2).all fun j => ((List.range 3).all fun i => decide (0 ≤ cho8 (2 + (j : Int) + 1) i * (2 + (j : Int) + 1 - i) ∧ cho8 (2 + (j : Int) + 1) i * (2 + (j : Int) + 1 - i) ≤ 4611686018427387904)) && decide (cho8 (2 + (j : Int) + 1) 3 = ((svN 3 j : Nat) : Int))) = true := by decide +kernel
  have h2 := List.all_eq_true.1 h j (List.mem_range.2 (by omega))
  rw [Bool.and_eq_true] at h2
  exact ⟨fun i hi => of_decide_eq_true (List.all_eq_true.1 h2.1 i (List.mem_range.2 hi)), of_decide_eq_true h2.2⟩
set_option maxRecDepth 100000 in
theorem ch30_3 (j : Nat) (hj : j ≤ 1) (w : World) : Calls Tryd.prog 30 #[.int .i64 (2 + (j : Int) + 1), .int .i64 3] w fun e w' => e = .returned (.int .i64 ((svN 3 j : Nat) : Int)) ∧ w = w' := by
  have h := choose30 (2 + (j : Int) + 1) 3 w (by omega) (by omega) (by decide) (tch_3 j hj).1
  rw [(tch_3 j hj).2] at h
  exact h
set_option maxRecDepth 100000 in
set_option maxHeartbeats 1000000 in
theorem spec17_3 (w : World) : Calls Tryd.prog 17 #[.int .i64 3] w fun e w' => e = .returned (.tuple #[.int .i64 3, .int .i64 0]) ∧ w = w' := by
  go_enter Tryd.func17, Tryd.ntmps17
  go_wp2_with (go_at_call 29; refine (in29_yes _ (by decide) (by decide) _).mono ?_; rintro e w' ⟨rfl, rfl⟩)
  go_loop [4] (fun n => ∃ j : Nat, j ≤ 1 ∧ n = .int .i64 (2 + (j : Int))) (fun n => 4 - (intOf n).toNat)
  case atStart => exact ⟨0, by omega, rfl⟩
  case round =>
    obtain ⟨j, hj, rfl⟩ := hrel
    have HC := hidd (ch30_3 j hj w)
    have h3 : (0 : Int) ≤ ((svN 3 j : Nat) : Int) := Int.natCast_nonneg _
    by_cases hlt : j < 1
    · have h2 : 2 * ((svN 3 j : Nat) : Int) < 8 := by have := (tab_3 j hlt).1; omega
      go_wp2_with (go_at_call 30; refine HC.out.mono ?_; rintro e w' ⟨rfl, rfl⟩)
      exact ⟨⟨j + 1, by omega, by go_num⟩, by simp [intOf]; omega⟩
    · have hje : j = 1 := by omega
      subst hje
      have h2 : ¬ 2 * ((svN 3 1 : Nat) : Int) < 8 := by have := end_3.1; omega
      have h4 : ((svN 3 1 : Nat) : Int) ≤ 1125899906842624 := by have := end_3.2; omega
      go_wp2_with (go_at_call 30; refine HC.out.mono ?_; rintro e w' ⟨rfl, rfl⟩)
      go_ret2
      exact ⟨rfl, rfl⟩
theorem tch_4 (j : Nat) (hj : j ≤ 3) : (∀ i : Nat, i < 4 → 0 ≤ cho8 (3 + (j : Int) + 1) i * (3 + (j : Int) + 1 - i) ∧ cho8 (3 + (j : Int) + 1) i * (3 + (j : Int) + 1 - i) ≤ 4611686018427387904) ∧ cho8 (3 + (j : Int) + 1) 4 = ((svN 4 j : Nat) : Int) := by
  have h : ((List.range 4).all fun j => ((List.range 4).all fun i => decide (0 ≤ cho8 (3 + (j : Int) + 1) i * (3 + (j : Int) + 1 - i) ∧ cho8 (3 + (j : Int) + 1) i * (3 + (j : Int) + 1 - i) ≤ 4611686018427387904)) && decide (cho8 (3 + (j : Int) + 1) 4 = ((svN 4 j : Nat) : Int))) = true := by decide +kernel
  have h2 := List.all_eq_true.1 h j (List.mem_range.2 (by omega))
  rw [Bool.and_eq_true] at h2
  exact ⟨fun i hi => of_decide_eq_true (List.all_eq_true.1 h2.1 i (List.mem_range.2 hi)), of_decide_eq_true h2.2⟩
set_option maxRecDepth 100000 in
theorem ch30_4 (j : Nat) (hj : j ≤ 3) (w : World) : Calls Tryd.prog 30 #[.int .i64 (3 + (j : Int) + 1), .int .i64 4] w fun e w' => e = .returned (.int .i64 ((svN 4 j : Nat) : Int)) ∧ w = w' := by
  have h := choose30 (3 + (j : Int) + 1) 4 w (by omega) (by omega) (by decide) (tch_4 j hj).1
  rw [(tch_4 j hj).2] at h
  exact h
set_option maxRecDepth 100000 in
set_option maxHeartbeats 1000000 in
theorem spec17_4 (w : World) : Calls Tryd.prog 17 #[.int .i64 4] w fun e w' => e = .returned (.tuple #[.int .i64 6, .int .i64 0]) ∧ w = w' := by
  go_enter Tryd.func17, Tryd.ntmps17
  go_wp2_with (go_at_call 29; refine (in29_yes _ (by decide) (by decide) _).mono ?_; rintro e w' ⟨rfl, rfl⟩)
  go_loop [4] (fun n => ∃ j : Nat, j ≤ 3 ∧ n = .int .i64 (3 + (j : Int))) (fun n => 7 - (intOf n).toNat)
  case atStart => exact ⟨0, by omega, rfl⟩
  case round =>
    obtain ⟨j, hj, rfl⟩ := hrel
    have HC := hidd (ch30_4 j hj w)
    have h3 : (0 : Int) ≤ ((svN 4 j : Nat) : Int) := Int.natCast_nonneg _
    by_cases hlt : j < 3
    · have h2 : 2 * ((svN 4 j : Nat) : Int) < 64 := by have := (tab_4 j hlt).1; omega
      go_wp2_with (go_at_call 30; refine HC.out.mono ?_; rintro e w' ⟨rfl, rfl⟩)
      exact ⟨⟨j + 1, by omega, by go_num⟩, by simp [intOf]; omega⟩
    · have hje : j = 3 := by omega
      subst hje
      have h2 : ¬ 2 * ((svN 4 3 : Nat) : Int) < 64 := by have := end_4.1; omega
      have h4 : ((svN 4 3 : Nat) : Int) ≤ 1125899906842624 := by have := end_4.2; omega
      go_wp2_with (go_at_call 30; refine HC.out.mono ?_; rintro e w' ⟨rfl, rfl⟩)
      go_ret2
      exact ⟨rfl, rfl⟩
theorem tch_5 (j : Nat) (hj : j ≤ 7) : (∀ i : Nat, i < 5 → 0 ≤ cho8 (4 + (j : Int) + 1) i * (4 + (j : Int) + 1 - i) ∧ cho8 (4 + (j : Int) + 1) i * (4 + (j : Int) + 1 - i) ≤ 4611686018427387904) ∧ cho8 (4 + (j : Int) + 1) 5 = ((svN 5 j : Nat) : Int) := by
  have h : ((List.range 8).all fun j => ((List.range 5).all fun i => decide (0 ≤ cho8 (4 + (j : Int) + 1) i * (4 + (j : Int) + 1 - i) ∧ cho8 (4 + (j : Int) + 1) i * (4 + (j : Int) + 1 - i) ≤ 4611686018427387904)) && decide (cho8 (4 + (j : Int) + 1) 5 = ((svN 5 j : Nat) : Int))) = true := by decide +kernel
  have h2 := List.all_eq_true.1 h j (List.mem_range.2 (by omega))
  rw [Bool.and_eq_true] at h2
  exact ⟨fun i hi => of_decide_eq_true (List.all_eq_true.1 h2.1 i (List.mem_range.2 hi)), of_decide_eq_true h2.2⟩
set_option maxRecDepth 100000 in
theorem ch30_5 (j : Nat) (hj : j ≤ 7) (w : World) : Calls Tryd.prog 30 #[.int .i64 (4 + (j : Int) + 1), .int .i64 5] w fun e w' => e = .returned (.int .i64 ((svN 5 j : Nat) : Int)) ∧ w = w' := by
  have h := choose30 (4 + (j : Int) + 1) 5 w (by omega) (by omega) (by decide) (tch_5 j hj).1
  rw [(tch_5 j hj).2] at h
  exact h
set_option maxRecDepth 100000 in
set_option maxHeartbeats 1000000 in
theorem spec17_5 (w : World) : Calls Tryd.prog 17 #[.int .i64 5] w fun e w' => e = .returned (.tuple #[.int .i64 11, .int .i64 0]) ∧ w = w' := by
  go_enter Tryd.func17, Tryd.ntmps17
  go_wp2_with (go_at_call 29; refine (in29_yes _ (by decide) (by decide) _).mono ?_; rintro e w' ⟨rfl, rfl⟩)
  go_loop [4] (fun n => ∃ j : Nat, j ≤ 7 ∧ n = .int .i64 (4 + (j : Int))) (fun n => 12 - (intOf n).toNat)
  case atStart => exact ⟨0, by omega, rfl⟩
  case round =>
    obtain ⟨j, hj, rfl⟩ := hrel
    have HC := hidd (ch30_5 j hj w)
    have h3 : (0 : Int) ≤ ((svN 5 j : Nat) : Int) := Int.natCast_nonneg _
    by_cases hlt : j < 7
    · have h2 : 2 * ((svN 5 j : Nat) : Int) < 1024 := by have := (tab_5 j hlt).1; omega
      go_wp2_with (go_at_call 30; refine HC.out.mono ?_; rintro e w' ⟨rfl, rfl⟩)
      exact ⟨⟨j + 1, by omega, by go_num⟩, by simp [intOf]; omega⟩
    · have hje : j = 7 := by omega
      subst hje
      have h2 : ¬ 2 * ((svN 5 7 : Nat) : Int) < 1024 := by have := end_5.1; omega
      have h4 : ((svN 5 7 : Nat) : Int) ≤ 1125899906842624 := by have := end_5.2; omega
      go_wp2_with (go_at_call 30; refine HC.out.mono ?_; rintro e w' ⟨rfl, rfl⟩)
      go_ret2
      exact ⟨rfl, rfl⟩
theorem tch_6 (j : Nat) (hj : j ≤ 12) : (∀ i : Nat, i < 6 → 0 ≤ cho8 (5 + (j : Int) + 1) i * (5 + (j : Int) + 1 - i) ∧ cho8 (5 + (j : Int) + 1) i * (5 + (j : Int) + 1 - i) ≤ 4611686018427387904) ∧ cho8 (5 + (j : Int) + 1) 6 = ((svN 6 j : Nat) : Int) := by
  have h : ((List.range 13).all fun j => ((List.range 6).all fun i => decide (0 ≤ cho8 (5 + (j : Int) + 1) i * (5 + (j : Int) + 1 - i) ∧ cho8 (5 + (j : Int) + 1) i * (5 + (j : Int) + 1 - i) ≤ 4611686018427387904)) && decide (cho8 (5 + (j : Int) + 1) 6 = ((svN 6 j : Nat) : Int))) = true := by decide +kernel
  have h2 := List.all_eq_true.1 h j (List.mem_range.2 (by omega))
  rw [Bool.and_eq_true] at h2
  exact ⟨fun i hi => of_decide_eq_true (List.all_eq_true.1 h2.1 i (List.mem_range.2 hi)), of_decide_eq_true h2.2⟩
set_option maxRecDepth 100000 in
theorem ch30_6 (j : Nat) (hj : j ≤ 12) (w : World) : Calls Tryd.prog 30 #[.int .i64 (5 + (j : Int) + 1), .int .i64 6] w fun e w' => e = .returned (.int .i64 ((svN 6 j : Nat) : Int)) ∧ w = w' := by
  have h := choose30 (5 + (j : Int) + 1) 6 w (by omega) (by omega) (by decide) (tch_6 j hj).1
  rw [(tch_6 j hj).2] at h
  exact h
set_option maxRecDepth 100000 in
set_option maxHeartbeats 1000000 in
theorem spec17_6 (w : World) : Calls Tryd.prog 17 #[.int .i64 6] w fun e w' => e = .returned (.tuple #[.int .i64 17, .int .i64 0]) ∧ w = w' := by
  go_enter Tryd.func17, Tryd.ntmps17
  go_wp2_with (go_at_call 29; refine (in29_yes _ (by decide) (by decide) _).mono ?_; rintro e w' ⟨rfl, rfl⟩)
  go_loop [4] (fun n => ∃ j : Nat, j ≤ 12 ∧ n = .int .i64 (5 + (j : Int))) (fun n => 18 - (intOf n).toNat)
  case atStart => exact ⟨0, by omega, rfl⟩
  case round =>
    obtain ⟨j, hj, rfl⟩ := hrel
    have HC := hidd (ch30_6 j hj w)
    have h3 : (0 : Int) ≤ ((svN 6 j : Nat) : Int) := Int.natCast_nonneg _
    by_cases hlt : j < 12
    · have h2 : 2 * ((svN 6 j : Nat) : Int) < 32768 := by have := (tab_6 j hlt).1; omega
      go_wp2_with (go_at_call 30; refine HC.out.mono ?_; rintro e w' ⟨rfl, rfl⟩)
      exact ⟨⟨j + 1, by omega, by go_num⟩, by simp [intOf]; omega⟩
    · have hje : j = 12 := by omega
      subst hje
      have h2 : ¬ 2 * ((svN 6 12 : Nat) : Int) < 32768 := by have := end_6.1; omega
      have h4 : ((svN 6 12 : Nat) : Int) ≤ 1125899906842624 := by have := end_6.2; omega
      go_wp2_with (go_at_call 30; refine HC.out.mono ?_; rintro e w' ⟨rfl, rfl⟩)
      go_ret2
      exact ⟨rfl, rfl⟩
theorem tch_7 (j : Nat) (hj : j ≤ 21) : (∀ i : Nat, i < 7 → 0 ≤ cho8 (6 + (j : Int) + 1) i * (6 + (j : Int) + 1 - i) ∧ cho8 (6 + (j : Int) + 1) i * (6 + (j : Int) + 1 - i) ≤ 4611686018427387904) ∧ cho8 (6 + (j : Int) + 1) 7 = ((svN 7 j : Nat) : Int) := by
  have h : ((List.range 22).all fun j => ((List.range 7).all fun i => decide (0 ≤ cho8 (6 + (j : Int) + 1) i * (6 + (j : Int) + 1 - i) ∧ cho8 (6 + (j : Int) + 1) i * (6 + (j : Int) + 1 - i) ≤ 4611686018427387904)) && decide (cho8 (6 + (j : Int) + 1) 7 = ((svN 7 j : Nat) : Int))) = true := by decide +kernel
  have h2 := List.all_eq_true.1 h j (List.mem_range.2 (by omega))
  rw [Bool.and_eq_true] at h2
  exact ⟨fun i hi => of_decide_eq_true (List.all_eq_true.1 h2.1 i (List.mem_range.2 hi)), of_decide_eq_true h2.2⟩
set_option maxRecDepth 100000 in
theorem ch30_7 (j : Nat) (hj : j ≤ 21) (w : World) : Calls Tryd.prog 30 #[.int .i64 (6 + (j : Int) + 1), .int .i64 7] w fun e w' => e = .returned (.int .i64 ((svN 7 j : Nat) : Int)) ∧ w = w' := by
  have h := choose30 (6 + (j : Int) + 1) 7 w (by omega) (by omega) (by decide) (tch_7 j hj).1
  rw [(tch_7 j hj).2] at h
  exact h
set_option maxRecDepth 100000 in
set_option maxHeartbeats 1000000 in
theorem spec17_7 (w : World) : Calls Tryd.prog 17 #[.int .i64 7] w fun e w' => e = .returned (.tuple #[.int .i64 27, .int .i64 0]) ∧ w = w' := by
  go_enter Tryd.func17, Tryd.ntmps17
  go_wp2_with (go_at_call 29; refine (in29_yes _ (by decide) (by decide) _).mono ?_; rintro e w' ⟨rfl, rfl⟩)
  go_loop [4] (fun n => ∃ j : Nat, j ≤ 21 ∧ n = .int .i64 (6 + (j : Int))) (fun n => 28 - (intOf n).toNat)
  case atStart => exact ⟨0, by omega, rfl⟩
  case round =>
    obtain ⟨j, hj, rfl⟩ := hrel
    have HC := hidd (ch30_7 j hj w)
    have h3 : (0 : Int) ≤ ((svN 7 j : Nat) : Int) := Int.natCast_nonneg _
    by_cases hlt : j < 21
    · have h2 : 2 * ((svN 7 j : Nat) : Int) < 2097152 := by have := (tab_7 j hlt).1; omega
      go_wp2_with (go_at_call 30; refine HC.out.mono ?_; rintro e w' ⟨rfl, rfl⟩)
      exact ⟨⟨j + 1, by omega, by go_num⟩, by simp [intOf]; omega⟩
    · have hje : j = 21 := by omega
      subst hje
      have h2 : ¬ 2 * ((svN 7 21 : Nat) : Int) < 2097152 := by have := end_7.1; omega
      have h4 : ((svN 7 21 : Nat) : Int) ≤ 1125899906842624 := by have := end_7.2; omega
      go_wp2_with (go_at_call 30; refine HC.out.mono ?_; rintro e w' ⟨rfl, rfl⟩)
      go_ret2
      exact ⟨rfl, rfl⟩
theorem tch_8 (j : Nat) (hj : j ≤ 35) : (∀ i : Nat, i < 8 → 0 ≤ cho8 (7 + (j : Int) + 1) i * (7 + (j : Int) + 1 - i) ∧ cho8 (7 + (j : Int) + 1) i * (7 + (j : Int) + 1 - i) ≤ 4611686018427387904) ∧ cho8 (7 + (j : Int) + 1) 8 = ((svN 8 j : Nat) : Int) := by
  have h : ((List.range 36).all fun j => ((List.range 8).all fun i => decide (0 ≤ cho8 (7 + (j : Int) + 1) i * (7 + (j : Int) + 1 - i) ∧ cho8 (7 + (j : Int) + 1) i * (7 + (j : Int) + 1 - i) ≤ 4611686018427387904)) && decide (cho8 (7 + (j : Int) + 1) 8 = ((svN 8 j : Nat) : Int))) = true := by decide +kernel
  have h2 := List.all_eq_true.1 h j (List.mem_range.2 (by omega))
  rw [Bool.and_eq_true] at h2
  exact ⟨fun i hi => of_decide_eq_true (List.all_eq_true.1 h2.1 i (List.mem_range.2 hi)), of_decide_eq_true h2.2⟩
set_option maxRecDepth 100000 in
theorem ch30_8 (j : Nat) (hj : j ≤ 35) (w : World) : Calls Tryd.prog 30 #[.int .i64 (7 + (j : Int) + 1), .int .i64 8] w fun e w' => e = .returned (.int .i64 ((svN 8 j : Nat) : Int)) ∧ w = w' := by
  have h := choose30 (7 + (j : Int) + 1) 8 w (by omega) (by omega) (by decide) (tch_8 j hj).1
  rw [(tch_8 j hj).2] at h
  exact h
set_option maxRecDepth 100000 in
set_option maxHeartbeats 1000000 in
theorem spec17_8 (w : World) : Calls Tryd.prog 17 #[.int .i64 8] w fun e w' => e = .returned (.tuple #[.int .i64 42, .int .i64 0]) ∧ w = w' := by
  go_enter Tryd.func17, Tryd.ntmps17
  go_wp2_with (go_at_call 29; refine (in29_yes _ (by decide) (by decide) _).mono ?_; rintro e w' ⟨rfl, rfl⟩)
  go_loop [4] (fun n => ∃ j : Nat, j ≤ 35 ∧ n = .int .i64 (7 + (j : Int))) (fun n => 43 - (intOf n).toNat)
  case atStart => exact ⟨0, by omega, rfl⟩
  case round =>
    obtain ⟨j, hj, rfl⟩ := hrel
    have HC := hidd (ch30_8 j hj w)
    have h3 : (0 : Int) ≤ ((svN 8 j : Nat) : Int) := Int.natCast_nonneg _
    by_cases hlt : j < 35
    · have h2 : 2 * ((svN 8 j : Nat) : Int) < 268435456 := by have := (tab_8 j hlt).1; omega
      go_wp2_with (go_at_call 30; refine HC.out.mono ?_; rintro e w' ⟨rfl, rfl⟩)
      exact ⟨⟨j + 1, by omega, by go_num⟩, by simp [intOf]; omega⟩
    · have hje : j = 35 := by omega
      subst hje
      have h2 : ¬ 2 * ((svN 8 35 : Nat) : Int) < 268435456 := by have := end_8.1; omega
      have h4 : ((svN 8 35 : Nat) : Int) ≤ 1125899906842624 := by have := end_8.2; omega
      go_wp2_with (go_at_call 30; refine HC.out.mono ?_; rintro e w' ⟨rfl, rfl⟩)
      go_ret2
      exact ⟨rfl, rfl⟩
theorem tch_9 (j : Nat) (hj : j ≤ 57) : (∀ i : Nat, i < 9 → 0 ≤ cho8 (8 + (j : Int) + 1) i * (8 + (j : Int) + 1 - i) ∧ cho8 (8 + (j : Int) + 1) i * (8 + (j : Int) + 1 - i) ≤ 4611686018427387904) ∧ cho8 (8 + (j : Int) + 1) 9 = ((svN 9 j : Nat) : Int) := by
  have h : ((List.range 58).all fun j => ((List.range 9).all fun i => decide (0 ≤ cho8 (8 + (j : Int) + 1) i * (8 + (j : Int) + 1 - i) ∧ cho8 (8 + (j : Int) + 1) i * (8 + (j : Int) + 1 - i) ≤ 4611686018427387904)) && decide (cho8 (8 + (j : Int) + 1) 9 = ((svN 9 j : Nat) : Int))) = true := by decide +kernel
  have h2 := List.all_eq_true.1 h j (List.mem_range.2 (by omega))
  rw [Bool.and_eq_true] at h2
  exact ⟨fun i hi => of_decide_eq_true (List.all_eq_true.1 h2.1 i (List.mem_range.2 hi)), of_decide_eq_true h2.2⟩
set_option maxRecDepth 100000 in
theorem ch30_9 (j : Nat) (hj : j ≤ 57) (w : World) : Calls Tryd.prog 30 #[.int .i64 (8 + (j : Int) + 1), .int .i64 9] w fun e w' => e = .returned (.int .i64 ((svN 9 j : Nat) : Int)) ∧ w = w' := by
  have h := choose30 (8 + (j : Int) + 1) 9 w (by omega) (by omega) (by decide) (tch_9 j hj).1
  rw [(tch_9 j hj).2] at h
  exact h
set_option maxRecDepth 100000 in
set_option maxHeartbeats 1000000 in
theorem spec17_9 (w : World) : Calls Tryd.prog 17 #[.int .i64 9] w fun e w' => e = .returned (.tuple #[.int .i64 65, .int .i64 0]) ∧ w = w' := by
  go_enter Tryd.func17, Tryd.ntmps17
  go_wp2_with (go_at_call 29; refine (in29_yes _ (by decide) (by decide) _).mono ?_; rintro e w' ⟨rfl, rfl⟩)
  go_loop [4] (fun n => ∃ j : Nat, j ≤ 57 ∧ n = .int .i64 (8 + (j : Int))) (fun n => 66 - (intOf n).toNat)
  case atStart => exact ⟨0, by omega, rfl⟩
  case round =>
    obtain ⟨j, hj, rfl⟩ := hrel
    have HC := hidd (ch30_9 j hj w)
    have h3 : (0 : Int) ≤ ((svN 9 j : Nat) : Int) := Int.natCast_nonneg _
    by_cases hlt : j < 57
    · have h2 : 2 * ((svN 9 j : Nat) : Int) < 68719476736 := by have := (tab_9 j hlt).1; omega
      go_wp2_with (go_at_call 30; refine HC.out.mono ?_; rintro e w' ⟨rfl, rfl⟩)
      exact ⟨⟨j + 1, by omega, by go_num⟩, by simp [intOf]; omega⟩
    · have hje : j = 57 := by omega
      subst hje
      have h2 : ¬ 2 * ((svN 9 57 : Nat) : Int) < 68719476736 := by have := end_9.1; omega
      have h4 : ((svN 9 57 : Nat) : Int) ≤ 1125899906842624 := by have := end_9.2; omega
      go_wp2_with (go_at_call 30; refine HC.out.mono ?_; rintro e w' ⟨rfl, rfl⟩)
      go_ret2
      exact ⟨rfl, rfl⟩
theorem tch_10 (j : Nat) (hj : j ≤ 91) : (∀ i : Nat, i < 10 → 0 ≤ cho8 (9 + (j : Int) + 1) i * (9 + (j : Int) + 1 - i) ∧ cho8 (9 + (j : Int) + 1) i * (9 + (j : Int) + 1 - i) ≤ 4611686018427387904) ∧ cho8 (9 + (j : Int) + 1) 10 = ((svN 10 j : Nat) : Int) := by
  have h : ((List.range 92).all fun j => ((List.range 10).all fun i => decide (0 ≤ cho8 (9 + (j : Int) + 1) i * (9 + (j : Int) + 1 - i) ∧ cho8 (9 + (j : Int) + 1) i * (9 + (j : Int) + 1 - i) ≤ 4611686018427387904)) && decide (cho8 (9 + (j : Int) + 1) 10 = ((svN 10 j : Nat) : Int))) = true := by decide +kernel
  have h2 := List.all_eq_true.1 h j (List.mem_range.2 (by omega))
  rw [Bool.and_eq_true] at h2
  exact ⟨fun i hi => of_decide_eq_true (List.all_eq_true.1 h2.1 i (List.mem_range.2 hi)), of_decide_eq_true h2.2⟩
set_option maxRecDepth 100000 in
theorem ch30_10 (j : Nat) (hj : j ≤ 91) (w : World) : Calls Tryd.prog 30 #[.int .i64 (9 + (j : Int) + 1), .int .i64 10] w fun e w' => e = .returned (.int .i64 ((svN 10 j : Nat) : Int)) ∧ w = w' := by
  have h := choose30 (9 + (j : Int) + 1) 10 w (by omega) (by omega) (by decide) (tch_10 j hj).1
  rw [(tch_10 j hj).2] at h
  exact h
set_option maxRecDepth 100000 in
set_option maxHeartbeats 1000000 in
theorem spec17_10 (w : World) : Calls Tryd.prog 17 #[.int .i64 10] w fun e w' => e = .returned (.tuple #[.int .i64 100, .int .i64 0]) ∧ w = w' := by
  go_enter Tryd.func17, Tryd.ntmps17
  go_wp2_with (go_at_call 29; refine (in29_yes _ (by decide) (by decide) _).mono ?_; rintro e w' ⟨rfl, rfl⟩)
  go_loop [4] (fun n => ∃ j : Nat, j ≤ 91 ∧ n = .int .i64 (9 + (j : Int))) (fun n => 101 - (intOf n).toNat)
  case atStart => exact ⟨0, by omega, rfl⟩
  case round =>
    obtain ⟨j, hj, rfl⟩ := hrel
    have HC := hidd (ch30_10 j hj w)
    have h3 : (0 : Int) ≤ ((svN 10 j : Nat) : Int) := Int.natCast_nonneg _
    by_cases hlt : j < 91
    · have h2 : 2 * ((svN 10 j : Nat) : Int) < 35184372088832 := by have := (tab_10 j hlt).1; omega
      go_wp2_with (go_at_call 30; refine HC.out.mono ?_; rintro e w' ⟨rfl, rfl⟩)
      exact ⟨⟨j + 1, by omega, by go_num⟩, by simp [intOf]; omega⟩
    · have hje : j = 91 := by omega
      subst hje
      have h2 : ¬ 2 * ((svN 10 91 : Nat) : Int) < 35184372088832 := by have := end_10.1; omega
      have h4 : ((svN 10 91 : Nat) : Int) ≤ 1125899906842624 := by have := end_10.2; omega
      go_wp2_with (go_at_call 30; refine HC.out.mono ?_; rintro e w' ⟨rfl, rfl⟩)
      go_ret2
      exact ⟨rfl, rfl⟩
end Go.Proofs.YtblehhiojednhaaDoor
