/- ErdosNumber: the model and the program. -/
import Derived.Test.YtljlbonoohhhdaaGe
namespace Go.Proofs.Ytljlbonoohhhdaa
set_option linter.unusedVariables false
set_option linter.unusedSimpArgs false
open Go Go.RowKit Go.ChangeShapes Go.WideShapes Go.ChangeAt
/-- Both numbers are in 1..1000. -/
def erG (a b : Int) : Bool := inB a 1 1000 && inB b 1 1000
def erV (a b : Int) : Int := if erG a b then (a - 1) * (b - 1) + 1 else 0
def erC (a b : Int) : Int := if erG a b then 0 else 2
theorem er_bd {a b : Int} (ha : inB a 1 1000 = true) (hb : inB b 1 1000 = true) : wrap64 (wrap64 (wrap64 (a - 1) * wrap64 (b - 1)) + 1) = (a - 1) * (b - 1) + 1 := by
  have h1 := inB_bd ha
  have h2 := inB_bd hb
  have h3 : 0 ≤ (a - 1) * (b - 1) := Int.mul_nonneg (by omega) (by omega)
  have h4 : (a - 1) * (b - 1) ≤ 999 * 999 := Int.mul_le_mul (by omega) (by omega) (by omega) (by omega)
  rw [IntWalk.wrap64_in (a - 1) ⟨by omega, by omega⟩, IntWalk.wrap64_in (b - 1) ⟨by omega, by omega⟩, IntWalk.wrap64_in ((a - 1) * (b - 1)) ⟨by omega, by omega⟩, IntWalk.wrap64_in _ ⟨by omega, by omega⟩]
theorem win28 (n lo hi : Int) (w : World) : Calls Try.prog 28 #[.int .i64 n, .int .i64 lo, .int .i64 hi] w fun e w' => e = .returned (.bool (inB n lo hi)) ∧ w = w' := by
  by_cases h1 : lo ≤ n
  · by_cases h2 : n ≤ hi
    · have H := hidd (inB_yes h1 h2)
      go_enter Try.func28, Try.ntmps28
      go_wp2
      go_ret
      exact ⟨by rw [H.out]; rfl, rfl⟩
    · have H := hidd (inB_no (n := n) (lo := lo) (hi := hi) (by omega))
      have hd : decide (n ≤ hi) = false := by simpa using h2
      clear h2
      go_enter Try.func28, Try.ntmps28
      go_wp2
      go_ret
      exact ⟨by rw [H.out]; rfl, rfl⟩
  · have H := hidd (inB_no (n := n) (lo := lo) (hi := hi) (by omega))
    have hd : decide (lo ≤ n) = false := by simpa using h1
    clear h1
    go_enter Try.func28, Try.ntmps28
    go_wp2
    go_ret
    exact ⟨by rw [H.out]; rfl, rfl⟩
theorem spec12 (a b : Int) (w : World) : Calls Try.prog 12 #[.int .i64 a, .int .i64 b] w fun e w' => e = .returned (.tuple #[.int .i64 (erV a b), .int .i64 (erC a b)]) ∧ w = w' := by
  cases ha : inB a 1 1000 with
  | false =>
    have H := hidd (show erV a b = 0 ∧ erC a b = 2 by simp [erV, erC, erG, ha])
    have HA := hidd ha
    clear ha
    go_enter Try.func12, Try.ntmps12
    go_wp2_with (go_at_call 22; refine (in49 _ _ _ _).mono ?_; rintro e _ ⟨rfl, rfl⟩; rw [HA.out])
    go_ret2
    exact ⟨by rw [H.out.1, H.out.2]; rfl, rfl⟩
  | true =>
    cases hb : inB b 1 1000 with
    | false =>
      have H := hidd (show erV a b = 0 ∧ erC a b = 2 by simp [erV, erC, erG, hb])
      have HA := hidd ha
      have HB := hidd hb
      clear ha hb
      go_enter Try.func12, Try.ntmps12
      go_wp2_with (go_at_call 22; refine (in49 _ _ _ _).mono ?_; rintro e _ ⟨rfl, rfl⟩; first | rw [HA.out] | rw [HB.out])
      go_ret2
      exact ⟨by rw [H.out.1, H.out.2]; rfl, rfl⟩
    | true =>
      have H := hidd (show erV a b = (a - 1) * (b - 1) + 1 ∧ erC a b = 0 by simp [erV, erC, erG, ha, hb])
      have HW := hidd (er_bd ha hb)
      have HA := hidd ha
      have HB := hidd hb
      clear ha hb
      go_enter Try.func12, Try.ntmps12
      go_wp2_with (go_at_call 22; refine (in49 _ _ _ _).mono ?_; rintro e _ ⟨rfl, rfl⟩; first | rw [HA.out] | rw [HB.out])
      go_ret2
      exact ⟨by rw [H.out.1, H.out.2, ← HW.out]; rfl, rfl⟩
theorem impl13 (a b : Int) (w : World) : Calls Try.prog 13 #[.int .i64 a, .int .i64 b] w fun e w' => e = .returned (.tuple #[.int .i64 (erV a b), .int .i64 (erC a b)]) ∧ w = w' := by
  cases ha : inB a 1 1000 with
  | false =>
    have H := hidd (show erV a b = 0 ∧ erC a b = 2 by simp [erV, erC, erG, ha])
    have HA := hidd ha
    clear ha
    go_enter Try.func13, Try.ntmps13
    go_wp2_with (go_at_call 28; refine (win28 _ _ _ _).mono ?_; rintro e _ ⟨rfl, rfl⟩; rw [HA.out])
    go_ret2
    exact ⟨by rw [H.out.1, H.out.2]; rfl, rfl⟩
  | true =>
    cases hb : inB b 1 1000 with
    | false =>
      have H := hidd (show erV a b = 0 ∧ erC a b = 2 by simp [erV, erC, erG, hb])
      have HA := hidd ha
      have HB := hidd hb
      clear ha hb
      go_enter Try.func13, Try.ntmps13
      go_wp2_with (go_at_call 28; refine (win28 _ _ _ _).mono ?_; rintro e _ ⟨rfl, rfl⟩; first | rw [HA.out] | rw [HB.out])
      go_ret2
      exact ⟨by rw [H.out.1, H.out.2]; rfl, rfl⟩
    | true =>
      have H := hidd (show erV a b = (a - 1) * (b - 1) + 1 ∧ erC a b = 0 by simp [erV, erC, erG, ha, hb])
      have HW := hidd (er_bd ha hb)
      have HA := hidd ha
      have HB := hidd hb
      clear ha hb
      go_enter Try.func13, Try.ntmps13
      go_wp2_with (go_at_call 28; refine (win28 _ _ _ _).mono ?_; rintro e _ ⟨rfl, rfl⟩; first | rw [HA.out] | rw [HB.out])
      go_ret2
      exact ⟨by rw [H.out.1, H.out.2, ← HW.out]; rfl, rfl⟩
end Go.Proofs.Ytljlbonoohhhdaa
