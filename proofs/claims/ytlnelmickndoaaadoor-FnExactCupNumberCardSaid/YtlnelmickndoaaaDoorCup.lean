/- CupNumber: the model and the program. -/
import Derived.Test.YtlnelmickndoaaaDoorBib
namespace Go.Proofs.YtlnelmickndoaaaDoor
set_option linter.unusedVariables false
set_option linter.unusedSimpArgs false
open Go Go.RowKit
def cuG (a b : Int) : Bool := inB a 2 16 && inB b 2 16
def cuV (a b : Int) : Int := if cuG a b then binV (a - 1) (b - 1) + 1 else 0
def cuC (a b : Int) : Int := if cuG a b then 0 else 2
set_option maxRecDepth 100000 in
set_option maxHeartbeats 1000000 in
theorem spec4c (a b : Int) (w : World) :
    Calls Tryd.prog 4 #[.int .i64 a, .int .i64 b] w fun e w' => e = .returned (.tuple #[.int .i64 (cuV a b), .int .i64 (cuC a b)]) ∧ Below w.heap.size w w' := by
  have H0 := hidd (Below.refl w.heap.size w)
  cases ha : inB a 2 16 with
  | false =>
    have H := hidd (show cuV a b = 0 ∧ cuC a b = 2 by simp [cuV, cuC, cuG, ha])
    have HA := hidd ha
    clear ha
    go_enter Tryd.func4, Tryd.ntmps4
    go_wp2_with (go_at_call 6; refine (in49 _ _ _ _).mono ?_; rintro e w' ⟨rfl, rfl⟩; rw [HA.out])
    all_goals (go_ret2; exact ⟨by rw [H.out.1, H.out.2]; rfl, H0.out⟩)
  | true =>
    cases hb : inB b 2 16 with
    | false =>
      have H := hidd (show cuV a b = 0 ∧ cuC a b = 2 by simp [cuV, cuC, cuG, ha, hb])
      have HA := hidd ha
      have HB := hidd hb
      clear ha hb
      go_enter Tryd.func4, Tryd.ntmps4
      go_wp2_with (go_at_call 6; refine (in49 _ _ _ _).mono ?_; rintro e w' ⟨rfl, rfl⟩; first | rw [HA.out] | rw [HB.out])
      all_goals (go_ret2; exact ⟨by rw [H.out.1, H.out.2]; rfl, H0.out⟩)
    | true =>
      have h1 := inB_bd ha
      have h2 := inB_bd hb
      have H := hidd (show cuV a b = binV (a - 1) (b - 1) + 1 ∧ cuC a b = 0 by simp [cuV, cuC, cuG, ha, hb])
      have HA := hidd ha
      have HB := hidd hb
      obtain ⟨-, b0, b1, b2⟩ := bin_at (a := a - 1) (b := b - 1) (by unfold in16; omega) (by unfold in16; omega)
      have hbe : binV (a - 1) (b - 1) = cho8 (a + b - 4) (a - 2).toNat := by
        unfold binV
        rw [show a - 1 + (b - 1) - 2 = a + b - 4 by omega, show a - 1 - 1 = a - 2 by omega]
      rw [show a - 1 + (b - 1) - 2 = a + b - 4 by omega, show a - 1 - 1 = a - 2 by omega] at b2
      have hc := choose30 (a + b - 4) (a - 2).toNat w (by omega) (by omega) (by omega) b2
      rw [Int.toNat_of_nonneg (show 0 ≤ a - 2 by omega), ← hbe] at hc
      generalize binV (a - 1) (b - 1) = v at *
      have HC := hidd hc
      clear ha hb hc b2 hbe
      go_enter Tryd.func4, Tryd.ntmps4
      go_wp2_with (first | (go_at_call 6; refine (in49 _ _ _ _).mono ?_; rintro e w' ⟨rfl, rfl⟩; first | rw [HA.out] | rw [HB.out]) | (go_at_call 7; refine HC.out.mono ?_; rintro e w' ⟨rfl, rfl⟩))
      go_ret2
      exact ⟨by rw [H.out.1, H.out.2]; rfl, H0.out⟩
theorem winC (n lo hi : Int) (w : World) : Calls Tryd.prog 8 #[.int .i64 n, .int .i64 lo, .int .i64 hi] w fun e w' => e = .returned (.bool (inB n lo hi)) ∧ w = w' := by
  by_cases h1 : lo ≤ n
  · by_cases h2 : n ≤ hi
    · have H := hidd (inB_yes h1 h2)
      go_enter Tryd.func8, Tryd.ntmps8
      go_wp2
      go_ret
      exact ⟨by rw [H.out]; rfl, rfl⟩
    · have H := hidd (inB_no (n := n) (lo := lo) (hi := hi) (by omega))
      have hd : decide (n ≤ hi) = false := by simpa using h2
      clear h2
      go_enter Tryd.func8, Tryd.ntmps8
      go_wp2
      go_ret
      exact ⟨by rw [H.out]; rfl, rfl⟩
  · have H := hidd (inB_no (n := n) (lo := lo) (hi := hi) (by omega))
    have hd : decide (lo ≤ n) = false := by simpa using h1
    clear h1
    go_enter Tryd.func8, Tryd.ntmps8
    go_wp2
    go_ret
    exact ⟨by rw [H.out]; rfl, rfl⟩
set_option maxRecDepth 100000 in
set_option maxHeartbeats 1000000 in
theorem impl5c (a b : Int) (e0 : Addr) (w : World) (hE : Er w e0) :
    Calls Tryd.prog 5 #[.int .i64 a, .int .i64 b] w fun e w' => e = .returned (.tuple #[.int .i64 (cuV a b), .int .i64 (cuC a b)]) ∧ Below w.heap.size w w' := by
  have H0 := hidd (Below.refl w.heap.size w)
  cases ha : inB a 2 16 with
  | false =>
    have H := hidd (show cuV a b = 0 ∧ cuC a b = 2 by simp [cuV, cuC, cuG, ha])
    have HA := hidd ha
    clear ha hE
    go_enter Tryd.func5, Tryd.ntmps5
    go_wp2_with (go_at_call 8; refine (winC _ _ _ _).mono ?_; rintro e w' ⟨rfl, rfl⟩; rw [HA.out])
    all_goals (go_ret2; exact ⟨by rw [H.out.1, H.out.2]; rfl, H0.out⟩)
  | true =>
    cases hb : inB b 2 16 with
    | false =>
      have H := hidd (show cuV a b = 0 ∧ cuC a b = 2 by simp [cuV, cuC, cuG, ha, hb])
      have HA := hidd ha
      have HB := hidd hb
      clear ha hb hE
      go_enter Tryd.func5, Tryd.ntmps5
      go_wp2_with (go_at_call 8; refine (winC _ _ _ _).mono ?_; rintro e w' ⟨rfl, rfl⟩; first | rw [HA.out] | rw [HB.out])
      all_goals (go_ret2; exact ⟨by rw [H.out.1, H.out.2]; rfl, H0.out⟩)
    | true =>
      have h1 := inB_bd ha
      have h2 := inB_bd hb
      have H := hidd (show cuV a b = binV (a - 1) (b - 1) + 1 ∧ cuC a b = 0 by simp [cuV, cuC, cuG, ha, hb])
      have HA := hidd ha
      have HB := hidd hb
      obtain ⟨-, b0, b1, b2⟩ := bin_at (a := a - 1) (b := b - 1) (by unfold in16; omega) (by unfold in16; omega)
      have hi := impl12 (a - 1) (b - 1) e0 w hE
      rw [show (inB (a - 1) 1 16 && inB (b - 1) 1 16) = true by rw [inB_yes (by omega) (by omega), inB_yes (by omega) (by omega)]; rfl, if_pos rfl, if_pos rfl] at hi
      generalize binV (a - 1) (b - 1) = v at *
      have HC := hidd hi
      clear ha hb hi b2 hE
      go_enter Tryd.func5, Tryd.ntmps5
      go_wp2_with (first | (go_at_call 8; refine (winC _ _ _ _).mono ?_; rintro e w' ⟨rfl, rfl⟩; first | rw [HA.out] | rw [HB.out]))
      refine HC.out.mono ?_
      rintro e w1 ⟨rfl, hb1⟩
      have HB1 := hidd hb1
      clear hb1
      go_wp2
      go_ret2
      exact ⟨by rw [H.out.1, H.out.2]; rfl, HB1.out⟩
end Go.Proofs.YtlnelmickndoaaaDoor
