/- Triangles of one colour: the program's sum (by the greatest point) and the model's (by the least) are equal. Nothing of the program. -/
import Derived.Test.YtckffliiidgilaaDoorGf
namespace Go.Proofs.YtckffliiidgilaaDoor
set_option linter.unusedVariables false
set_option linter.unusedSimpArgs false
theorem sm_ext {f g : Nat → Nat} (m : Nat) (h : ∀ j, j < m → f j = g j) : sm f m = sm g m := sm_congr m h
theorem sm_cut (f : Nat → Nat) : ∀ (d m : Nat), sm f m = sm (fun i => if i < m then f i else 0) (m + d)
  | 0, m => sm_congr m fun j hj => by rw [if_pos hj]
  | d + 1, m => by
    rw [show m + (d + 1) = (m + d) + 1 by omega, sm, ← sm_cut f d m, if_neg (by omega)]
    rfl
theorem sm_cut' (f : Nat → Nat) {m N : Nat} (h : m ≤ N) : sm f m = sm (fun i => if i < m then f i else 0) N := by
  have := sm_cut f (N - m) m
  rwa [show m + (N - m) = N by omega] at this
theorem sm_if (c : Prop) [Decidable c] (f : Nat → Nat) (N : Nat) : (if c then sm f N else 0) = sm (fun i => if c then f i else 0) N := by
  split
  · rfl
  · exact (sm_zero N).symm
/-- Triples p < q < r by the greatest, then the middle one. -/
def triHi (t : Nat → Nat → Nat → Nat) (N : Nat) : Nat := sm (fun r => sm (fun q => sm (fun p => t p q r) q) r) N
/-- The same by the least, then the middle one. -/
def triLo (t : Nat → Nat → Nat → Nat) (N : Nat) : Nat := sm (fun p => sm (fun q => if p < q then sm (fun r => if q < r then t p q r else 0) N else 0) N) N
theorem tri_eq (t : Nat → Nat → Nat → Nat) (N : Nat) : triHi t N = triLo t N := by
  have h1 : triHi t N = sm (fun r => sm (fun q => sm (fun p => if q < r then (if p < q then t p q r else 0) else 0) N) N) N := by
    refine sm_congr N fun r hr => ?_
    show sm (fun q => sm (fun p => t p q r) q) r = _
    rw [sm_cut' _ (Nat.le_of_lt hr)]
    refine sm_congr N fun q hq => ?_
    rw [sm_cut' (fun p => t p q r) (Nat.le_of_lt hq), sm_if]
  have h2 : triLo t N = sm (fun p => sm (fun q => sm (fun r => if q < r then (if p < q then t p q r else 0) else 0) N) N) N := by
    refine sm_congr N fun p hp => sm_congr N fun q hq => ?_
    show (if p < q then sm (fun r => if q < r then t p q r else 0) N else 0) = _
    rw [sm_if]
    refine sm_congr N fun r hr => ?_
    by_cases ha : p < q <;> by_cases hb : q < r <;> simp [ha, hb]
  rw [h1, h2, sm_swap (fun r q => sm (fun p => if q < r then (if p < q then t p q r else 0) else 0) N) N N]
  rw [sm_congr N (g := fun q => sm (fun p => sm (fun r => if q < r then (if p < q then t p q r else 0) else 0) N) N) fun q hq => sm_swap (fun r p => if q < r then (if p < q then t p q r else 0) else 0) N N]
  rw [sm_swap (fun q p => sm (fun r => if q < r then (if p < q then t p q r else 0) else 0) N) N N]
end Go.Proofs.YtckffliiidgilaaDoor
