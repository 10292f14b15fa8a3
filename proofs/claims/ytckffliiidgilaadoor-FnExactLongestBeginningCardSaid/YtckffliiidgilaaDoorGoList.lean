/- l02List: the cliques of m points, in order, but not more than told. -/
import Derived.Test.YtckffliiidgilaaDoorGo
import Derived.Test.YtckffliiidgilaaDoorCtSp
namespace Go.Proofs.YtckffliiidgilaaDoor
set_option linter.unusedVariables false
set_option linter.unusedSimpArgs false
open Go Go.RowKit Go.Shelf
theorem rwN_irr (bs : List Nat) (c : Int) (N : Nat) : ∀ q, (rwN bs c N q).testBit q = false := fun q => by
  unfold rwN nbB
  rw [arK_bit]; simp
theorem frB_full (R : Nat → Nat) (N : Nat) : frB R N [] N = 2 ^ N - 1 := by
  apply Nat.eq_of_testBit_eq
  intro q
  rw [Nat.testBit_two_pow_sub_one]
  by_cases h : q < N
  · rw [frB_bit h]; simp [h, fitR]
  · unfold frB; rw [arK_high (by omega)]; simp [h]
/-- The cliques of m points of a colour, as lists. -/
def clqL (bs : List Nat) (c : Int) (N m : Nat) : List (List Int) := cqH (rwN bs c N) N m N []
theorem blk_ne28 {W : World} {a b : Nat} {C D : Array Value} (h : Blk W a C 28) (k : Blk W b D 25) : a ≠ b := fun e => by
  subst e
  unfold Blk at h k
  rw [h] at k
  cases k
theorem bg_empty {w : World} {b : Nat} (h : Blk w b #[] 2) : BgL w (some ⟨b, 0, none⟩) (rv []) := ⟨b, #[], rfl, h, by simp [rv], fun j hj => by simp [rv] at hj⟩
theorem ll_empty {w : World} {b : Nat} (h : Blk w b #[] 25) : LL w (.slice (some ⟨b, 0, none⟩) 0 0) [] := ⟨[], ⟨rfl, .inr ⟨b, 0, #[], rfl, Nat.zero_le _, h, Nat.le_refl _, by simp [maxLen], rfl, rfl⟩⟩, fun i zs h => by simp at h⟩
end Go.Proofs.YtckffliiidgilaaDoor
