/- l02Count: the walk, by recursion on the number of points that are still to be taken. -/
import Derived.Test.YtckffliiidgilaaDoorCount
namespace Go.Proofs.YtckffliiidgilaaDoor
set_option linter.unusedVariables false
set_option linter.unusedSimpArgs false
open Go Go.RowKit Go.Shelf
theorem xor_bit {X Y j : Nat} (hX : X < 2 ^ 17) (hj : j < 17) (h : X ^^^ 2 ^ j = Y) : bits .xor .i64 (X : Int) (wrap64 (2 ^ j)) = (Y : Int) := by
  subst h
  have h2 : 2 ^ j < 2 ^ 17 := Nat.pow_lt_pow_right (by omega) hj
  have e : (2 : Int) ^ j = ((2 ^ j : Nat) : Int) := by simp
  rw [e]
  generalize 2 ^ j = y at *
  rw [IntWalk.wrap64_in _ ⟨by omega, by omega⟩]
  exact i64_xor_nat X y (by omega) (by omega)
/-- The rows as a slice of the model. -/
structure Rws (N : Nat) (R : Nat → Nat) (zs : List Int) : Prop where
  len : zs.length = N
  get : ∀ p, p < N → zs.getD p 0 = (R p : Int)
  lt : ∀ p, p < N → R p < 2 ^ 17
theorem hiB_lt {F j : Nat} (h : F < 2 ^ 17) : hiB F j < 2 ^ 17 := Nat.lt_of_le_of_lt (hiB_le _ _) h
theorem hiB_bitj {F j : Nat} : (hiB F j).testBit j = F.testBit j := by rw [hiB_bit]; simp
end Go.Proofs.YtckffliiidgilaaDoor
