/- Colourings that a list tells by differences: the program and the model. -/
import Derived.Test.YtckffliiidgilaaDoorDiffSp
namespace Go.Proofs.YtckffliiidgilaaDoor
set_option linter.unusedVariables false
set_option linter.unusedSimpArgs false
open Go Go.RowKit Go.Shelf
theorem i64_xor_nat (a b : Nat) (ha : a < 4611686018427387904) (hb : b < 4611686018427387904) : bits .xor .i64 (a : Int) (b : Int) = ((a ^^^ b : Nat) : Int) := by
  have hx : a ^^^ b < 2 ^ 62 := Nat.xor_lt_two_pow (by omega) (by omega)
  show IntKind.i64.wrap ((BitVec.ofInt 64 (a : Int) ^^^ BitVec.ofInt 64 (b : Int)).toNat : Int) = _
  rw [BitVec.toNat_xor, ofInt_i64 a (by omega), ofInt_i64 b (by omega)]
  exact IntWalk.i64_in _ (by omega)
theorem xor_bd {lo hi : Nat} (h1 : lo < hi) (h2 : hi < 16) : 1 ≤ lo ^^^ hi ∧ lo ^^^ hi ≤ 15 := by
  have h3 : lo ^^^ hi < 2 ^ 4 := Nat.xor_lt_two_pow (by omega) (by omega)
  have h4 : lo ^^^ hi ≠ 0 := fun h => by
    have h5 : (lo ^^^ hi) ^^^ hi = 0 ^^^ hi := by rw [h]
    rw [Nat.xor_assoc, Nat.xor_self, Nat.xor_zero, Nat.zero_xor] at h5
    omega
  omega
theorem RelSc.drew {n k : Int} {zs : List Int} {a : Option Addr} {r : Nat → Nat → Int} {w : World} {j i : Nat} {wr : World} (h : RelSc n k zs a r w j i wr) : RelSc n k zs a r w j i wr.drew :=
  ⟨h.1.drew, h.2.1.drew, h.2.2.1, below_drewN h.2.2.2 1⟩
end Go.Proofs.YtckffliiidgilaaDoor
