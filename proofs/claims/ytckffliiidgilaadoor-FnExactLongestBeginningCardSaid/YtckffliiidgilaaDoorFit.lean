/- Does a point fit to a clique: the sets of neighbours as digits. -/
import Derived.Test.YtckffliiidgilaaDoorNearM
namespace Go.Proofs.YtckffliiidgilaaDoor
set_option linter.unusedVariables false
set_option linter.unusedSimpArgs false
open Go Go.RowKit Go.Shelf
def adn (a b : Nat) : Nat := ((BitVec.ofNat 32 a) &&& ~~~(BitVec.ofNat 32 b)).toNat
theorem adn_lt32 (a b : Nat) : adn a b < 2 ^ 32 := BitVec.isLt _
theorem adn_bit {a b j : Nat} (ha : a < 2 ^ 32) : (adn a b).testBit j = (a.testBit j && !b.testBit j) := by
  unfold adn
  rw [BitVec.testBit_toNat, BitVec.getLsbD_and, BitVec.getLsbD_not, BitVec.getLsbD_ofNat, BitVec.getLsbD_ofNat]
  by_cases h : j < 32
  · simp [h]
  · have : a.testBit j = false := Nat.testBit_lt_two_pow (Nat.lt_of_lt_of_le ha (Nat.pow_le_pow_right (by omega) (by omega)))
    simp [h, this]
theorem u32_andnot_nat (a b : Nat) (ha : a < 4294967296) (hb : b < 4294967296) : bits .andNot .u32 (a : Int) (b : Int) = ((adn a b : Nat) : Int) := by
  have hx : adn a b < 2 ^ 32 := adn_lt32 a b
  show IntKind.u32.wrap ((BitVec.ofInt 32 (a : Int) &&& ~~~BitVec.ofInt 32 (b : Int)).toNat : Int) = _
  rw [BitVec.ofInt_natCast, BitVec.ofInt_natCast]
  show IntKind.u32.wrap (adn a b : Int) = _
  unfold IntKind.wrap; simp [IntKind.signed, IntKind.bits]; omega
theorem adn_drop {q : Nat} {s : List Nat} (h : ∀ p ∈ s, p < q) (hq : q < 17) : adn (bitS (q :: s)) (2 ^ q) = bitS s := by
  apply Nat.eq_of_testBit_eq
  intro j
  have hX : bitS (q :: s) < 2 ^ 32 := Nat.lt_of_lt_of_le (bitS_top h).2 (Nat.pow_le_pow_right (by omega) (by omega))
  rw [adn_bit hX, bitS_bit, bitS_bit, Nat.testBit_two_pow]
  by_cases e : q = j
  · subst e
    have : ¬ q ∈ s := fun hm => by have := h q hm; omega
    simp [this]
  · simp [e, show ¬ j = q from fun h => e h.symm]
theorem adn_fit {R : Nat → Nat} {s : List Nat} {p : Nat} (hs : ∀ q ∈ s, q < 17) (hsym : ∀ q ∈ s, (R q).testBit p = (R p).testBit q) : (adn (bitS s) (R p) = 0) ↔ fitR R s p = true := by
  have hX : bitS s < 2 ^ 32 := Nat.lt_of_lt_of_le (bitS_lt s hs) (Nat.pow_le_pow_right (by omega) (by omega))
  constructor
  · intro h
    unfold fitR
    refine List.all_eq_true.2 fun q hq => ?_
    have := congrArg (fun x => x.testBit q) h
    simp only [adn_bit hX, bitS_bit, Nat.zero_testBit, decide_eq_true hq] at this
    rw [hsym q hq]
    simpa using this
  · intro h
    apply Nat.eq_of_testBit_eq
    intro j
    rw [adn_bit hX, bitS_bit, Nat.zero_testBit]
    by_cases hj : j ∈ s
    · have := List.all_eq_true.1 h j hj
      rw [hsym j hj] at this
      rw [this]; simp
    · simp [hj]
end Go.Proofs.YtckffliiidgilaaDoor
