/- The points of a set: the least one. Nothing of the program. -/
import Derived.Test.YtkiocedhibeieaaDoorBits
import Derived.Test.YtkiocedhibeieaaDoorCqM
import Derived.Lib.TrailingZeros
namespace Go.Proofs.YtkiocedhibeieaaDoor
set_option linter.unusedVariables false
set_option linter.unusedSimpArgs false
theorem low_form {t : List Nat} {q : Nat} (h : ∀ p ∈ t, q < p) (hb : ∀ p ∈ t ++ [q], p < 17) : ∃ m, bitS (t ++ [q]) = 2 ^ q * (2 * m + 1) ∧ Lib.ctz 32 (bitS (t ++ [q])) = q := by
  have hx0 : bitS (t ++ [q]) ≠ 0 := fun e => by have := bitS_zero.1 e; simp at this
  have hx17 : bitS (t ++ [q]) < 2 ^ 32 := Nat.lt_of_lt_of_le (bitS_lt _ hb) (by decide)
  have hc : Lib.ctz 32 (bitS (t ++ [q])) = Lib.ctzFrom 32 (bitS (t ++ [q])) := by simp [Lib.ctz, hx0]
  obtain ⟨m, hm, hk⟩ := Lib.ctzFrom_spec 32 (bitS (t ++ [q])) (by omega) hx17
  rw [← hc] at hm hk
  generalize hkk : Lib.ctz 32 (bitS (t ++ [q])) = k at hm hk
  have hbit : ∀ j, (bitS (t ++ [q])).testBit j = (decide (k ≤ j) && (2 * m + 1).testBit (j - k)) := fun j => by
    rw [hm, Nat.mul_comm, Nat.testBit_mul_two_pow]
  have h1 : k ∈ t ++ [q] := by
    have := hbit k
    rw [bitS_bit] at this
    simpa [Nat.testBit_zero] using this
  have h2 : k ≤ q := by
    have := hbit q
    rw [bitS_bit, decide_eq_true (show q ∈ t ++ [q] by simp)] at this
    have := (Bool.and_eq_true_iff.1 this.symm).1
    exact of_decide_eq_true this
  have hkq : k = q := by
    rcases List.mem_append.1 h1 with h3 | h3
    · have := h k h3; omega
    · simpa using h3
  subst hkq
  exact ⟨m, hm, rfl⟩
theorem low_drop {t : List Nat} {q : Nat} (h : ∀ p ∈ t, q < p) (hb : ∀ p ∈ t ++ [q], p < 17) : bitS (t ++ [q]) &&& (bitS (t ++ [q]) - 1) = bitS t := by
  obtain ⟨m, hm, _⟩ := low_form h hb
  have e1 : bitS (t ++ [q]) = 2 ^ (q + 1) * m + 2 ^ q := by rw [hm, Nat.pow_succ]; rw [Nat.mul_add, Nat.mul_one, Nat.mul_assoc]
  have hp : 1 ≤ 2 ^ q := Nat.one_le_two_pow
  have e2 : bitS (t ++ [q]) - 1 = 2 ^ (q + 1) * m + (2 ^ q - 1) := by omega
  have l1 : 2 ^ q < 2 ^ (q + 1) := by rw [Nat.pow_succ]; omega
  apply Nat.eq_of_testBit_eq
  intro j
  have hj : (bitS (t ++ [q])).testBit j = if j < q + 1 then (2 ^ q).testBit j else m.testBit (j - (q + 1)) := by rw [e1, Nat.testBit_two_pow_mul_add _ l1]
  have hj2 : (bitS (t ++ [q]) - 1).testBit j = if j < q + 1 then (2 ^ q - 1).testBit j else m.testBit (j - (q + 1)) := by rw [e2, Nat.testBit_two_pow_mul_add _ (by omega)]
  rw [Nat.testBit_and, hj2]
  by_cases hlt : j < q + 1
  · rw [if_pos hlt, hj, if_pos hlt, Nat.testBit_two_pow, Nat.testBit_two_pow_sub_one, bitS_bit]
    have hnt : ¬ j ∈ t := fun hm => by have := h j hm; omega
    by_cases e : q = j
    · subst e; simp [hnt]
    · simp [hnt, e]
  · rw [if_neg hlt]
    have h3 := hj
    rw [if_neg hlt] at h3
    rw [← h3, Bool.and_self, bitS_bit, bitS_bit]
    have : (j ∈ t ++ [q]) ↔ j ∈ t := by
      rw [List.mem_append]
      constructor
      · rintro (h | h)
        · exact h
        · simp at h; omega
      · exact .inl
    simp only [this]
end Go.Proofs.YtkiocedhibeieaaDoor
