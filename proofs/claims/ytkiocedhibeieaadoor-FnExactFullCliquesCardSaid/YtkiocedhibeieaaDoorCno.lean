/- Which colours are connected: the numbers. -/
import Derived.Test.YtkiocedhibeieaaDoorCpi
namespace Go.Proofs.YtkiocedhibeieaaDoor
set_option linter.unusedVariables false
set_option linter.unusedSimpArgs false
open Go Go.RowKit Go.Shelf
/-- Is the component of the point 0 everything? -/
def cnB (N : Nat) (bs : List Nat) (j : Nat) : Bool := decide (cmC (cpG bs (j : Int) N) N 0 = 2 ^ N - 1)
theorem cpl_nil {F : Nat → Nat} {r : Nat} (h : r < 2 ^ 17) : cpl F r = [] ↔ r = 0 := by
  constructor
  · intro e
    by_cases h0 : r = 0
    · exact h0
    · rw [cpl_step h0 h] at e; cases e
  · rintro rfl; rfl
theorem cn_iff (N : Nat) (bs : List Nat) (j : Nat) (n1 : 1 ≤ N) (n2 : N ≤ 17) : ((cpSets N bs (j : Int)).length = 1) ↔ cnB N bs j = true := by
  have hU : 2 ^ N - 1 < 2 ^ 17 := by have := Nat.pow_le_pow_right (show 0 < 2 by omega) n2; have := Nat.two_pow_pos N; omega
  have hb0 : (2 ^ N - 1).testBit 0 = true := by rw [Nat.testBit_two_pow_sub_one]; simp; omega
  obtain ⟨h0, hz⟩ := lo_of hU hb0 (fun j hj => by omega)
  have hC : cpo (nsF bs (j : Int) (eseq N)) (2 ^ N - 1) = cmC (cpG bs (j : Int) N) N 0 := by
    unfold cpo
    rw [hz]
    exact cmC_congr (fun p hp => nsF_rw bs _ hp n2) (cpG_lt bs _ N) (by omega) n2
  have hCl : cmC (cpG bs (j : Int) N) N 0 < 2 ^ N := cmC_lt (cpG_lt bs _ N) (by omega)
  rw [← cpSets_impl bs (j : Int) n2, cpl_step h0 hU, hC]
  obtain ⟨C, hCC⟩ : ∃ C, C = cmC (cpG bs (j : Int) N) N 0 := ⟨_, rfl⟩
  unfold cnB
  rw [← hCC] at hCl ⊢
  have ha : adn (2 ^ N - 1) C < 2 ^ 17 := by
    refine bits_lt fun q hq => ?_
    rw [adn_bit (Nat.lt_of_lt_of_le hU (by decide)), Bool.and_eq_true] at hq
    exact bit_lt hU hq.1
  rw [List.length_cons, decide_eq_true_iff]
  constructor
  · intro h
    have hnil : cpl (nsF bs (j : Int) (eseq N)) (adn (2 ^ N - 1) C) = [] := List.length_eq_zero_iff.1 (by omega)
    have hz2 := (cpl_nil ha).1 hnil
    apply Nat.eq_of_testBit_eq
    intro q
    have h1 : (adn (2 ^ N - 1) C).testBit q = false := by rw [hz2]; simp
    rw [adn_bit (Nat.lt_of_lt_of_le hU (by decide))] at h1
    rw [Nat.testBit_two_pow_sub_one] at h1 ⊢
    by_cases hq : q < N
    · simpa [hq] using h1
    · rw [Nat.testBit_lt_two_pow (Nat.lt_of_lt_of_le hCl (Nat.pow_le_pow_right (by omega) (by omega)))]; simp [hq]
  · intro h
    have : adn (2 ^ N - 1) C = 0 := by
      apply Nat.eq_of_testBit_eq
      intro q
      rw [adn_bit (Nat.lt_of_lt_of_le hU (by decide)), h]
      cases (2 ^ N - 1).testBit q <;> simp
    rw [this]; rfl
def cnL (n k : Int) (bs : List Nat) : List Int := if isCol n k bs = true then nbK (cnB n.toNat bs) k.toNat else []
def cnCode (n k : Int) (bs : List Nat) : Int := if isCol n k bs = true then 0 else 1
end Go.Proofs.YtkiocedhibeieaaDoor
