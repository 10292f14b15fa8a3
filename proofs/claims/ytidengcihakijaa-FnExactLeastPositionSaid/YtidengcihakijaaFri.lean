/- Free edges in the program, and the position behind a move. -/
import Derived.Test.YtidengcihakijaaFre
namespace Go.Proofs.Ytidengcihakijaa
set_option linter.unusedVariables false
set_option linter.unusedSimpArgs false
open Go Go.RowKit Go.Shelf
theorem u16_bit_test (S j : Nat) (hS : S < 65536) : (bits .and .u16 ((S : Int) / 2 ^ j) 1 == 0) = !S.testBit j := by
  have e : ((S : Int) / 2 ^ j) = ((S / 2 ^ j : Nat) : Int) := by simp
  have hlt : S / 2 ^ j < 65536 := Nat.lt_of_le_of_lt (Nat.div_le_self _ _) hS
  rw [e]
  have := u16_and_nat (S / 2 ^ j) 1 hlt (by omega)
  simp only [Nat.and_one_is_mod] at this
  rw [show ((1 : Nat) : Int) = 1 from rfl] at this
  rw [this, Nat.testBit_eq_decide_div_mod_eq]
  have h2 := Nat.mod_two_eq_zero_or_one (S / 2 ^ j)
  rcases h2 with h | h
  · rw [h]; rfl
  · rw [h]; rfl
theorem tkn_bit {P : Int} {zs : List Int} {q : Nat} (hq : q < zs.length) : (tkn P zs zs.length).testBit q = pw P zs q := by unfold tkn; rw [arK_bit]; simp [hq]
theorem free_bit {zs : List Int} (h : allW zs = true) {q : Nat} (hq : q < zs.length) : (!(tkn 0 zs zs.length ||| tkn 1 zs zs.length).testBit q) = frB zs q := by
  rw [Nat.testBit_or, tkn_bit hq, tkn_bit hq]
  have hz := allW_get h hq
  unfold pw frB
  rcases (show zs.getD q 0 = -1 ∨ zs.getD q 0 = 0 ∨ zs.getD q 0 = 1 by omega) with e | e | e <;> rw [e] <;> rfl
/-- A list with one number changed. -/
theorem getD_set {zs : List Int} {e : Nat} (he : e < zs.length) (x : Int) (j : Nat) : (zs.set e x).getD j 0 = if j = e then x else zs.getD j 0 := by
  simp only [List.getD_eq_getElem?_getD, List.getElem?_set]
  by_cases hj : e = j
  · subst hj; rw [if_pos rfl, if_pos he, if_pos rfl]; rfl
  · rw [if_neg hj, if_neg (Ne.symm hj)]
theorem tkn_set_own {P : Int} {zs : List Int} {e : Nat} (he : e < zs.length) : tkn P (zs.set e P) (zs.set e P).length = tkn P zs zs.length ||| 2 ^ e := by
  apply Nat.eq_of_testBit_eq
  intro j
  unfold tkn
  rw [Nat.testBit_or, arK_bit, arK_bit, Nat.testBit_two_pow, List.length_set]
  unfold pw
  rw [getD_set he]
  by_cases hj : j = e
  · subst hj; simp [he]
  · rw [if_neg hj, decide_eq_false (Ne.symm hj), Bool.or_false]
theorem tkn_set_other {P Q : Int} {zs : List Int} {e : Nat} (he : e < zs.length) (h1 : zs.getD e 0 ≠ P) (h2 : Q ≠ P) : tkn P (zs.set e Q) (zs.set e Q).length = tkn P zs zs.length := by
  apply Nat.eq_of_testBit_eq
  intro j
  unfold tkn
  rw [arK_bit, arK_bit, List.length_set]
  unfold pw
  rw [getD_set he]
  by_cases hj : j = e
  · subst hj
    rw [if_pos rfl, beq_eq_false_iff_ne.2 h2, beq_eq_false_iff_ne.2 h1]
  · rw [if_neg hj]
/-- The list behind a move. -/
def aft (zs : List Int) (e : Nat) : List Int := zs.set e (mvr zs)
theorem aft_len (zs : List Int) (e : Nat) : (aft zs e).length = zs.length := by simp [aft]
end Go.Proofs.Ytidengcihakijaa
