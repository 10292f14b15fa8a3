/- The sets of neighbours of the points in one colour, edge by edge. Nothing of the program. -/
import Derived.Test.YtckffliiidgilaaDoorBits
import Derived.Test.YtckffliiidgilaaDoorCtIm
namespace Go.Proofs.YtckffliiidgilaaDoor
set_option linter.unusedVariables false
set_option linter.unusedSimpArgs false
open Go Go.RowKit Go.Shelf
/-- Does an edge of the colour join p and j? -/
def adjT (bs : List Nat) (c : Int) (p j : Nat) (t : Nat × Nat × Nat) : Bool :=
  decide (((bs.getD t.1 0 : Nat) : Int) = c) && ((decide (t.2.1 = p) && decide (t.2.2 = j)) || (decide (t.2.2 = p) && decide (t.2.1 = j)))
def nsF (bs : List Nat) (c : Int) (l : List (Nat × Nat × Nat)) (p : Nat) : Nat := arK (fun j => l.any (adjT bs c p j)) 17
theorem nsF_bit {bs : List Nat} {c : Int} {l : List (Nat × Nat × Nat)} {p j : Nat} : (nsF bs c l p).testBit j = (decide (j < 17) && l.any (adjT bs c p j)) := arK_bit _ _ _
theorem nsF_lt (bs : List Nat) (c : Int) (l : List (Nat × Nat × Nat)) (p : Nat) : nsF bs c l p < 2 ^ 17 := arK_lt _ _
theorem nsF_nil (bs : List Nat) (c : Int) : nsF bs c [] = fun _ => 0 := by
  funext p
  apply Nat.eq_of_testBit_eq
  intro j
  rw [nsF_bit]; simp
theorem nsF_miss {bs : List Nat} {c : Int} {l : List (Nat × Nat × Nat)} {t : Nat × Nat × Nat} (h : ((bs.getD t.1 0 : Nat) : Int) ≠ c) : nsF bs c (l ++ [t]) = nsF bs c l := by
  funext p
  apply Nat.eq_of_testBit_eq
  intro j
  rw [nsF_bit, nsF_bit, List.any_append]
  have : adjT bs c p j t = false := by unfold adjT; rw [decide_eq_false h]; rfl
  simp [this]
def setF (f : Nat → Nat) (i v : Nat) : Nat → Nat := fun p => if p = i then v else f p
theorem nsF_hit {bs : List Nat} {c : Int} {l : List (Nat × Nat × Nat)} {j lo hi : Nat} (hc : ((bs.getD j 0 : Nat) : Int) = c) (h : lo < hi) (h17 : hi < 17) :
    nsF bs c (l ++ [(j, lo, hi)]) = setF (setF (nsF bs c l) lo (nsF bs c l lo ||| 2 ^ hi)) hi (nsF bs c l hi ||| 2 ^ lo) := by
  funext p
  apply Nat.eq_of_testBit_eq
  intro q
  rw [nsF_bit, List.any_append]
  have ha : adjT bs c p q (j, lo, hi) = ((decide (lo = p) && decide (hi = q)) || (decide (hi = p) && decide (lo = q))) := by unfold adjT; rw [decide_eq_true hc]; rfl
  have hb : ([(j, lo, hi)] : List (Nat × Nat × Nat)).any (adjT bs c p q) = ((decide (lo = p) && decide (hi = q)) || (decide (hi = p) && decide (lo = q))) := by rw [List.any_cons, List.any_nil, Bool.or_false, ha]
  rw [hb]
  unfold setF
  by_cases e1 : p = hi
  · subst e1
    rw [if_pos rfl, Nat.testBit_or, nsF_bit, Nat.testBit_two_pow, decide_eq_false (show ¬ lo = p by omega), decide_eq_true (rfl : p = p)]
    by_cases hq : lo = q
    · subst hq; rw [decide_eq_true (show lo < 17 by omega)]; simp
    · rw [decide_eq_false hq]; simp
  · rw [if_neg e1]
    by_cases e2 : p = lo
    · subst e2
      rw [if_pos rfl, Nat.testBit_or, nsF_bit, Nat.testBit_two_pow, decide_eq_true (rfl : p = p), decide_eq_false (show ¬ hi = p by omega)]
      by_cases hq : hi = q
      · subst hq; rw [decide_eq_true h17]; simp
      · rw [decide_eq_false hq]; simp
    · rw [if_neg e2, nsF_bit, decide_eq_false (show ¬ lo = p by omega), decide_eq_false (show ¬ hi = p by omega)]; simp
theorem rowE_has (bs : List Nat) (c : Int) (p q h : Nat) : ∀ l, (rowE h l).any (adjT bs c p q) = (decide (((bs.getD (eN h + p) 0 : Nat) : Int) = c) && (decide (h = q) && decide (p < l)) || decide (((bs.getD (eN h + q) 0 : Nat) : Int) = c) && (decide (h = p) && decide (q < l)))
  | 0 => by simp [rowE]
  | l + 1 => by
    rw [rowE_succ, List.any_append, rowE_has bs c p q h l, List.any_cons, List.any_nil, Bool.or_false]
    unfold adjT
    rw [Bool.eq_iff_iff]
    simp only [Bool.or_eq_true, Bool.and_eq_true, decide_eq_true_eq]
    constructor
    · rintro ((⟨h1, h2, h3⟩ | ⟨h1, h2, h3⟩) | ⟨h1, (⟨h2, h3⟩ | ⟨h2, h3⟩)⟩)
      · exact .inl ⟨h1, h2, by omega⟩
      · exact .inr ⟨h1, h2, by omega⟩
      · subst h2; exact .inl ⟨h1, h3, by omega⟩
      · subst h3; exact .inr ⟨h1, h2, by omega⟩
    · rintro (⟨h1, h2, h3⟩ | ⟨h1, h2, h3⟩)
      · by_cases e : p = l
        · subst e; exact .inr ⟨h1, .inl ⟨rfl, h2⟩⟩
        · exact .inl (.inl ⟨h1, h2, by omega⟩)
      · by_cases e : q = l
        · subst e; exact .inr ⟨h1, .inr ⟨h2, rfl⟩⟩
        · exact .inl (.inr ⟨h1, h2, by omega⟩)
theorem eseq_has (bs : List Nat) (c : Int) (p q : Nat) : ∀ h, (eseq h).any (adjT bs c p q) = (decide (((bs.getD (eN q + p) 0 : Nat) : Int) = c) && (decide (p < q) && decide (q < h)) || decide (((bs.getD (eN p + q) 0 : Nat) : Int) = c) && (decide (q < p) && decide (p < h)))
  | 0 => by simp [eseq]
  | h + 1 => by
    rw [eseq, List.any_append, eseq_has bs c p q h, rowE_has]
    rw [Bool.eq_iff_iff]
    simp only [Bool.or_eq_true, Bool.and_eq_true, decide_eq_true_eq]
    constructor
    · rintro ((⟨h1, h2, h3⟩ | ⟨h1, h2, h3⟩) | (⟨h1, h2, h3⟩ | ⟨h1, h2, h3⟩))
      · exact .inl ⟨h1, h2, by omega⟩
      · exact .inr ⟨h1, h2, by omega⟩
      · subst h2; exact .inl ⟨h1, h3, by omega⟩
      · subst h2; exact .inr ⟨h1, h3, by omega⟩
    · rintro (⟨h1, h2, h3⟩ | ⟨h1, h2, h3⟩)
      · by_cases e : q = h
        · subst e; exact .inr (.inl ⟨h1, rfl, h2⟩)
        · exact .inl (.inl ⟨h1, h2, by omega⟩)
      · by_cases e : p = h
        · subst e; exact .inr (.inr ⟨h1, rfl, h2⟩)
        · exact .inl (.inr ⟨h1, h2, by omega⟩)
/-- The sets of the program are the rows of the model. -/
theorem nsF_rw (bs : List Nat) (c : Int) {N p : Nat} (hp : p < N) (hN : N ≤ 17) : nsF bs c (eseq N) p = rwN bs c N p := by
  apply Nat.eq_of_testBit_eq
  intro q
  rw [nsF_bit, eseq_has]
  unfold rwN
  rw [arK_bit]
  by_cases hq : q < N
  · rw [decide_eq_true hq, decide_eq_true (show q < 17 by omega), Bool.true_and, Bool.true_and]
    by_cases e : p = q
    · subst e
      unfold nbB
      rw [decide_eq_false (show ¬ p < p by omega)]; simp
    · rw [nbB_ne e]
      by_cases hlt : p < q
      · rw [colAt_eN bs hlt, decide_eq_true hlt, decide_eq_false (show ¬ q < p by omega)]; simp
      · rw [colAt_eN' bs (show q < p by omega), decide_eq_false hlt, decide_eq_true (show q < p by omega), decide_eq_true hp]; simp
  · rw [decide_eq_false hq, Bool.false_and]
    have h1 : decide (q < N) = false := decide_eq_false hq
    by_cases hlt : q < p
    · omega
    · rw [decide_eq_false hlt]; simp
theorem nsF_hi (bs : List Nat) (c : Int) {N p q : Nat} (hp : N ≤ p) (hN : N ≤ 17) : (nsF bs c (eseq N) p) = 0 := by
  apply Nat.eq_of_testBit_eq
  intro q
  rw [nsF_bit, eseq_has, decide_eq_false (show ¬ p < N by omega), Nat.zero_testBit]
  by_cases hlt : p < q
  · rw [decide_eq_false (show ¬ q < N by omega)]; simp
  · rw [decide_eq_false hlt]; simp
end Go.Proofs.YtckffliiidgilaaDoor
