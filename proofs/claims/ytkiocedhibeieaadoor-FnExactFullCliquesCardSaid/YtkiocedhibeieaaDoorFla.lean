/- FullCliques: the numbers of the model's search. -/
import Derived.Test.YtkiocedhibeieaaDoorSdq
import Derived.Test.YtkiocedhibeieaaDoorHi
namespace Go.Proofs.YtkiocedhibeieaaDoor
set_option linter.unusedVariables false
set_option linter.unusedSimpArgs false
open Go Go.RowKit Go.Shelf
/-- No point is a neighbour of all of s. -/
def fulB (R : Nat → Nat) (N : Nat) (s : List Nat) : Bool := (List.range N).all fun p => !fitR R s p
def fqE (R : Nat → Nat) (N d : Nat) (s : List Nat) : List (List Nat) := (cqE (fitR R) N d s).filter (fulB R N)
def fqH (R : Nat → Nat) (N d : Nat) (s : List Nat) : List (List Nat) := (if fulB R N s = true then [s] else []) ++ fqE R N d s
theorem fqE_fit {R : Nat → Nat} {N d : Nat} {s : List Nat} (h : fitR R s (N - (d + 1)) = true) : fqE R N (d + 1) s = fqH R N d ((N - (d + 1)) :: s) ++ fqE R N d s := by
  unfold fqH fqE
  rw [cqE, if_pos h, List.filter_cons, List.filter_append]
  split
  · rfl
  · rfl
theorem fqE_skip {R : Nat → Nat} {N d : Nat} {s : List Nat} (h : fitR R s (N - (d + 1)) = false) : fqE R N (d + 1) s = fqE R N d s := by
  unfold fqE
  rw [cqE, if_neg (by rw [h]; simp)]
/-- The points before the last d ones that are neighbours of all of s. -/
def xB (R : Nat → Nat) (N : Nat) (s : List Nat) (d : Nat) : Nat := arK (fun p => decide (p < N - d) && fitR R s p) N
theorem xB_bit {R : Nat → Nat} {N : Nat} {s : List Nat} {d j : Nat} (h : j < N) : (xB R N s d).testBit j = (decide (j < N - d) && fitR R s j) := by
  unfold xB; rw [arK_bit, decide_eq_true h, Bool.true_and]
theorem xB_lt (R : Nat → Nat) {N : Nat} (hN : N ≤ 17) (s : List Nat) (d : Nat) : xB R N s d < 2 ^ 17 :=
  Nat.lt_of_lt_of_le (arK_lt _ _) (Nat.pow_le_pow_right (by omega) hN)
theorem frB_high {R : Nat → Nat} {N : Nat} {s : List Nat} {d j : Nat} (h : N ≤ j) : (frB R N s d).testBit j = false := arK_high h
theorem xB_high {R : Nat → Nat} {N : Nat} {s : List Nat} {d j : Nat} (h : N ≤ j) : (xB R N s d).testBit j = false := arK_high h
theorem fqE_none {R : Nat → Nat} {N : Nat} {s : List Nat} : ∀ {d : Nat}, d ≤ N → frB R N s d = 0 → fqE R N d s = []
  | 0, _, _ => rfl
  | d + 1, hd, h => by
    have hb : (frB R N s (d + 1)).testBit (N - (d + 1)) = false := by rw [h, Nat.zero_testBit]
    rw [frB_bit (by omega)] at hb
    have hf : fitR R s (N - (d + 1)) = false := by simpa using hb
    rw [fqE_skip hf]
    refine fqE_none (by omega) ?_
    apply Nat.eq_of_testBit_eq
    intro q
    rw [Nat.zero_testBit]
    by_cases hq : q < N
    · have h2 : (frB R N s (d + 1)).testBit q = false := by rw [h, Nat.zero_testBit]
      rw [frB_bit hq] at h2 ⊢
      by_cases e : N - d ≤ q
      · rw [decide_eq_true (show N - (d + 1) ≤ q by omega)] at h2
        rw [decide_eq_true e]; exact h2
      · rw [decide_eq_false e]; rfl
    · exact frB_high (by omega)
theorem fulB_iff {R : Nat → Nat} {N : Nat} {s : List Nat} {d : Nat} : fulB R N s = true ↔ frB R N s d = 0 ∧ xB R N s d = 0 := by
  unfold fulB
  rw [List.all_eq_true]
  constructor
  · intro h
    have h1 : ∀ q, q < N → fitR R s q = false := fun q hq => by have := h q (List.mem_range.2 hq); simpa using this
    constructor
    · apply Nat.eq_of_testBit_eq
      intro q
      rw [Nat.zero_testBit]
      by_cases hq : q < N
      · rw [frB_bit hq, h1 q hq, Bool.and_false]
      · exact frB_high (by omega)
    · apply Nat.eq_of_testBit_eq
      intro q
      rw [Nat.zero_testBit]
      by_cases hq : q < N
      · rw [xB_bit hq, h1 q hq, Bool.and_false]
      · exact xB_high (by omega)
  · rintro ⟨h1, h2⟩ q hq
    have hq := List.mem_range.1 hq
    have e1 : (frB R N s d).testBit q = false := by rw [h1, Nat.zero_testBit]
    have e2 : (xB R N s d).testBit q = false := by rw [h2, Nat.zero_testBit]
    rw [frB_bit hq] at e1
    rw [xB_bit hq] at e2
    by_cases e : N - d ≤ q
    · rw [decide_eq_true e, Bool.true_and] at e1; rw [e1]; rfl
    · rw [decide_eq_true (show q < N - d by omega), Bool.true_and] at e2; rw [e2]; rfl
/-- What is free and what is done in the round of point j. -/
theorem fx_skip {R : Nat → Nat} {N d j : Nat} {s : List Nat} (hj : j < N) (h : (frB R N s (min d (N - j))).testBit j = false) : frB R N s (min d (N - (j + 1))) = frB R N s (min d (N - j)) ∧ xB R N s (min d (N - (j + 1))) = xB R N s (min d (N - j)) := by
  rw [frB_bit hj] at h
  by_cases hd : d < N - j
  · rw [show min d (N - (j + 1)) = min d (N - j) by omega]; exact ⟨rfl, rfl⟩
  · have hm : min d (N - j) = N - j := by omega
    have hm2 : min d (N - (j + 1)) = N - (j + 1) := by omega
    rw [hm] at h ⊢
    rw [hm2]
    rw [decide_eq_true (show N - (N - j) ≤ j by omega), Bool.true_and] at h
    constructor
    · apply Nat.eq_of_testBit_eq
      intro q
      by_cases hq : q < N
      · rw [frB_bit hq, frB_bit hq]
        by_cases e : q = j
        · subst e; rw [h]; simp
        · have : (N - (N - (j + 1)) ≤ q) ↔ (N - (N - j) ≤ q) := by omega
          simp only [this]
      · rw [frB_high (by omega), frB_high (by omega)]
    · apply Nat.eq_of_testBit_eq
      intro q
      by_cases hq : q < N
      · rw [xB_bit hq, xB_bit hq]
        by_cases e : q = j
        · subst e; rw [h]; simp
        · have : (q < N - (N - (j + 1))) ↔ (q < N - (N - j)) := by omega
          simp only [this]
      · rw [xB_high (by omega), xB_high (by omega)]
theorem fx_hit {R : Nat → Nat} {N d j : Nat} {s : List Nat} (hj : j < N) (h : (frB R N s (min d (N - j))).testBit j = true) : min d (N - j) = N - j ∧ fitR R s j = true := by
  rw [frB_bit hj, Bool.and_eq_true] at h
  have := of_decide_eq_true h.1
  exact ⟨by omega, h.2⟩
theorem fx_take {R : Nat → Nat} {N d j : Nat} {s : List Nat} (hj : j < N) (h : (frB R N s (min d (N - j))).testBit j = true) : frB R N s (min d (N - (j + 1))) = frB R N s (min d (N - j)) ^^^ 2 ^ j ∧ xB R N s (min d (N - (j + 1))) = xB R N s (min d (N - j)) ||| 2 ^ j := by
  obtain ⟨hm, hf⟩ := fx_hit hj h
  have hm2 : min d (N - (j + 1)) = N - (j + 1) := by omega
  rw [hm, hm2]
  constructor
  · apply Nat.eq_of_testBit_eq
    intro q
    rw [Nat.testBit_xor, Nat.testBit_two_pow]
    by_cases hq : q < N
    · rw [frB_bit hq, frB_bit hq]
      by_cases e : q = j
      · subst e; rw [hf, decide_eq_false (show ¬ N - (N - (q + 1)) ≤ q by omega), decide_eq_true (show N - (N - q) ≤ q by omega), decide_eq_true (rfl : q = q)]; rfl
      · have : (N - (N - (j + 1)) ≤ q) ↔ (N - (N - j) ≤ q) := by omega
        simp only [this, decide_eq_false (show ¬ j = q from fun e' => e e'.symm), Bool.xor_false]
    · rw [frB_high (by omega), frB_high (by omega), decide_eq_false (show ¬ j = q by omega)]; rfl
  · apply Nat.eq_of_testBit_eq
    intro q
    rw [Nat.testBit_or, Nat.testBit_two_pow]
    by_cases hq : q < N
    · rw [xB_bit hq, xB_bit hq]
      by_cases e : q = j
      · subst e; rw [hf]; simp; omega
      · have : (q < N - (N - (j + 1))) ↔ (q < N - (N - j)) := by omega
        simp only [this, decide_eq_false (show ¬ j = q from fun e' => e e'.symm), Bool.or_false]
    · rw [xB_high (by omega), xB_high (by omega), decide_eq_false (show ¬ j = q by omega)]; rfl
theorem fx_down {R : Nat → Nat} (h0 : ∀ q, (R q).testBit q = false) {N d j : Nat} {s : List Nat} (hj : j < N) (h : (frB R N s (min d (N - j))).testBit j = true) : frB R N s (min d (N - j)) &&& R j = frB R N (j :: s) (N - (j + 1)) ∧ xB R N s (min d (N - j)) &&& R j = xB R N (j :: s) (N - (j + 1)) := by
  obtain ⟨hm, hf⟩ := fx_hit hj h
  rw [hm]
  constructor
  · apply Nat.eq_of_testBit_eq
    intro q
    rw [Nat.testBit_and]
    by_cases hq : q < N
    · rw [frB_bit hq, frB_bit hq, fitR_cons]
      by_cases e : q = j
      · subst e; rw [h0]; simp
      · have : (N - (N - (j + 1)) ≤ q) ↔ (N - (N - j) ≤ q) := by omega
        simp only [this]
        cases (R j).testBit q <;> cases fitR R s q <;> simp
    · rw [frB_high (by omega), frB_high (by omega)]; rfl
  · apply Nat.eq_of_testBit_eq
    intro q
    rw [Nat.testBit_and]
    by_cases hq : q < N
    · rw [xB_bit hq, xB_bit hq, fitR_cons]
      by_cases e : q = j
      · subst e; rw [h0]; simp
      · have : (q < N - (N - (j + 1))) ↔ (q < N - (N - j)) := by omega
        simp only [this]
        cases (R j).testBit q <;> cases fitR R s q <;> simp
    · rw [xB_high (by omega), xB_high (by omega)]; rfl
/-- The list on its way: dn has come, of the last e points the rest is to come. -/
def Fway (R : Nat → Nat) (N d : Nat) (s : List Nat) (L : List Int) (most e : Nat) (cur : List Int) : Prop :=
  ∃ dn : List (List Nat), dn ++ fqE R N (min d e) s = fqE R N d s ∧ cur = (L ++ dn.map fun c => ((bitS c : Nat) : Int)).take most
theorem fway_start {R : Nat → Nat} {N d : Nat} {s : List Nat} {L : List Int} {most : Nat} (hd : d ≤ N) (hL : L.length ≤ most) : Fway R N d s L most N L :=
  ⟨[], by rw [Nat.min_eq_left hd]; rfl, by rw [List.map_nil, List.append_nil, List.take_of_length_le hL]⟩
theorem fway_end {R : Nat → Nat} {N d : Nat} {s : List Nat} {L cur : List Int} {most e : Nat} (h : Fway R N d s L most e cur) (he : e = 0 ∨ most ≤ cur.length) : cur = (L ++ (fqE R N d s).map fun c => ((bitS c : Nat) : Int)).take most := by
  obtain ⟨dn, h1, h2⟩ := h
  rcases he with rfl | he
  · rw [Nat.min_eq_right (Nat.zero_le _), show fqE R N 0 s = [] from rfl, List.append_nil] at h1
    rw [← h1]; exact h2
  · have hl : most ≤ (L ++ dn.map fun c => ((bitS c : Nat) : Int)).length := by rw [h2, List.length_take] at he; omega
    rw [← h1, List.map_append, ← List.append_assoc, List.take_append_of_le_length hl]
    exact h2
theorem fway_skip {R : Nat → Nat} {N d : Nat} {s : List Nat} {L cur : List Int} {most j : Nat} (h : Fway R N d s L most (N - j) cur) (hj : j < N) (hd : d ≤ N) (hb : (frB R N s (min d (N - j))).testBit j = false) : Fway R N d s L most (N - (j + 1)) cur := by
  obtain ⟨dn, h1, h2⟩ := h
  refine ⟨dn, ?_, h2⟩
  rw [frB_bit hj] at hb
  by_cases hdj : d < N - j
  · rw [show min d (N - (j + 1)) = min d (N - j) by omega]; exact h1
  · have hm : min d (N - j) = (N - (j + 1)) + 1 := by omega
    rw [hm] at h1 hb
    rw [show N - (N - (j + 1) + 1) = j by omega] at hb
    have hf : fitR R s (N - ((N - (j + 1)) + 1)) = false := by
      rw [show N - (N - (j + 1) + 1) = j by omega]; simpa using hb
    rw [fqE_skip hf] at h1
    rw [show min d (N - (j + 1)) = N - (j + 1) by omega]; exact h1
theorem fway_take {R : Nat → Nat} {N d : Nat} {s : List Nat} {L cur : List Int} {most j : Nat} (h : Fway R N d s L most (N - j) cur) (hj : j < N) (hb : (frB R N s (min d (N - j))).testBit j = true) (hl : cur.length < most) : Fway R N d s L most (N - (j + 1)) ((cur ++ (fqH R N (N - (j + 1)) (j :: s)).map fun c => ((bitS c : Nat) : Int)).take most) := by
  obtain ⟨hm, hf⟩ := fx_hit hj hb
  obtain ⟨dn, h1, h2⟩ := h
  have hw : cur = L ++ dn.map fun c => ((bitS c : Nat) : Int) := by rw [h2] at hl ⊢; rw [List.length_take] at hl; exact List.take_of_length_le (by omega)
  refine ⟨dn ++ fqH R N (N - (j + 1)) (j :: s), ?_, by rw [hw, List.map_append, List.append_assoc]⟩
  rw [hm, show N - j = (N - (j + 1)) + 1 by omega] at h1
  have e : N - (N - (j + 1) + 1) = j := by omega
  rw [fqE_fit (by rw [e]; exact hf), e] at h1
  rw [show min d (N - (j + 1)) = N - (j + 1) by omega, List.append_assoc]
  exact h1
theorem fway_len {R : Nat → Nat} {N d : Nat} {s : List Nat} {L cur : List Int} {most e : Nat} (h : Fway R N d s L most e cur) : cur.length ≤ most := by
  obtain ⟨dn, h1, h2⟩ := h
  rw [h2, List.length_take]; omega
end Go.Proofs.YtkiocedhibeieaaDoor
