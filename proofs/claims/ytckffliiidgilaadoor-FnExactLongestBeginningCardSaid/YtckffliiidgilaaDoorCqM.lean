/- Cliques as the model keeps them: points with their bits, free bits, lists. Nothing of the program. -/
import Derived.Test.YtckffliiidgilaaDoorCount
import Derived.Test.YtckffliiidgilaaDoorCliques
namespace Go.Proofs.YtckffliiidgilaaDoor
set_option linter.unusedVariables false
set_option linter.unusedSimpArgs false
/-- Is p a neighbour of all points of s? -/
def fitR (R : Nat → Nat) (s : List Nat) (p : Nat) : Bool := s.all fun q => (R q).testBit p
theorem fitR_cons (R : Nat → Nat) (q : Nat) (s : List Nat) (p : Nat) : fitR R (q :: s) p = ((R q).testBit p && fitR R s p) := rfl
theorem fitR_mono (R : Nat → Nat) (s : List Nat) (p q : Nat) (h : fitR R (q :: s) p = true) : fitR R s p = true := by
  rw [fitR_cons, Bool.and_eq_true] at h; exact h.2
/-- The free points, as digits: the last d ones that are neighbours of all of s. -/
def frB (R : Nat → Nat) (N : Nat) (s : List Nat) (d : Nat) : Nat := arK (fun p => decide (N - d ≤ p) && fitR R s p) N
theorem frB_bit {R : Nat → Nat} {N : Nat} {s : List Nat} {d j : Nat} (h : j < N) : (frB R N s d).testBit j = (decide (N - d ≤ j) && fitR R s j) := by
  unfold frB; rw [arK_bit, decide_eq_true h, Bool.true_and]
theorem frB_lt (R : Nat → Nat) {N : Nat} (hN : N ≤ 17) (s : List Nat) (d : Nat) : frB R N s d < 2 ^ 17 :=
  Nat.lt_of_lt_of_le (arK_lt _ _) (Nat.pow_le_pow_right (by omega) hN)
theorem cnt_from (f : Nat → Bool) {i : Nat} : ∀ N, i < N → cnt (fun p => decide (i ≤ p) && f p) N = cnt (fun p => decide (i + 1 ≤ p) && f p) N + (if f i = true then 1 else 0)
  | 0, h => by omega
  | N + 1, h => by
    unfold cnt
    by_cases e : i = N
    · subst e
      have h1 : cnt (fun p => decide (i ≤ p) && f p) i = cnt (fun p => decide (i + 1 ≤ p) && f p) i := cnt_congr i fun j hj => by
        rw [decide_eq_false (show ¬ i ≤ j by omega), decide_eq_false (show ¬ i + 1 ≤ j by omega)]
      rw [h1, decide_eq_true (Nat.le_refl i), decide_eq_false (show ¬ (i + 1 ≤ i) by omega), Bool.true_and, Bool.false_and]
      simp
    · have := cnt_from f (i := i) N (by omega)
      rw [this, decide_eq_true (show i ≤ N by omega), decide_eq_true (show i + 1 ≤ N by omega)]
      omega
theorem cnt_none' {f : Nat → Bool} : ∀ N, (∀ j, j < N → f j = false) → cnt f N = 0
  | 0, _ => rfl
  | N + 1, h => by unfold cnt; rw [cnt_none' N (fun j hj => h j (by omega)), h N (by omega)]; rfl
theorem cqN_cnt (R : Nat → Nat) (N : Nat) (s : List Nat) : ∀ d, d ≤ N → cqN (fitR R) N d s = cnt (fun p => decide (N - d ≤ p) && fitR R s p) N
  | 0, _ => by
    rw [cqN, cnt_none' N]
    intro j hj
    rw [decide_eq_false (by omega)]; rfl
  | d + 1, h => by
    rw [cqN, cqN_cnt R N s d (by omega), cnt_from (fun p => fitR R s p) (i := N - (d + 1)) N (by omega), show N - (d + 1) + 1 = N - d by omega]
theorem frB_ones {R : Nat → Nat} {N : Nat} {s : List Nat} {d : Nat} (h : d ≤ N) : ones (frB R N s d) = cqN (fitR R) N d s := by
  unfold frB
  rw [ones_arK, cqN_cnt R N s d h]
theorem arK_high {f : Nat → Bool} {k j : Nat} (h : k ≤ j) : (arK f k).testBit j = false := by rw [arK_bit, decide_eq_false (by omega)]; rfl
/-- What is free behind a point that is taken. -/
theorem frB_next {R : Nat → Nat} (h0 : ∀ q, (R q).testBit q = false) {N d j : Nat} {s : List Nat} (hj : j < N) (hd : N - d ≤ j) :
    hiB (frB R N s d &&& R j) j = frB R N (j :: s) (N - (j + 1)) := by
  apply Nat.eq_of_testBit_eq
  intro q
  rw [hiB_bit, Nat.testBit_and]
  by_cases hq : q < N
  · rw [frB_bit hq, frB_bit hq, fitR_cons, show N - (N - (j + 1)) = j + 1 by omega]
    by_cases e : j = q
    · subst e
      rw [h0 j]; simp
    · by_cases h1 : j ≤ q
      · rw [decide_eq_true h1, decide_eq_true (show N - d ≤ q by omega), decide_eq_true (show j + 1 ≤ q by omega)]
        cases (R j).testBit q <;> cases fitR R s q <;> rfl
      · rw [decide_eq_false h1, decide_eq_false (show ¬ j + 1 ≤ q by omega)]; rfl
  · unfold frB
    rw [arK_high (by omega), arK_high (by omega)]; simp
/-- A clique as the list that stands for it. -/
def rv (s : List Nat) : List Int := s.reverse.map fun (x : Nat) => (x : Int)
theorem rv_len (s : List Nat) : (rv s).length = s.length := by simp [rv]
theorem rv_cons (q : Nat) (s : List Nat) : rv (q :: s) = rv s ++ [(q : Int)] := by simp [rv]
/-- The cliques of m points that go on from s with the last d points, as lists. -/
def cqL (R : Nat → Nat) (N m d : Nat) (s : List Nat) : List (List Int) := ((cqE (fitR R) N d s).filter fun c => decide (c.length = m)).map rv
/-- The same, and s itself. -/
def cqH (R : Nat → Nat) (N m d : Nat) (s : List Nat) : List (List Int) := (cqF (fitR R) N m d s).map rv
theorem cqH_here {R : Nat → Nat} {N m d : Nat} {s : List Nat} (h : s.length = m) : cqH R N m d s = [rv s] := by unfold cqH; rw [cqF_here h]; rfl
theorem cqH_less {R : Nat → Nat} {N m d : Nat} {s : List Nat} (h : s.length ≠ m) : cqH R N m d s = cqL R N m d s := by unfold cqH cqL; rw [cqF_less h]
theorem cqH_none {R : Nat → Nat} {N m d : Nat} {s : List Nat} (hd : d ≤ N) (h0 : s.length ≠ m) (h : s.length + ones (frB R N s d) < m) : cqH R N m d s = [] := by
  rw [cqH_less h0]
  unfold cqL
  rw [frB_ones hd] at h
  rw [cqG_none (fitR_mono R) h]; rfl
theorem cqL_fit {R : Nat → Nat} {N m d : Nat} {s : List Nat} (h : fitR R s (N - (d + 1)) = true) : cqL R N m (d + 1) s = cqH R N m d ((N - (d + 1)) :: s) ++ cqL R N m d s := by
  unfold cqL cqH
  rw [cqG_fit h, List.map_append]
theorem cqL_skip {R : Nat → Nat} {N m d : Nat} {s : List Nat} (h : fitR R s (N - (d + 1)) = false) : cqL R N m (d + 1) s = cqL R N m d s := by
  unfold cqL
  rw [cqG_skip h]
theorem cqL_zero {R : Nat → Nat} {N m : Nat} {s : List Nat} : cqL R N m 0 s = [] := rfl
/-- The list on its way: dn has come, of the last e points the rest is to come. -/
def Way (R : Nat → Nat) (N m d : Nat) (s : List Nat) (L : List (List Int)) (most e : Nat) (cur : List (List Int)) : Prop :=
  ∃ dn, dn ++ cqL R N m (min d e) s = cqL R N m d s ∧ cur = (L ++ dn).take most
theorem way_start {R : Nat → Nat} {N m d : Nat} {s : List Nat} {L : List (List Int)} {most : Nat} (hd : d ≤ N) (hL : L.length < most) : Way R N m d s L most N L :=
  ⟨[], by rw [Nat.min_eq_left hd]; rfl, by rw [List.append_nil, List.take_of_length_le (by omega)]⟩
theorem way_end {R : Nat → Nat} {N m d : Nat} {s : List Nat} {L cur : List (List Int)} {most e : Nat} (h : Way R N m d s L most e cur) (he : e = 0 ∨ most ≤ cur.length) : cur = (L ++ cqL R N m d s).take most := by
  obtain ⟨dn, h1, h2⟩ := h
  rcases he with rfl | he
  · rw [Nat.min_eq_right (Nat.zero_le _), cqL_zero, List.append_nil] at h1
    rw [← h1]; exact h2
  · have hl : most ≤ (L ++ dn).length := by rw [h2, List.length_take] at he; omega
    rw [← h1, ← List.append_assoc, List.take_append_of_le_length hl]; exact h2
theorem way_skip {R : Nat → Nat} {N m d : Nat} {s : List Nat} {L cur : List (List Int)} {most j : Nat} (h : Way R N m d s L most (N - j) cur) (hj : j < N) (hb : (frB R N s d).testBit j = false) : Way R N m d s L most (N - (j + 1)) cur := by
  obtain ⟨dn, h1, h2⟩ := h
  refine ⟨dn, ?_, h2⟩
  rw [frB_bit hj] at hb
  by_cases hd : N - d ≤ j
  · rw [decide_eq_true hd, Bool.true_and] at hb
    rw [Nat.min_eq_right (show N - j ≤ d by omega)] at h1
    rw [Nat.min_eq_right (show N - (j + 1) ≤ d by omega), ← h1]
    have e : N - j = (N - (j + 1)) + 1 := by omega
    have e2 : N - (N - (j + 1) + 1) = j := by omega
    rw [e, cqL_skip (by rw [e2]; exact hb)]
  · rw [Nat.min_eq_left (show d ≤ N - j by omega)] at h1
    rw [Nat.min_eq_left (show d ≤ N - (j + 1) by omega)]; exact h1
theorem way_take {R : Nat → Nat} {N m d : Nat} {s : List Nat} {L cur : List (List Int)} {most j : Nat} (h : Way R N m d s L most (N - j) cur) (hj : j < N) (hb : (frB R N s d).testBit j = true) (hl : cur.length < most) : Way R N m d s L most (N - (j + 1)) ((cur ++ cqH R N m (N - (j + 1)) (j :: s)).take most) := by
  obtain ⟨dn, h1, h2⟩ := h
  rw [frB_bit hj, Bool.and_eq_true] at hb
  have hd := of_decide_eq_true hb.1
  have hw : cur = L ++ dn := by rw [h2] at hl ⊢; rw [List.length_take] at hl; exact List.take_of_length_le (by omega)
  rw [Nat.min_eq_right (show N - j ≤ d by omega)] at h1
  refine ⟨dn ++ cqH R N m (N - (j + 1)) (j :: s), ?_, by rw [hw, List.append_assoc]⟩
  rw [Nat.min_eq_right (show N - (j + 1) ≤ d by omega), ← h1]
  have e : N - j = (N - (j + 1)) + 1 := by omega
  have e2 : N - (N - (j + 1) + 1) = j := by omega
  rw [e, cqL_fit (by rw [e2]; exact hb.2), e2, List.append_assoc]
theorem way_len {R : Nat → Nat} {N m d : Nat} {s : List Nat} {L cur : List (List Int)} {most e : Nat} (h : Way R N m d s L most e cur) : cur.length ≤ most := by
  obtain ⟨dn, h1, h2⟩ := h
  rw [h2, List.length_take]; omega
end Go.Proofs.YtckffliiidgilaaDoor
