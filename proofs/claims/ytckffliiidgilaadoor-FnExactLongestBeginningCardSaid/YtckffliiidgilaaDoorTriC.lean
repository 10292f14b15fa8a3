/- Triangles counted: by the model (a point, then greater ones) and by the program (an edge, then lesser points). Nothing of the program. -/
import Derived.Test.YtckffliiidgilaaDoorCount
import Derived.Test.YtckffliiidgilaaDoorTri
namespace Go.Proofs.YtckffliiidgilaaDoor
set_option linter.unusedVariables false
set_option linter.unusedSimpArgs false
/-- A triangle of the colour c. -/
def tT (bs : List Nat) (c : Int) (p q r : Nat) : Nat := if colAt bs p q = c ∧ colAt bs p r = c ∧ colAt bs q r = c then 1 else 0
def rwN (bs : List Nat) (c : Int) (N : Nat) (p : Nat) : Nat := arK (nbB bs (p : Int) c) N
theorem nbB_ne {bs : List Nat} {c : Int} {p q : Nat} (h : p ≠ q) : nbB bs (p : Int) c q = decide (colAt bs p q = c) := by
  unfold nbB
  rw [decide_eq_true (by omega), Bool.true_and]
theorem rwN_bit {bs : List Nat} {c : Int} {N p q : Nat} (h : p ≠ q) (hq : q < N) : (rwN bs c N p).testBit q = decide (colAt bs p q = c) := by
  unfold rwN
  rw [arK_bit, decide_eq_true hq, Bool.true_and, nbB_ne h]
theorem full_bit {N p : Nat} (h : p < N) : (2 ^ N - 1).testBit p = true := by
  rw [Nat.testBit_two_pow_sub_one]; simp [h]
theorem cC_three (bs : List Nat) (c : Int) (N : Nat) : cC (rwN bs c N) N 3 (2 ^ N - 1) = triLo (tT bs c) N := by
  rw [cC_succ]
  unfold triLo
  refine sm_congr N fun p hp => ?_
  rw [cT, if_pos (full_bit hp), cC_succ]
  refine sm_congr N fun q hq => ?_
  have h1 : (hiB (2 ^ N - 1) (p + 1) &&& rwN bs c N p).testBit q = (decide (p < q) && decide (colAt bs p q = c)) := by
    rw [Nat.testBit_and, hiB_bit, full_bit hq, Bool.and_true]
    by_cases h : p < q
    · rw [rwN_bit (by omega) hq, decide_eq_true (show p + 1 ≤ q by omega), decide_eq_true h]
    · rw [decide_eq_false (show ¬ p + 1 ≤ q by omega), decide_eq_false h]; simp
  rw [cT, h1]
  by_cases h : p < q
  · rw [decide_eq_true h, Bool.true_and, if_pos h]
    by_cases hc : colAt bs p q = c
    · rw [if_pos (by simpa using hc), cC_succ]
      refine sm_congr N fun r hr => ?_
      have h2 : (hiB (hiB (2 ^ N - 1) (p + 1) &&& rwN bs c N p) (q + 1) &&& rwN bs c N q).testBit r = (decide (q < r) && (decide (colAt bs p r = c) && decide (colAt bs q r = c))) := by
        rw [Nat.testBit_and, hiB_bit, Nat.testBit_and, hiB_bit, full_bit hr, Bool.and_true]
        by_cases h' : q < r
        · rw [rwN_bit (by omega) hr, rwN_bit (by omega) hr, decide_eq_true (show q + 1 ≤ r by omega), decide_eq_true (show p + 1 ≤ r by omega), decide_eq_true h']; simp
        · rw [decide_eq_false (show ¬ q + 1 ≤ r by omega), decide_eq_false h']; simp
      rw [cT]
      have h3 : (hiB (2 ^ N - 1) (p + 1) &&& rwN bs c N p).testBit r = (decide (p < r) && decide (colAt bs p r = c)) := by
        rw [Nat.testBit_and, hiB_bit, full_bit hr, Bool.and_true]
        by_cases h' : p < r
        · rw [rwN_bit (by omega) hr, decide_eq_true (show p + 1 ≤ r by omega), decide_eq_true h']
        · rw [decide_eq_false (show ¬ p + 1 ≤ r by omega), decide_eq_false h']; simp
      show (if (hiB (hiB (2 ^ N - 1) (p + 1) &&& rwN bs c N p) (q + 1) &&& rwN bs c N q).testBit r = true then cC (rwN bs c N) N 0 _ else 0) = _
      rw [h2]
      unfold tT
      rw [show cC (rwN bs c N) N 0 (hiB (hiB (hiB (2 ^ N - 1) (p + 1) &&& rwN bs c N p) (q + 1) &&& rwN bs c N q) (r + 1) &&& rwN bs c N r) = 1 from rfl]
      by_cases h' : q < r
      · rw [if_pos h', decide_eq_true h', Bool.true_and]
        by_cases c1 : colAt bs p r = c <;> by_cases c2 : colAt bs q r = c <;> simp [hc, c1, c2]
      · rw [if_neg h', decide_eq_false h', Bool.false_and]; rfl
    · rw [if_neg (by simpa using hc)]
      refine (sm_zero' N fun r hr => ?_).symm
      unfold tT
      split
      · rw [if_neg (fun e => hc e.1)]
      · rfl
  · rw [decide_eq_false h, Bool.false_and, if_neg h]; rfl
/-- What an edge adds, with the lesser points below m. -/
def teF (bs : List Nat) (c : Int) (lo hi : Nat) (p : Nat) : Nat := if colAt bs p lo = c ∧ colAt bs p hi = c then 1 else 0
def teS (bs : List Nat) (c : Int) (t : Nat × Nat × Nat) : Nat := if ((bs.getD t.1 0 : Nat) : Int) = c then sm (teF bs c t.2.1 t.2.2) t.2.1 else 0
def teC (bs : List Nat) (l : List (Nat × Nat × Nat)) (c : Nat) : Nat := l.foldr (fun t s => teS bs (c : Int) t + s) 0
theorem teC_app (bs : List Nat) (c : Nat) : ∀ (a b : List (Nat × Nat × Nat)), teC bs (a ++ b) c = teC bs a c + teC bs b c
  | [], b => by simp [teC]
  | t :: a, b => by
    have := teC_app bs c a b
    unfold teC at *
    rw [List.cons_append, List.foldr_cons, List.foldr_cons, this]; omega
theorem teC_snoc (bs : List Nat) (l : List (Nat × Nat × Nat)) (t : Nat × Nat × Nat) (c : Nat) : teC bs (l ++ [t]) c = teC bs l c + teS bs (c : Int) t := by
  rw [teC_app]; simp [teC]
theorem teC_row (bs : List Nat) (c h : Nat) : ∀ l, teC bs (rowE h l) c = sm (fun q => teS bs (c : Int) (eN h + q, q, h)) l
  | 0 => rfl
  | l + 1 => by rw [rowE_succ, teC_snoc, teC_row bs c h l]; rfl
theorem teC_seq (bs : List Nat) (c : Nat) : ∀ h, teC bs (eseq h) c = sm (fun r => sm (fun q => teS bs (c : Int) (eN r + q, q, r)) r) h
  | 0 => rfl
  | h + 1 => by rw [eseq, teC_app, teC_seq bs c h, teC_row]; rfl
theorem teS_tri (bs : List Nat) (c : Int) {q r : Nat} (h : q < r) : teS bs c (eN r + q, q, r) = sm (fun p => tT bs c p q r) q := by
  unfold teS
  show (if ((bs.getD (eN r + q) 0 : Nat) : Int) = c then sm (teF bs c q r) q else 0) = _
  rw [← colAt_eN bs h, sm_if]
  refine sm_congr q fun p hp => ?_
  unfold tT teF
  by_cases c1 : colAt bs (q : Int) (r : Int) = c <;> by_cases c2 : colAt bs (p : Int) (q : Int) = c <;> by_cases c3 : colAt bs (p : Int) (r : Int) = c <;> simp [c1, c2, c3]
theorem teC_hi (bs : List Nat) (c N : Nat) : teC bs (eseq N) c = triHi (tT bs (c : Int)) N := by
  rw [teC_seq]
  unfold triHi
  exact sm_congr N fun r hr => sm_congr r fun q hq => teS_tri bs (c : Int) hq
theorem teC_cC (bs : List Nat) (c N : Nat) : teC bs (eseq N) c = cC (rwN bs (c : Int) N) N 3 (2 ^ N - 1) := by rw [teC_hi, tri_eq, cC_three]
theorem teS_le (bs : List Nat) (c : Int) (t : Nat × Nat × Nat) : teS bs c t ≤ t.2.1 := by
  unfold teS
  split
  · have := sm_le (f := teF bs c t.2.1 t.2.2) (B := 1) t.2.1 (fun j _ => by unfold teF; split <;> omega)
    omega
  · omega
/-- The counts on their way: the edges that have come, and of the next one the lesser points below m. -/
def teP (bs : List Nat) (l : List (Nat × Nat × Nat)) (t : Nat × Nat × Nat) (m : Nat) (c : Nat) : Nat := teC bs l c + (if ((bs.getD t.1 0 : Nat) : Int) = c then sm (teF bs c t.2.1 t.2.2) m else 0)
theorem teP_zero (bs : List Nat) (l : List (Nat × Nat × Nat)) (t : Nat × Nat × Nat) (c : Nat) : teP bs l t 0 c = teC bs l c := by
  unfold teP; split <;> simp [sm]
theorem teP_done (bs : List Nat) (l : List (Nat × Nat × Nat)) (t : Nat × Nat × Nat) (c : Nat) : teP bs l t t.2.1 c = teC bs (l ++ [t]) c := by
  rw [teC_snoc]; rfl
theorem teP_step (bs : List Nat) (l : List (Nat × Nat × Nat)) (t : Nat × Nat × Nat) (m c : Nat) : teP bs l t (m + 1) c = teP bs l t m c + (if ((bs.getD t.1 0 : Nat) : Int) = c ∧ colAt bs m t.2.1 = c ∧ colAt bs m t.2.2 = c then 1 else 0) := by
  unfold teP
  by_cases h : ((bs.getD t.1 0 : Nat) : Int) = c
  · rw [if_pos h, if_pos h, sm]
    unfold teF
    by_cases hh : colAt bs (m : Int) (t.2.1 : Int) = c ∧ colAt bs (m : Int) (t.2.2 : Int) = c
    · rw [if_pos hh, if_pos ⟨h, hh⟩]; omega
    · rw [if_neg hh, if_neg (fun e => hh e.2)]; omega
  · rw [if_neg h, if_neg h, if_neg (fun e => h e.1)]
end Go.Proofs.YtckffliiidgilaaDoor
