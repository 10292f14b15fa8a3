/- Doubles and books: the greatest one; nothing of the program. -/
import Derived.Test.YtkiocedhibeieaaDoorPts2
namespace Go.Proofs.YtkiocedhibeieaaDoor
set_option linter.unusedVariables false
set_option linter.unusedSimpArgs false
open Go Go.RowKit Go.Shelf
/-- One pair more: number, lesser, greater point of what is the greatest so far. -/
def dbU (R : Nat → Nat) (i : Nat) (s : Int × Nat × Nat) (j : Nat) : Int × Nat × Nat := if s.1 < (ones (R i &&& R j) : Nat) then (((ones (R i &&& R j) : Nat) : Int), i, j) else s
def dbC (R : Nat → Nat) (bk : Bool) (i j : Nat) : Bool := decide (i < j) && (!bk || (R i).testBit j)
def dbR (R : Nat → Nat) (bk : Bool) (i : Nat) (s : Int × Nat × Nat) : Nat → Int × Nat × Nat
  | 0 => s
  | J + 1 => if dbC R bk i J = true then dbU R i (dbR R bk i s J) J else dbR R bk i s J
def dbA (R : Nat → Nat) (bk : Bool) (N : Nat) : Nat → Int × Nat × Nat
  | 0 => (-1, 0, 0)
  | I + 1 => dbR R bk I (dbA R bk N I) N
theorem dbR_low {R : Nat → Nat} {bk : Bool} {i : Nat} {s : Int × Nat × Nat} : ∀ {J}, J ≤ i + 1 → dbR R bk i s J = s
  | 0, _ => rfl
  | J + 1, h => by
    rw [dbR, if_neg (by unfold dbC; rw [decide_eq_false (by omega)]; simp)]
    exact dbR_low (by omega)
theorem dbR_yes {R : Nat → Nat} {bk : Bool} {i J : Nat} {s : Int × Nat × Nat} (h : dbC R bk i J = true) (h2 : (dbR R bk i s J).1 < (ones (R i &&& R J) : Nat)) : dbR R bk i s (J + 1) = (((ones (R i &&& R J) : Nat) : Int), i, J) := by
  rw [dbR, if_pos h]; unfold dbU; rw [if_pos h2]
theorem dbR_less {R : Nat → Nat} {bk : Bool} {i J : Nat} {s : Int × Nat × Nat} (h2 : ¬ (dbR R bk i s J).1 < (ones (R i &&& R J) : Nat)) : dbR R bk i s (J + 1) = dbR R bk i s J := by
  rw [dbR]; split
  · unfold dbU; rw [if_neg h2]
  · rfl
theorem dbR_out {R : Nat → Nat} {bk : Bool} {i J : Nat} {s : Int × Nat × Nat} (h : dbC R bk i J = false) : dbR R bk i s (J + 1) = dbR R bk i s J := by
  rw [dbR, if_neg (by rw [h]; simp)]
/-- The others of a point, as digits. -/
def othX (R : Nat → Nat) (bk : Bool) (N i : Nat) : Nat := arK (dbC R bk i) N
theorem othX_lt (R : Nat → Nat) (bk : Bool) {N : Nat} (hN : N ≤ 17) (i : Nat) : othX R bk N i < 2 ^ 17 := Nat.lt_of_lt_of_le (arK_lt _ _) (Nat.pow_le_pow_right (by omega) hN)
theorem setD_fold {R : Nat → Nat} {bk : Bool} {N i : Nat} (s : Int × Nat × Nat) : ∀ d, (setD (othX R bk N i) d).reverse.foldl (dbU R i) s = dbR R bk i s (min d N)
  | 0 => by rw [Nat.zero_min]; rfl
  | d + 1 => by
    have ih := setD_fold (R := R) (bk := bk) (N := N) (i := i) s d
    rw [setD]
    by_cases hd : d < N
    · rw [Nat.min_eq_left (by omega)] at ih
      rw [Nat.min_eq_left (by omega)]
      cases hc : dbC R bk i d with
      | true =>
        rw [if_pos (by unfold othX; rw [arK_bit, decide_eq_true hd, hc]; rfl), List.reverse_cons, List.foldl_append, ih, List.foldl_cons, List.foldl_nil, dbR, if_pos hc]
      | false =>
        rw [if_neg (by unfold othX; rw [arK_bit, hc]; simp), ih, dbR_out hc]
    · rw [if_neg (by unfold othX; rw [arK_bit, decide_eq_false hd]; simp), ih, Nat.min_eq_right (by omega), Nat.min_eq_right (by omega)]
def dbL (R : Nat → Nat) (bk : Bool) (N i : Nat) : List Nat := (setD (othX R bk N i) 17).reverse
theorem dbL_fold {R : Nat → Nat} {bk : Bool} {N i : Nat} (hN : N ≤ 17) (s : Int × Nat × Nat) : (dbL R bk N i).foldl (dbU R i) s = dbR R bk i s N := by
  unfold dbL
  rw [setD_fold, Nat.min_eq_right hN]
theorem dbL_setL (R : Nat → Nat) (bk : Bool) (N i : Nat) : setL (othX R bk N i) = (dbL R bk N i).map fun (x : Nat) => (x : Int) := rfl
theorem dbL_mem {R : Nat → Nat} {bk : Bool} {N i q : Nat} (h : q ∈ dbL R bk N i) : q < N ∧ i < q := by
  unfold dbL at h
  rw [List.mem_reverse, setD_mem] at h
  have h2 := h.2
  unfold othX at h2
  rw [arK_bit] at h2
  have h3 := Bool.and_eq_true_iff.1 h2
  unfold dbC at h3
  exact ⟨of_decide_eq_true h3.1, of_decide_eq_true (Bool.and_eq_true_iff.1 h3.2).1⟩
theorem dbR_congr {R S : Nat → Nat} {bk : Bool} {N i : Nat} (h : ∀ p, p < N → R p = S p) (hi : i < N) (s : Int × Nat × Nat) : ∀ J, J ≤ N → dbR R bk i s J = dbR S bk i s J
  | 0, _ => rfl
  | J + 1, hJ => by
    have ih := dbR_congr (bk := bk) h hi s J (by omega)
    rw [dbR, dbR, ih]
    unfold dbC dbU
    rw [h i hi, h J (by omega)]
theorem dbA_congr {R S : Nat → Nat} {bk : Bool} {N : Nat} (h : ∀ p, p < N → R p = S p) : ∀ I, I ≤ N → dbA R bk N I = dbA S bk N I
  | 0, _ => rfl
  | I + 1, hI => by rw [dbA, dbA, dbA_congr h I (by omega), dbR_congr h (by omega) _ N (Nat.le_refl _)]
/-- What is told: numbers and points within bounds. -/
def dbOk (N : Nat) (s : Int × Nat × Nat) : Prop := -1 ≤ s.1 ∧ s.1 ≤ 17 ∧ s.2.1 ≤ N ∧ s.2.2 ≤ N
theorem dbU_ok {R : Nat → Nat} {N i j : Nat} {s : Int × Nat × Nat} (hR : ∀ p, R p < 2 ^ 17) (hi : i < N) (hj : j < N) (h : dbOk N s) : dbOk N (dbU R i s j) := by
  unfold dbU; split
  · have := ones_17 (Nat.lt_of_le_of_lt Nat.and_le_left (hR i) : R i &&& R j < 2 ^ 17)
    exact ⟨by show -1 ≤ ((ones (R i &&& R j) : Nat) : Int); omega, by show ((ones (R i &&& R j) : Nat) : Int) ≤ 17; omega, by show i ≤ N; omega, by show j ≤ N; omega⟩
  · exact h
theorem dbR_ok {R : Nat → Nat} {bk : Bool} {N i : Nat} {s : Int × Nat × Nat} (hR : ∀ p, R p < 2 ^ 17) (hi : i < N) (h : dbOk N s) : ∀ J, J ≤ N → dbOk N (dbR R bk i s J)
  | 0, _ => h
  | J + 1, hJ => by
    rw [dbR]; split
    · exact dbU_ok hR hi (by omega) (dbR_ok hR hi h J (by omega))
    · exact dbR_ok hR hi h J (by omega)
theorem dbA_ok {R : Nat → Nat} {bk : Bool} {N : Nat} (hR : ∀ p, R p < 2 ^ 17) : ∀ I, I ≤ N → dbOk N (dbA R bk N I)
  | 0, _ => ⟨show (-1 : Int) ≤ -1 by decide, show (-1 : Int) ≤ 17 by decide, Nat.zero_le _, Nat.zero_le _⟩
  | I + 1, hI => by rw [dbA]; exact dbR_ok hR (by omega) (dbA_ok hR I (by omega)) N (Nat.le_refl _)
end Go.Proofs.YtkiocedhibeieaaDoor
