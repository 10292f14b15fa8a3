/- What a colouring is, as plain arithmetic over its points, its colours and its 136 bytes. -/
import Derived.Test.YtikcmgmgdbbcfaaBase
namespace Go.Proofs.Ytikcmgmgdbbcfaa
open Go Go.RowKit

/-- 136 bytes. -/
structure Bys (bs : List Nat) : Prop where
  len : bs.length = 136
  lt : ∀ j, bs.getD j 0 < 256
theorem zbl_get (j : Nat) : zbl.getD j 0 = 0 := by
  unfold zbl
  rw [List.getD_eq_getElem?_getD, List.getElem?_replicate]
  split <;> rfl
theorem zbl_bys : Bys zbl := ⟨zbl_len, fun j => by rw [zbl_get]; omega⟩
theorem Bys.set {bs : List Nat} (h : Bys bs) (j x : Nat) (hx : x < 256) : Bys (bs.set j x) := ⟨by simp [h.len], fun i => by
  have h1 := h.lt i
  simp only [List.getD] at h1 ⊢
  rw [List.getElem?_set]
  split
  · split
    · exact hx
    · simp
  · exact h1⟩
theorem Bys.get {bs : List Nat} (h : Bys bs) {j : Nat} (hj : j < 136) : (bcells bs)[j]? = some (.int .u8 ((bs.getD j 0 : Nat) : Int)) := by
  have hl : j < bs.length := by rw [h.len]; exact hj
  rw [bcells_get bs j hl]; simp [List.getD, hl]
theorem Bys.cget {bs : List Nat} (h : Bys bs) (n k : Int) {j : Nat} (hj : j < 136) : (ccells n k bs).toArray[2 + j]? = some (.int .u8 ((bs.getD j 0 : Nat) : Int)) := by
  have hl : j < bs.length := by rw [h.len]; exact hj
  rw [ccells_get n k bs j hl]; simp [List.getD, hl]
theorem Bys.ext {a b : List Nat} (ha : Bys a) (hb : Bys b) (h : ∀ j, j < 136 → a.getD j 0 = b.getD j 0) : a = b := by
  apply List.ext_getElem?
  intro j
  by_cases hj : j < 136
  · have h1 := h j hj
    have la : j < a.length := by rw [ha.len]; exact hj
    have lb : j < b.length := by rw [hb.len]; exact hj
    simp only [List.getD, List.getElem?_eq_getElem la, List.getElem?_eq_getElem lb, Option.getD_some] at h1 ⊢
    rw [h1]
  · rw [List.getElem?_eq_none (by rw [ha.len]; omega), List.getElem?_eq_none (by rw [hb.len]; omega)]

/-- The number of edges between n points. -/
def edg (n : Int) : Int := n * (n - 1) / 2
theorem mul_bd {n : Int} (h1 : 1 ≤ n) (h2 : n ≤ 17) : 0 ≤ n * (n - 1) ∧ n * (n - 1) ≤ 272 :=
  ⟨Int.mul_nonneg (by omega) (by omega), Int.le_trans (Int.mul_le_mul h2 (show n - 1 ≤ 16 by omega) (by omega) (by omega)) (by omega)⟩
theorem edg_bd {n : Int} (h1 : 1 ≤ n) (h2 : n ≤ 17) : 0 ≤ edg n ∧ edg n ≤ 136 := by
  have := mul_bd h1 h2
  unfold edg; omega

def shapeB (n k : Int) : Bool := decide (1 ≤ n) && decide (n ≤ 17) && (decide (1 ≤ k) && decide (k ≤ 4))
theorem shape_mk {n k : Int} (h1 : 1 ≤ n) (h2 : n ≤ 17) (h3 : 1 ≤ k) (h4 : k ≤ 4) : shapeB n k = true := by simp [shapeB, h1, h2, h3, h4]
theorem shape_bd {n k : Int} (h : shapeB n k = true) : 1 ≤ n ∧ n ≤ 17 ∧ 1 ≤ k ∧ k ≤ 4 := by
  simp [shapeB] at h; omega
theorem shape_no {n k : Int} (h : shapeB n k = false) : n < 1 ∨ 17 < n ∨ k < 1 ∨ 4 < k := by
  simp only [shapeB, Bool.and_eq_false_iff, decide_eq_false_iff_not] at h; omega

/-- Is the byte at place j as a colouring has it? -/
def goodAt (n k : Int) (bs : List Nat) (j : Nat) : Bool := if (j : Int) < edg n then decide (((bs.getD j 0 : Nat) : Int) < k) else bs.getD j 0 == 0
theorem good_lo {n k : Int} {bs : List Nat} {j : Nat} (h : (j : Int) < edg n) (hv : ((bs.getD j 0 : Nat) : Int) < k) : goodAt n k bs j = true := by
  unfold goodAt; rw [if_pos h]; simpa using hv
theorem good_hi {n k : Int} {bs : List Nat} {j : Nat} (h : edg n ≤ (j : Int)) (hv : bs.getD j 0 = 0) : goodAt n k bs j = true := by
  unfold goodAt; rw [if_neg (by omega)]; simpa using hv
theorem bad_lo {n k : Int} {bs : List Nat} {j : Nat} (h : (j : Int) < edg n) (hv : k ≤ ((bs.getD j 0 : Nat) : Int)) : goodAt n k bs j = false := by
  unfold goodAt; rw [if_pos h]; simpa using hv
theorem bad_hi {n k : Int} {bs : List Nat} {j : Nat} (h : edg n ≤ (j : Int)) (hv : bs.getD j 0 ≠ 0) : goodAt n k bs j = false := by
  unfold goodAt; rw [if_neg (by omega)]; simpa using hv
/-- Is it a colouring? -/
def isCol (n k : Int) (bs : List Nat) : Bool := shapeB n k && (List.range 136).all (goodAt n k bs)
theorem isCol_yes {n k : Int} {bs : List Nat} (hs : shapeB n k = true) (h : ∀ j, j < 136 → goodAt n k bs j = true) : isCol n k bs = true := by
  unfold isCol; rw [hs, Bool.true_and, List.all_eq_true]; intro j hj; exact h j (by simpa using hj)
theorem isCol_shape {n k : Int} {bs : List Nat} (hs : shapeB n k = false) : isCol n k bs = false := by
  unfold isCol; rw [hs]; rfl
theorem isCol_bad {n k : Int} {bs : List Nat} {j : Nat} (hj : j < 136) (h : goodAt n k bs j = false) : isCol n k bs = false := by
  unfold isCol
  rw [Bool.and_eq_false_iff]; right
  rw [List.all_eq_false]; exact ⟨j, by simpa using hj, by rw [h]; simp⟩
theorem isCol_good {n k : Int} {bs : List Nat} (h : isCol n k bs = true) : shapeB n k = true ∧ ∀ j, j < 136 → goodAt n k bs j = true := by
  unfold isCol at h
  rw [Bool.and_eq_true, List.all_eq_true] at h
  exact ⟨h.1, fun j hj => h.2 j (by simpa using hj)⟩
end Go.Proofs.Ytikcmgmgdbbcfaa
