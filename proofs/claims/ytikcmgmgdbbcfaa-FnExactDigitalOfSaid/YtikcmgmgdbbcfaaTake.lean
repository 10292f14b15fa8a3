/- The points but one. -/
import Derived.Test.YtikcmgmgdbbcfaaPartOn
import Derived.Test.YtikcmgmgdbbcfaaNeighbours
namespace Go.Proofs.Ytikcmgmgdbbcfaa
set_option linter.unusedVariables false
set_option linter.unusedSimpArgs false
open Go Go.RowKit
theorem nbK_in (p : Nat → Bool) : ∀ (k j : Nat), j < (nbK p k).length → 0 ≤ (nbK p k).getD j 0 ∧ (nbK p k).getD j 0 < (k : Int)
  | 0, j, h => by simp [nbK] at h
  | k + 1, j, h => by
    rw [nbK] at h ⊢
    split
    · rename_i hp
      rw [if_pos hp, List.length_append] at h
      by_cases hj : j < (nbK p k).length
      · have := nbK_in p k j hj
        simp only [List.getD, List.getElem?_append_left hj] at *
        omega
      · have e : j = (nbK p k).length := by simp at h; omega
        subst e
        simp [List.getD]; omega
    · rename_i hp
      rw [if_neg hp] at h
      have := nbK_in p k j h
      omega
theorem nbK_asc (p : Nat → Bool) : ∀ (k i : Nat), i + 1 < (nbK p k).length → (nbK p k).getD i 0 < (nbK p k).getD (i + 1) 0
  | 0, j, h => by simp [nbK] at h
  | k + 1, j, h => by
    rw [nbK] at h ⊢
    split
    · rename_i hp
      rw [if_pos hp, List.length_append] at h
      by_cases hj : j + 1 < (nbK p k).length
      · have := nbK_asc p k j hj
        simp only [List.getD, List.getElem?_append_left hj, List.getElem?_append_left (show j < (nbK p k).length by omega)] at *
        exact this
      · have e : j + 1 = (nbK p k).length := by simp at h; omega
        have := (nbK_in p k j (by omega)).2
        simp only [List.getD, List.getElem?_append_left (show j < (nbK p k).length by omega)] at *
        rw [e]
        simp
        omega
    · rename_i hp
      rw [if_neg hp] at h
      exact nbK_asc p k j h
theorem nbK_set (p : Nat → Bool) {N : Nat} {n : Int} (h : (N : Int) = n) : setB (nbK p N) n = true := by
  unfold setB
  rw [Bool.and_eq_true]
  refine ⟨ascB_yes (m := (nbK p N).length) (fun i _ hi => nbK_asc p N i hi) (by omega), allB_yes fun j hj => ?_⟩
  have := nbK_in p N j hj
  exact inB_yes (by omega) (by omega)
def othB (p : Int) (j : Nat) : Bool := decide ((j : Int) ≠ p)
theorem oth_len (P : Nat) : ∀ N, (nbK (othB (P : Int)) N).length = if P < N then N - 1 else N
  | 0 => by simp [nbK]
  | N + 1 => by
    rw [nbK]
    have ih := oth_len P N
    by_cases h : N = P
    · subst h
      rw [if_neg (by simp [othB])]
      rw [ih]; simp
    · rw [if_pos (by simp [othB]; omega), List.length_append, ih]
      simp only [List.length_singleton]
      split <;> split <;> omega
def tkZ (n p : Int) : List Int := nbK (othB p) n.toNat
def tkCode (n k : Int) (bs : List Nat) (p : Int) : Int := if isCol n k bs = true then (if belowB p n = true then (if n = 1 then 5 else 0) else 2) else 1
def tkN (n k : Int) (bs : List Nat) (p : Int) : Int := if tkCode n k bs p = 0 then poN n k bs (tkZ n p) else 0
def tkK (n k : Int) (bs : List Nat) (p : Int) : Int := if tkCode n k bs p = 0 then poK n k bs (tkZ n p) else 0
def tkB (n k : Int) (bs : List Nat) (p : Int) : List Nat := if tkCode n k bs p = 0 then poB n k bs (tkZ n p) else zbl
def tkOut (n k : Int) (bs : List Nat) (p : Int) : Value := .tuple #[.agg (ccells (tkN n k bs p) (tkK n k bs p) (tkB n k bs p)).toArray, .int .i64 (tkCode n k bs p)]
theorem tkOut_bad {n k : Int} {bs : List Nat} {p m : Int} (h : tkCode n k bs p = m) (hm : m ≠ 0) : tkOut n k bs p = .tuple #[.agg (ccells 0 0 zbl).toArray, .int .i64 m] := by
  unfold tkOut tkN tkK tkB
  rw [h, if_neg hm, if_neg hm, if_neg hm]
theorem tkCode_1 {n k : Int} {bs : List Nat} {p : Int} (h : isCol n k bs = false) : tkCode n k bs p = 1 := by simp [tkCode, h]
theorem tkCode_2 {n k : Int} {bs : List Nat} {p : Int} (h : isCol n k bs = true) (h2 : belowB p n = false) : tkCode n k bs p = 2 := by simp [tkCode, h, h2]
theorem tkCode_5 {k : Int} {bs : List Nat} {p : Int} (h : isCol 1 k bs = true) (h2 : belowB p 1 = true) : tkCode 1 k bs p = 5 := by simp [tkCode, h, h2]
theorem tkCode_0 {n k : Int} {bs : List Nat} {p : Int} (h : isCol n k bs = true) (h2 : belowB p n = true) (h3 : n ≠ 1) : tkCode n k bs p = 0 := by simp [tkCode, h, h2, h3]
theorem tk_fit {n k : Int} {bs : List Nat} {p : Int} (h : isCol n k bs = true) (h2 : belowB p n = true) (h3 : n ≠ 1) : (tkZ n p).length ≠ 0 ∧ setB (tkZ n p) n = true := by
  have hb := isCol_bd h
  have hp := inB_bd h2
  obtain ⟨N, rfl⟩ := Int.eq_ofNat_of_zero_le (show 0 ≤ n by omega)
  obtain ⟨P, rfl⟩ := Int.eq_ofNat_of_zero_le (show 0 ≤ p by omega)
  refine ⟨?_, nbK_set _ rfl⟩
  have := oth_len P N
  unfold tkZ
  rw [show Int.toNat (N : Int) = N from rfl, this]
  split <;> omega
theorem tkOut_good {n k : Int} {bs : List Nat} {p : Int} (h : tkCode n k bs p = 0) (h0 : poCode n k bs (tkZ n p) = 0) : tkOut n k bs p = poOut n k bs (tkZ n p) := by
  unfold tkOut tkN tkK tkB poOut
  rw [if_pos h, if_pos h, if_pos h, h, h0]
theorem tkB_bys {n k : Int} {bs : List Nat} (hb : Bys bs) (p : Int) : Bys (tkB n k bs p) := by
  unfold tkB
  split
  · exact poB_bys n k hb _
  · exact zbl_bys
theorem tkZ_len {n p : Int} (h : n ≤ 17) : (tkZ n p).length ≤ 17 := by
  have := nbK_len (othB p) n.toNat
  unfold tkZ; omega
end Go.Proofs.Ytikcmgmgdbbcfaa
