/- PartOn: its model's entry. -/
import Derived.Test.YtikcmgmgdbbcfaaPartSpec
namespace Go.Proofs.Ytikcmgmgdbbcfaa
set_option linter.unusedVariables false
set_option linter.unusedSimpArgs false
open Go Go.RowKit Go.Shelf
theorem poB_bys (n k : Int) {bs : List Nat} (hb : Bys bs) (zs : List Int) : Bys (poB n k bs zs) := by
  unfold poB
  split
  · exact paintB_bys fun lo hi => colAt_bd hb _ _
  · exact zbl_bys
theorem setCode_0 {n k : Int} {bs : List Nat} {zs : List Int} (hi : isCol n k bs = true) (h : setB zs n = true) : setCode n k bs zs = 0 := by
  have hbd := isCol_bd hi
  unfold setB at h
  rw [Bool.and_eq_true] at h
  unfold setCode
  rw [if_pos (given_0 hi (inB_yes (by omega) (by omega)) h.2), if_pos h.1]
theorem setCode_2 {n k : Int} {bs : List Nat} {zs : List Int} (hi : isCol n k bs = true) (h : setB zs n = false) : setCode n k bs zs = 2 := by
  have hbd := isCol_bd hi
  have hc : belowB 0 k = true := inB_yes (by omega) (by omega)
  unfold setCode
  cases ha : allB zs n with
  | false =>
    have := given_2 (c := 0) hi (by rw [hc, ha]; rfl)
    rw [this]; rfl
  | true =>
    rw [if_pos (given_0 hi hc ha), if_neg]
    unfold setB at h
    rw [ha, Bool.and_true] at h
    rw [h]; simp
theorem setCode_1 {n k : Int} {bs : List Nat} {zs : List Int} (hi : isCol n k bs = false) : setCode n k bs zs = 1 := by
  unfold setCode; rw [given_1 hi]; rfl
end Go.Proofs.Ytikcmgmgdbbcfaa
