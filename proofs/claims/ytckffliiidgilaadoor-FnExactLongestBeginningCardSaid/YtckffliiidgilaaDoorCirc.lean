/- CircularOf: the program and its model. -/
import Derived.Test.YtckffliiidgilaaDoorDig
import Derived.Test.YtckffliiidgilaaDoorGc
namespace Go.Proofs.YtckffliiidgilaaDoor
set_option linter.unusedVariables false
set_option linter.unusedSimpArgs false
open Go Go.RowKit Go.Shelf
def ciOk (n k : Int) (zs : List Int) : Prop := inB n 2 17 = true ∧ inB k 1 4 = true ∧ (zs.length : Int) = n / 2 ∧ allB zs k = true
instance (n k : Int) (zs : List Int) : Decidable (ciOk n k zs) := by unfold ciOk; infer_instance
def ciCode (n k : Int) (zs : List Int) : Int := if ciOk n k zs then 0 else 2
def ciN (n k : Int) (zs : List Int) : Int := if ciOk n k zs then n else 0
def ciK (n k : Int) (zs : List Int) : Int := if ciOk n k zs then k else 0
def ciB (n k : Int) (zs : List Int) : List Nat := if ciOk n k zs then paintB n.toNat (fun lo hi => zs.getD (dst n.toNat lo hi - 1) 0) else zbl
/-- What CircularOf returns. -/
def ciOut (n k : Int) (zs : List Int) : Value := .tuple #[.agg (ccells (ciN n k zs) (ciK n k zs) (ciB n k zs)).toArray, .int .i64 (ciCode n k zs)]
theorem ciOut_bad {n k : Int} {zs : List Int} (h : ¬ ciOk n k zs) : ciOut n k zs = .tuple #[.agg (ccells 0 0 zbl).toArray, .int .i64 2] := by simp [ciOut, ciN, ciK, ciB, ciCode, h]
theorem ciOut_good {n k : Int} {zs : List Int} (h : ciOk n k zs) : ciOut n k zs = .tuple #[.agg (ccells n k (paintB n.toNat (fun lo hi => zs.getD (dst n.toNat lo hi - 1) 0))).toArray, .int .i64 0] := by simp [ciOut, ciN, ciK, ciB, ciCode, h]
theorem all_rng {zs : List Int} {k : Int} (h : allB zs k = true) (hk : k ≤ 4) (j : Nat) : 0 ≤ zs.getD j 0 ∧ zs.getD j 0 < 256 := by
  by_cases hj : j < zs.length
  · exact all_lt h hk j hj
  · rw [List.getD, List.getElem?_eq_none (by omega)]; simp
theorem lst15_rng {zs : List Int} (h : ∀ j, 0 ≤ zs.getD j 0 ∧ zs.getD j 0 < 256) (j : Nat) : 0 ≤ (lst15 zs).getD j 0 ∧ (lst15 zs).getD j 0 < 256 := by
  by_cases hj : j < 15
  · rw [lst15_get zs hj]; exact h j
  · rw [List.getD, List.getElem?_eq_none (by rw [lst15_len]; omega)]; simp
theorem ciB_bys (n k : Int) (zs : List Int) : Bys (ciB n k zs) := by
  unfold ciB
  split
  · rename_i h
    exact paintB_bys fun lo hi => all_rng h.2.2.2 (inB_bd h.2.1).2 _
  · exact zbl_bys
theorem circ_lst (N : Nat) (zs : List Int) (hN : N ≤ 17) : paintB N (fun lo hi => (lst15 zs).getD (dst N lo hi - 1) 0) = paintB N (fun lo hi => zs.getD (dst N lo hi - 1) 0) :=
  paint_congr fun lo hi h1 h2 => lst15_get zs (by have := dst_bd h1 h2; omega)
end Go.Proofs.YtckffliiidgilaaDoor
