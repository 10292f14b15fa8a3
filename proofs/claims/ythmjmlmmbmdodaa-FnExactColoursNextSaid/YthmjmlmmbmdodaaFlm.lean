/- Faults of parts, as arithmetic; the model's test of one. -/
import Derived.Test.YthmjmlmmbmdodaaPt
import Derived.IntWalk
namespace Go.Proofs.Ythmjmlmmbmdodaa
set_option linter.unusedVariables false
set_option linter.unusedSimpArgs false
open Go Go.RowKit Go.Shelf
/-- The x that a fault with y and z has. -/
def ftX (kind y z : Int) : Int := if kind = 2 then 2 * y - z else z - y
/-- The colour of the number m. -/
def gI (zs : List Int) (m : Int) : Int := zs.getD (m - 1).toNat 0
/-- Is there a fault with y and z? -/
def ftB (zs : List Int) (kind y z : Int) : Bool :=
  decide (1 ≤ ftX kind y z) && decide (ftX kind y z ≤ y) && !(decide (0 < kind) && (ftX kind y z == y)) && (gI zs (ftX kind y z) == gI zs y) && (gI zs y == gI zs z)
def ftAt (zs : List Int) (kind y z : Int) : Int := if ftB zs kind y z = true then ftX kind y z else 0
theorem ftAt_no {zs : List Int} {kind y z : Int} (h : ftB zs kind y z = false) : ftAt zs kind y z = 0 := by simp [ftAt, h]
theorem ftAt_yes {zs : List Int} {kind y z : Int} (h : ftB zs kind y z = true) : ftAt zs kind y z = ftX kind y z := by simp [ftAt, h]
theorem ftB_lo {zs : List Int} {kind y z : Int} (h : ftB zs kind y z = true) : 1 ≤ ftX kind y z ∧ ftX kind y z ≤ y := by
  simp only [ftB, Bool.and_eq_true, decide_eq_true_eq] at h
  exact h.1.1.1
theorem gI_cell {w : World} {b off : Nat} {zs : List Int} (hc : ∀ j, j < zs.length → w.cell? ⟨b, off + j, none⟩ = some (.int .i64 (zs.getD j 0))) {m : Int} {M : Nat} (hm : m = (M : Int) + 1) (hl : M < zs.length) :
    w.cell? ⟨b, off + M, none⟩ = some (.int .i64 (gI zs m)) := by
  have := hc M hl
  unfold gI
  rw [show (m - 1).toNat = M by omega]; exact this
end Go.Proofs.Ythmjmlmmbmdodaa
