/- The table of the trailing zeros, as the rows list it; a world that holds it. -/
import Derived.Test.YtkiocedhibeieaaDoorCards
import Derived.Test.YtkiocedhibeieaaDoorTie
import Derived.Test.YtkiocedhibeieaaDoorHi
import Derived.Test.YtkiocedhibeieaaDoorHg
import Derived.Deep.DeepHandedRow
import Derived.Lib.LaidTab
namespace Go.Proofs.YtkiocedhibeieaaDoor
set_option linter.unusedVariables false
set_option linter.unusedSimpArgs false
open Go Go.RowKit Go.ChangeShapes Go.WideShapes Go.ChangeAt
theorem gTab : Tryd.prog.globalNamed "math/bits.deBruijn32tab" = some 0 := by kernel_rfl
theorem gTabType : (Tryd.prog.globals[0]?).map (·.type) = some 109 := by kernel_rfl
theorem cells109 : Tryd.prog.cellsOf 109 = 32 := by kernel_rfl
def tabZ : List Int := Lib.deBruijn32tab.map fun (x : Nat) => (x : Int)
theorem tabZ_at : ∀ j, j < 32 → tabZ.getD j 0 = ((Lib.deBruijn32tab.getD j 0 : Nat) : Int) := by decide
theorem tz_of {W : World} (h : laidMetH Tryd.prog [("math/bits.deBruijn32tab", Rows.laid_math_bits_deBruijn32tab)] W) : Tz W := by
  have ht : Lib.TabIs Tryd.prog W "math/bits.deBruijn32tab" .u8 tabZ := Lib.tabIs_of_head (rest := []) gTab gTabType Tryd.underlying109 Tryd.underlying5 cells5 cells109 h
  intro j hj
  rw [← tabZ_at j hj]
  exact ht.cell gTab j (by simpa [tabZ, Lib.deBruijn32tab] using hj)
theorem tz_pos {W : World} (h : Tz W) : 0 < W.heap.size := World.block_lt_of_cell? W _ (h 0 (by decide))
noncomputable def laidWorld (os : Os) (args : Array Value) : World :=
  { World.holding Tryd.prog os ⟨#[], #[], []⟩ with heap := (World.holding Tryd.prog os ⟨#[], #[], []⟩).heap.modify 0 fun
      | .cells _ t frozen => .cells (tabZ.map fun z => Value.int .u8 z).toArray t frozen
      | o => o }
/-- A colouring's struct for the witness. -/
def wit : Value := .agg (ccells 0 0 zbl).toArray
theorem laid_met (os : Os) (args : Array Value) : laidMet Tryd.prog [("math/bits.deBruijn32tab", Rows.laid_math_bits_deBruijn32tab)] ((laidWorld os args).forCall (fun _ _ => 0) ⟨#[], args, []⟩).memory :=
  laidMet_of_run' 8 (by kernel_rfl) (by kernel_rfl)
end Go.Proofs.YtkiocedhibeieaaDoor
