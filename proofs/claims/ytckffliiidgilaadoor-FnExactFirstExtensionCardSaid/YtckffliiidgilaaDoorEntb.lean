/- enterBound by the contract of what it enters; mustBeWithin. -/
import Derived.Test.YtckffliiidgilaaDoorEnt
import Derived.WalkLawsBesides
namespace Go.Proofs.YtckffliiidgilaaDoor
set_option linter.unusedVariables false
set_option linter.unusedSimpArgs false
open Go Go.RowKit
/-- All numbers of a list lie in a range. -/
def inAll (lo hi : Int) (zs : List Int) : Bool := zs.all fun z => inB z lo hi
theorem inAll_no {lo hi : Int} {zs : List Int} {j : Nat} (hj : j < zs.length) (h : inB (zs.getD j 0) lo hi = false) : inAll lo hi zs = false := by
  simp only [inAll, List.all_eq_false]
  refine ⟨zs[j], List.getElem_mem hj, ?_⟩
  have e : zs.getD j 0 = zs[j] := by simp [List.getD, hj]
  rw [e] at h; simp [h]
theorem inAll_yes {lo hi : Int} {zs : List Int} (h : ∀ j, j < zs.length → inB (zs.getD j 0) lo hi = true) : inAll lo hi zs = true := by
  simp only [inAll, List.all_eq_true]
  intro z hz
  obtain ⟨j, hj, rfl⟩ := List.getElem_of_mem hz
  have e : zs.getD j 0 = zs[j] := by simp [List.getD, hj]
  rw [← e]; exact h j hj
end Go.Proofs.YtckffliiidgilaaDoor
