/- What a memory of found bounds holds; the bounds of triangles. -/
import Derived.Test.YtlnelmickndoaaaDoorMst
import Derived.Maps.OwnSet
import Derived.Maps.OwnOps
import Derived.Maps.Own
import Derived.Maps.Views
namespace Go.Proofs.YtlnelmickndoaaaDoor
set_option linter.unusedVariables false
set_option linter.unusedSimpArgs false
open Go Go.RowKit Go.Maps
theorem law2 : Keyed Tryd.prog 2 := int_keyed Tryd.underlying2
theorem zero2 (w : World) : (zeroValue 2).run Tryd.prog w = .ok (.int .i64 0) w := by kernel_rfl
/-- Every entry holds the answer of f at its key. -/
def Right (f : Lit → Int) (D : DataW Unit) : Prop :=
  IsMap D ∧ ∀ k c, Maps.has D k = true → D.atKey k (.lit (.int .i64 0)) = .lit (.int .i64 c) → c = f k
theorem right_empty (f : Lit → Int) : Right f (.map []) := ⟨isMap_empty, fun k c h _ => by simp [Maps.has] at h⟩
theorem Right.put {f : Lit → Int} {D : DataW Unit} (h : Right f D) (k : Lit) (hk : WideAt.IsKeyLit k) : Right f (D.put k (.lit (.int .i64 (f k)))) := by
  refine ⟨h.1.put _ _, fun k' c hh hc => ?_⟩
  by_cases e : k' = k
  · subst e
    rw [atKey_put_same h.1 hk] at hc
    simp at hc
    exact hc.symm
  · rw [atKey_put_other e] at hc
    rw [has_put_other e] at hh
    exact h.2 k' c hh hc
/-- The bound of triangles. -/
def triV : Nat → Int
  | 0 => 0
  | 1 => 3
  | k + 2 => ((k : Int) + 2) * triV (k + 1) - ((k : Int) + 2) + 2
theorem triV_bd : ∀ k, k ≤ 10 → 0 ≤ triV k ∧ triV k ≤ 100000000 := by decide
/-- .. by its key. -/
def triL : Lit → Int
  | .int _ n => triV n.toNat
  | _ => 0
end Go.Proofs.YtlnelmickndoaaaDoor
