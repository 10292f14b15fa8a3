/- errors.Is of the one sentinel with itself; what the row's listed variable gives. -/
import Derived.Test.YtlnelmickndoaaaDoorGe
import Derived.Test.YtlnelmickndoaaaDoorTie
import Derived.Test.YtlnelmickndoaaaDoorCards
import Derived.WalkKit
import Derived.LaidEql
import Derived.Stop.Asserts
import Derived.RowKitTokens
import Derived.Stop.LaidErr
import Derived.Deep.DeepHandedRow
namespace Go.Proofs.YtlnelmickndoaaaDoor
set_option linter.unusedVariables false
set_option linter.unusedSimpArgs false
open Go Go.RowKit Go.Extern.Stop Go.Stop Go.Extern Go.ChangeShapes Go.WideShapes Go.ChangeAt
theorem gErr : Tryd.prog.globalNamed "loop.example/g01362/impl.errOutside" = some 0 := by kernel_rfl
theorem gErrT : (Tryd.prog.globals[0]?).map (·.type) = some 35 := by kernel_rfl
theorem gSize : Tryd.prog.globals.size = 1 := by kernel_rfl
theorem isTypeOf (v : Value) (w : World) : (Extern.ReflectliteType.typeOf #[.iface 58 v]).run Tryd.prog w = .ok (.iface 48 (.agg #[.pointer (some ⟨1, 58, none⟩)])) w := by kernel_rfl
def entry82 : Array Value → Sem Value := Extern.ReflectliteType.method fun t => do Extern.Rtype.noPackHeld "Comparable" t; pure (.bool (← typeInfo t).comparable)
theorem isComparable (w : World) : (entry82 #[.agg #[.pointer (some ⟨1, 58, none⟩)]]).run Tryd.prog w = .ok (.bool true) w := by kernel_rfl
theorem isMethodComparable (v : Value) (w : World) : (Go.method 196 48 v "Comparable").run Tryd.prog w = .ok (38, v) w := by kernel_rfl
theorem isComp : (Tryd.prog.info? 58).map (·.comparable) = some true := by kernel_rfl
theorem isSize : (Tryd.prog.info? 84).map (·.size) = some 1 := by kernel_rfl
set_option maxRecDepth 100000 in
/-- errors.Is(x, x), x a pointer to an errors.errorString. -/
theorem is_same (a : Addr) (w : World) :
    Calls Tryd.prog 16 #[.iface 58 (.pointer (some a)), .iface 58 (.pointer (some a))] w fun e w' => e = .returned (.bool true) ∧ w' = w := by
  obtain ⟨i, hi, hcmp⟩ := Option.map_eq_some_iff.1 isComp
  obtain ⟨j, hj, hjs⟩ := Option.map_eq_some_iff.1 isSize
  have h8 := @run_callFunc_extern Tryd.prog 18 _ Extern.ReflectliteType.typeOf Tryd.func18 (by kernel_rfl) (by kernel_rfl) (by kernel_rfl) (by kernel_rfl)
  have h32 := @run_callFunc_extern Tryd.prog 38 _ entry82 Tryd.func38 (by kernel_rfl) (by kernel_rfl) (by kernel_rfl) (by kernel_rfl)
  have tT := isTypeOf
  have cT := isComparable
  have mR := isMethodComparable
  have heq := run_eql_iface_ptr_same (P := Tryd.prog) w a Tryd.underlying35 Tryd.underlying58 hi hcmp hj
  go_enter Tryd.func16, Tryd.ntmps16
  go_wp2
  refine wp_loop_rounds 1 ?_
  rw [rounds_succ]
  go_wp2
  go_ret
  exact ⟨rfl, rfl⟩
/-- The sentinel lies where the program's text lays it. -/
def Er (w : World) (a : Addr) : Prop := w.cell? ⟨0, 0, none⟩ = some (.iface 58 (.pointer (some a)))
theorem Er.lt {w : World} {a : Addr} (h : Er w a) : 0 < w.heap.size := World.block_lt_of_cell? w _ h
theorem Er.below {w w' : World} {a : Addr} (h : Er w a) {B : Nat} (hb : Below B w w') (hB : 0 < B) : Er w' a := by
  unfold Er; rw [hb.cell (p := ⟨0, 0, none⟩) hB]; exact h
theorem errStar : "*" ++ "errors.errorString" = "*errors.errorString" := by decide
theorem rowErr : ∀ u, Tryd.prog.typeName? 3 u = some "*errors.errorString" → u = 58 := by
  intro u hu
  exact typeName_ptr_named (nm := "errors.errorString") (by rw [errStar]; kernel_rfl) (by kernel_rfl) (by decide) u (by rw [errStar]; exact hu)
theorem er_of {W : World} (h : laidMetH Tryd.prog [("loop.example/g01362/impl.errOutside", Rows.laid_loop_example_g01362_impl_errOutside)] W) : ∃ a, Er W a := by
  obtain ⟨a, s, hv, _, _, _⟩ := laid_sentinel (r := []) (nm := "*errors.errorString") h gErr gErrT Tryd.underlying35 rowErr Tryd.underlying58 Tryd.underlying84 rfl rfl Tryd.underlying9 (by kernel_rfl) (by kernel_rfl)
  exact ⟨a, World.var?_cell gErr hv 0⟩
end Go.Proofs.YtlnelmickndoaaaDoor
