/- errors.Is of the one sentinel with itself; what the row's listed variable gives. -/
import Derived.Test.YtckffliiidgilaaDoorBad
import Derived.Test.YtckffliiidgilaaDoorTie
import Derived.Test.YtckffliiidgilaaDoorCards
import Derived.WalkKit
import Derived.LaidEql
import Derived.Stop.Asserts
import Derived.RowKitTokens
import Derived.Stop.LaidErr
import Derived.Deep.DeepHandedRow
namespace Go.Proofs.YtckffliiidgilaaDoor
set_option linter.unusedVariables false
set_option linter.unusedSimpArgs false
open Go Go.RowKit Go.Extern.Stop Go.Stop Go.Extern Go.ChangeShapes Go.WideShapes Go.ChangeAt
theorem gErr : Tryd.prog.globalNamed "loop.example/g01362/impl.errNoSizes" = some 0 := by kernel_rfl
theorem gErrT : (Tryd.prog.globals[0]?).map (·.type) = some 107 := by kernel_rfl
theorem gSize : Tryd.prog.globals.size = 1 := by kernel_rfl
theorem isTypeOf (v : Value) (w : World) : (Extern.ReflectliteType.typeOf #[.iface 147 v]).run Tryd.prog w = .ok (.iface 131 (.agg #[.pointer (some ⟨1, 147, none⟩)])) w := by kernel_rfl
def entry82 : Array Value → Sem Value := Extern.ReflectliteType.method fun t => do Extern.Rtype.noPackHeld "Comparable" t; pure (.bool (← typeInfo t).comparable)
theorem isComparable (w : World) : (entry82 #[.agg #[.pointer (some ⟨1, 147, none⟩)]]).run Tryd.prog w = .ok (.bool true) w := by kernel_rfl
theorem isMethodComparable (v : Value) (w : World) : (Go.method 284 131 v "Comparable").run Tryd.prog w = .ok (133, v) w := by kernel_rfl
theorem isComp : (Tryd.prog.info? 147).map (·.comparable) = some true := by kernel_rfl
theorem isSize : (Tryd.prog.info? 172).map (·.size) = some 1 := by kernel_rfl
set_option maxRecDepth 100000 in
/-- errors.Is(x, x), x a pointer to an errors.errorString. -/
theorem is_same (a : Addr) (w : World) :
    Calls Tryd.prog 90 #[.iface 147 (.pointer (some a)), .iface 147 (.pointer (some a))] w fun e w' => e = .returned (.bool true) ∧ w' = w := by
  obtain ⟨i, hi, hcmp⟩ := Option.map_eq_some_iff.1 isComp
  obtain ⟨j, hj, hjs⟩ := Option.map_eq_some_iff.1 isSize
  have h8 := @run_callFunc_extern Tryd.prog 106 _ Extern.ReflectliteType.typeOf Tryd.func106 (by kernel_rfl) (by kernel_rfl) (by kernel_rfl) (by kernel_rfl)
  have h32 := @run_callFunc_extern Tryd.prog 133 _ entry82 Tryd.func133 (by kernel_rfl) (by kernel_rfl) (by kernel_rfl) (by kernel_rfl)
  have tT := isTypeOf
  have cT := isComparable
  have mR := isMethodComparable
  have heq := run_eql_iface_ptr_same (P := Tryd.prog) w a Tryd.underlying107 Tryd.underlying147 hi hcmp hj
  go_enter Tryd.func90, Tryd.ntmps90
  go_wp2
  refine wp_loop_rounds 1 ?_
  rw [rounds_succ]
  go_wp2
  go_ret
  exact ⟨rfl, rfl⟩
/-- The sentinel lies where the program's text lays it. -/
def Er (w : World) (a : Addr) : Prop := w.cell? ⟨0, 0, none⟩ = some (.iface 147 (.pointer (some a)))
theorem Er.lt {w : World} {a : Addr} (h : Er w a) : 0 < w.heap.size := World.block_lt_of_cell? w _ h
theorem Er.below {w w' : World} {a : Addr} (h : Er w a) {B : Nat} (hb : Below B w w') (hB : 0 < B) : Er w' a := by
  unfold Er; rw [hb.cell (p := ⟨0, 0, none⟩) hB]; exact h
theorem errStar : "*" ++ "errors.errorString" = "*errors.errorString" := by decide
theorem rowErr : ∀ u, Tryd.prog.typeName? 3 u = some "*errors.errorString" → u = 147 := by
  intro u hu
  exact typeName_ptr_named (nm := "errors.errorString") (by rw [errStar]; kernel_rfl) (by kernel_rfl) (by decide) u (by rw [errStar]; exact hu)
theorem er_of {W : World} (h : laidMetH Tryd.prog [("loop.example/g01362/impl.errNoSizes", Rows.laid_loop_example_g01362_impl_errNoSizes)] W) : ∃ a, Er W a := by
  obtain ⟨a, s, hv, _, _, _⟩ := laid_sentinel (r := []) (nm := "*errors.errorString") h gErr gErrT Tryd.underlying107 rowErr Tryd.underlying147 Tryd.underlying172 rfl rfl Tryd.underlying9 (by kernel_rfl) (by kernel_rfl)
  exact ⟨a, World.var?_cell gErr hv 0⟩
end Go.Proofs.YtckffliiidgilaaDoor
