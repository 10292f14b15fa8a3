/- enterBound and what it calls: the door that turns the one panic into ErrRange. -/
import Derived.Test.YtckffliiidgilaaDoorErr
import Derived.Tactics
import Derived.Tactics2
import Derived.Defers
import Derived.Recover
import Derived.Laws.Pointers
namespace Go.Proofs.YtckffliiidgilaaDoor
set_option linter.unusedVariables false
set_option linter.unusedSimpArgs false
open Go Go.RowKit Go.Extern.Stop Go.Stop Go.Extern
/-- The panic of the door. -/
def pan (a : Addr) : List PanicEntry := [{ v := .iface 147 (.pointer (some a)), recovered := false }]
theorem within53 (n lo hi : Int) (w : World) : Calls Tryd.prog 62 #[.int .i64 n, .int .i64 lo, .int .i64 hi] w fun e w' => e = .returned (.bool (inB n lo hi)) ∧ w = w' := by
  go_enter Tryd.func62, Tryd.ntmps62
  by_cases h1 : lo ≤ n
  · by_cases h2 : n ≤ hi
    · rw [inB_yes h1 h2]
      go_wp2
      go_ret
      exact ⟨rfl, rfl⟩
    · rw [inB_no (by omega)]
      go_wp2
      go_ret
      exact ⟨rfl, rfl⟩
  · rw [inB_no (by omega)]
    go_wp2
    go_ret
    exact ⟨rfl, rfl⟩
theorem asE (v : Value) (xT : TypeId) (w : World) : (Instr.typeAssert (.iface 147 v) xT 107 true).run Tryd.prog w = .ok (.tuple #[.iface 147 v, .bool true]) w := run_typeAssert_hasB Tryd.underlying107 (by kernel_rfl) v xT w
theorem asNil (w : World) : (Instr.typeAssert .nilIface 20 107 true).run Tryd.prog w = .ok (.tuple #[.nilIface, .bool false]) w := by kernel_rfl
theorem tm51 (p a b c d e f g : Value) : #[p] ++ (((((((Array.replicate 13 undef).setIfInBounds 3 a).setIfInBounds 4 b).setIfInBounds 2 c).setIfInBounds 5 d).setIfInBounds 6 e).setIfInBounds 0 f).setIfInBounds 1 g = #[p, f, g, c, a, b, d, e, undef, undef, undef, undef, undef, undef] := by apply Array.ext'; simp [List.replicate, List.set]
end Go.Proofs.YtckffliiidgilaaDoor
