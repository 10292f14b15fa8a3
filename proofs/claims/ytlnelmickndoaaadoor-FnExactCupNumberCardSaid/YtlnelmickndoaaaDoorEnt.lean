/- enterBound and what it calls: the door that turns the one panic into ErrRange. -/
import Derived.Test.YtlnelmickndoaaaDoorErr
import Derived.Tactics
import Derived.Tactics2
import Derived.Defers
import Derived.Recover
import Derived.Laws.Pointers
namespace Go.Proofs.YtlnelmickndoaaaDoor
set_option linter.unusedVariables false
set_option linter.unusedSimpArgs false
open Go Go.RowKit Go.Extern.Stop Go.Stop Go.Extern
/-- The panic of the door. -/
def pan (a : Addr) : List PanicEntry := [{ v := .iface 58 (.pointer (some a)), recovered := false }]
theorem within53 (n lo hi : Int) (w : World) : Calls Tryd.prog 8 #[.int .i64 n, .int .i64 lo, .int .i64 hi] w fun e w' => e = .returned (.bool (inB n lo hi)) ∧ w = w' := by
  go_enter Tryd.func8, Tryd.ntmps8
  by_cases h1 : lo ≤ n
  · by_cases h2 : n ≤ hi
    · rw [inB_yes h1 h2]
      go_wp2
      go_ret
      exact ⟨rfl, rfl⟩
    · rw [inB_no (by omega)]
      go_wp2
      go_ret
      exact ⟨rfl, rfl⟩
  · rw [inB_no (by omega)]
    go_wp2
    go_ret
    exact ⟨rfl, rfl⟩
theorem asE (v : Value) (xT : TypeId) (w : World) : (Instr.typeAssert (.iface 58 v) xT 35 true).run Tryd.prog w = .ok (.tuple #[.iface 58 v, .bool true]) w := run_typeAssert_hasB Tryd.underlying35 (by kernel_rfl) v xT w
theorem asNil (w : World) : (Instr.typeAssert .nilIface 20 35 true).run Tryd.prog w = .ok (.tuple #[.nilIface, .bool false]) w := by kernel_rfl
set_option maxRecDepth 100000 in
theorem catch_idle (p : Addr) (w : World) :
    CallsD Tryd.prog 15 #[.pointer (some p)] .returning w fun e u' w' => e = .returned (.tuple #[]) ∧ u' = .returning ∧ w' = w := by
  refine callsD_of_wpS Tryd.func15 rfl fun c₀ cs hu => ?_
  apply wpS_seq
  apply wpS_region
  simp [wpOpsS, go_sem, recoverD, hu, Tryd.ntmps15, Exit.thenS, asNil]
  refine wpS_of_wp ?_
  go_wp2
  cases c₀
  simp_all [bodyPostS, results, Tryd.results15]
theorem tm51 (p a b c d e f g : Value) : #[p] ++ (((((((Array.replicate 13 undef).setIfInBounds 3 a).setIfInBounds 4 b).setIfInBounds 2 c).setIfInBounds 5 d).setIfInBounds 6 e).setIfInBounds 0 f).setIfInBounds 1 g = #[p, f, g, c, a, b, d, e, undef, undef, undef, undef, undef, undef] := by apply Array.ext'; simp [List.replicate, List.set]
set_option maxRecDepth 100000 in
set_option maxHeartbeats 400000 in
theorem catch_panicking (b : Nat) (a : Addr) (x : Int) (w : World) (hE : Er w a) (hc : w.cell? ⟨b, 0, none⟩ = some (.int .i64 x)) (hz : w.frozen? ⟨b, 0, none⟩ = false) :
    CallsD Tryd.prog 15 #[.pointer (some ⟨b, 0, none⟩)] (.panicking (pan a)) w fun e u' w' =>
      e = .returned (.tuple #[]) ∧ u' = .panicking [{ v := .iface 58 (.pointer (some a)), recovered := true }] ∧ w' = w.setCell ⟨b, 0, none⟩ (.int .i64 2) := by
  refine callsD_of_wpS Tryd.func15 rfl fun c₀ cs hu => ?_
  unfold pan at hu
  have hA := asE
  have hE2 : w.cell? ⟨0, 0, none⟩ = some (.iface 58 (.pointer (some a))) := hE
  apply wpS_seq
  apply wpS_region
  simp [wpOpsS, go_sem, recoverD, hu, Tryd.ntmps15, Exit.thenS, hA]
  rw [tm51]
  refine wpS_of_wp ?_
  go_wp2_with fail
  refine (is_same a _).mono ?_
  rintro e w1 ⟨rfl, rfl⟩
  go_wp2
  trace_state
  cases c₀
  simp_all [bodyPostS, results, Tryd.results15]
end Go.Proofs.YtlnelmickndoaaaDoor
