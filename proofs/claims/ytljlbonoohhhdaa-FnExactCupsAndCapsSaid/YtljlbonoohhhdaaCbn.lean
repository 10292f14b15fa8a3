/- Slopes: the model's and the program's test. -/
import Derived.Test.YtljlbonoohhhdaaCpq
namespace Go.Proofs.Ytljlbonoohhhdaa
set_option linter.unusedVariables false
set_option linter.unusedSimpArgs false
open Go Go.RowKit Go.Shelf
attribute [local go_sem] Oper.semAt_some
def In1 (z : Int) : Prop := -1000 ≤ z ∧ z ≤ 1000
set_option maxRecDepth 100000 in
set_option maxHeartbeats 2000000 in
theorem bend51 (x0 y0 x1 y1 x2 y2 : Int) (h0 : In1 x0) (k0 : In1 y0) (h1 : In1 x1) (k1 : In1 y1) (h2 : In1 x2) (k2 : In1 y2) (a b c o p q ca cb cc : Nat) (w : World)
    (ax : w.cell? ⟨a, o, none⟩ = some (.int .i64 x0)) (ay : w.cell? ⟨a, o + 1, none⟩ = some (.int .i64 y0)) (bx : w.cell? ⟨b, p, none⟩ = some (.int .i64 x1)) (by' : w.cell? ⟨b, p + 1, none⟩ = some (.int .i64 y1))
    (cx : w.cell? ⟨c, q, none⟩ = some (.int .i64 x2)) (cy : w.cell? ⟨c, q + 1, none⟩ = some (.int .i64 y2)) :
    Calls Try.prog 51 #[.slice (some ⟨a, o, none⟩) 2 ca, .slice (some ⟨b, p, none⟩) 2 cb, .slice (some ⟨c, q, none⟩) 2 cc] w fun e w' => e = .returned (.int .i64 ((y2 - y1) * (x1 - x0) - (y1 - y0) * (x2 - x1))) ∧ Below w.heap.size w w' := by
  unfold In1 at h0 k0 h1 k1 h2 k2
  have p1 := prd_bd k2 k1 h1 h0
  have p2 := prd_bd k1 k0 h2 h1
  have w1 : IntKind.i64.wrap (y2 - y1) = y2 - y1 := IntWalk.i64_in _ (by omega)
  have w2 : IntKind.i64.wrap (x1 - x0) = x1 - x0 := IntWalk.i64_in _ (by omega)
  have w3 : IntKind.i64.wrap (y1 - y0) = y1 - y0 := IntWalk.i64_in _ (by omega)
  have w4 : IntKind.i64.wrap (x2 - x1) = x2 - x1 := IntWalk.i64_in _ (by omega)
  have w5 : IntKind.i64.wrap ((y2 - y1) * (x1 - x0)) = (y2 - y1) * (x1 - x0) := IntWalk.i64_in _ (by omega)
  have w6 : IntKind.i64.wrap ((y1 - y0) * (x2 - x1)) = (y1 - y0) * (x2 - x1) := IntWalk.i64_in _ (by omega)
  have w7 : IntKind.i64.wrap ((y2 - y1) * (x1 - x0) - (y1 - y0) * (x2 - x1)) = (y2 - y1) * (x1 - x0) - (y1 - y0) * (x2 - x1) := IntWalk.i64_in _ (by omega)
  clear p1 p2 h0 k0 h1 k1 h2 k2
  go_enter Try.func51, Try.ntmps51
  go_wp2_with fail
  go_quiet (fail)
  go_wp2_with fail
  go_ret
  exact ⟨rfl, Below.drewN (Below.refl _ _) _⟩
set_option maxRecDepth 100000 in
set_option maxHeartbeats 2000000 in
theorem bends52 (x0 y0 x1 y1 x2 y2 : Int) (h0 : In1 x0) (k0 : In1 y0) (h1 : In1 x1) (k1 : In1 y1) (h2 : In1 x2) (k2 : In1 y2) (w : World) :
    Calls Try.prog 52 #[.agg #[.int .i64 x0, .int .i64 y0], .agg #[.int .i64 x1, .int .i64 y1], .agg #[.int .i64 x2, .int .i64 y2]] w fun e w' => e = .returned (.bool (decide ((y2 - y1) * (x1 - x0) - (y1 - y0) * (x2 - x1) > 0))) ∧ Below w.heap.size w w' := by
  unfold In1 at h0 k0 h1 k1 h2 k2
  have p1 := prd_bd k2 k1 h1 h0
  have p2 := prd_bd k1 k0 h2 h1
  have w1 : IntKind.i64.wrap (y2 - y1) = y2 - y1 := IntWalk.i64_in _ (by omega)
  have w2 : IntKind.i64.wrap (x1 - x0) = x1 - x0 := IntWalk.i64_in _ (by omega)
  have w3 : IntKind.i64.wrap (y1 - y0) = y1 - y0 := IntWalk.i64_in _ (by omega)
  have w4 : IntKind.i64.wrap (x2 - x1) = x2 - x1 := IntWalk.i64_in _ (by omega)
  have w5 : IntKind.i64.wrap ((y2 - y1) * (x1 - x0)) = (y2 - y1) * (x1 - x0) := IntWalk.i64_in _ (by omega)
  have w6 : IntKind.i64.wrap ((y1 - y0) * (x2 - x1)) = (y1 - y0) * (x2 - x1) := IntWalk.i64_in _ (by omega)
  have w7 : decide ((y1 - y0) * (x2 - x1) < (y2 - y1) * (x1 - x0)) = decide ((y2 - y1) * (x1 - x0) - (y1 - y0) * (x2 - x1) > 0) := by rw [decide_eq_decide]; omega
  have HD := hidd w7
  clear p1 p2 h0 k0 h1 k1 h2 k2 w7
  go_enter Try.func52, Try.ntmps52
  go_wp2_with fail
  go_ret
  exact ⟨by show Ending.returned (Value.bool _) = _; rw [HD.out], (((Below.refl _ _).alloc (Nat.le_refl _) _).alloc (by simp) _).alloc (by simp; omega) _⟩
end Go.Proofs.Ytljlbonoohhhdaa
