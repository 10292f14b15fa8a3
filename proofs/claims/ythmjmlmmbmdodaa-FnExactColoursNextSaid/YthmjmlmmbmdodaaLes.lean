/- The kinds of faults as interface values, and their one method. -/
import Derived.Test.YthmjmlmmbmdodaaFlt
namespace Go.Proofs.Ythmjmlmmbmdodaa
set_option linter.unusedVariables false
set_option linter.unusedSimpArgs false
open Go Go.RowKit Go.Shelf
/-- Is there an x for y and z? -/
def okB (kind y z : Int) : Bool := if kind = 0 then decide (z - y ≤ y) else decide (z - y < y)
theorem okB_iff {kind y z : Int} (h : y < z) (k0 : 0 ≤ kind) (k2 : kind ≤ 2) : okB kind y z = (decide (1 ≤ ftX kind y z) && decide (ftX kind y z ≤ y) && !(decide (0 < kind) && (ftX kind y z == y))) := by
  have hk : kind = 0 ∨ kind = 1 ∨ kind = 2 := by omega
  rcases hk with rfl | rfl | rfl
  · simp only [okB, ftX, if_true]
    rw [Bool.eq_iff_iff]; simp; omega
  · simp only [okB, ftX]
    rw [Bool.eq_iff_iff]; simp; omega
  · simp only [okB, ftX]
    rw [Bool.eq_iff_iff]; simp; omega
set_option maxRecDepth 100000 in
theorem les86 (y z : Int) (w : World) (y1 : 1 ≤ y) (yz : y < z) (z1 : z ≤ 41) :
    Calls Try.prog 86 #[.agg #[], .int .i64 y, .int .i64 z] w fun e w' => e = .returned (.tuple #[.int .i64 (ftX 0 y z), .bool (okB 0 y z)]) ∧ Below w.heap.size w w' := by
  go_enter Try.func86, Try.ntmps86
  go_wp2
  go_ret2
  exact ⟨rfl, (Below.refl _ _).alloc (Nat.le_refl _) _⟩
set_option maxRecDepth 100000 in
theorem les87 (y z : Int) (w : World) (y1 : 1 ≤ y) (yz : y < z) (z1 : z ≤ 41) :
    Calls Try.prog 87 #[.agg #[], .int .i64 y, .int .i64 z] w fun e w' => e = .returned (.tuple #[.int .i64 (ftX 1 y z), .bool (okB 1 y z)]) ∧ Below w.heap.size w w' := by
  go_enter Try.func87, Try.ntmps87
  go_wp2
  go_ret2
  exact ⟨rfl, (Below.refl _ _).alloc (Nat.le_refl _) _⟩
set_option maxRecDepth 100000 in
theorem les88 (y z : Int) (w : World) (y1 : 1 ≤ y) (yz : y < z) (z1 : z ≤ 41) :
    Calls Try.prog 88 #[.agg #[], .int .i64 y, .int .i64 z] w fun e w' => e = .returned (.tuple #[.int .i64 (ftX 2 y z), .bool (okB 2 y z)]) ∧ Below w.heap.size w w' := by
  have hx : ftX 2 y z = y - (z - y) := by unfold ftX; rw [if_pos rfl]; omega
  have HX := hidd hx
  clear hx
  go_enter Try.func88, Try.ntmps88
  go_wp2
  go_ret2
  exact ⟨by rw [HX.out]; rfl, (Below.refl _ _).alloc (Nat.le_refl _) _⟩
/-- The interface value of a kind. -/
def kindV (kind : Int) : Value := if kind = 0 then .iface 78 (.agg #[]) else if kind = 1 then .iface 79 (.agg #[]) else .iface 80 (.agg #[])
/-- What faultKindOf returns. -/
def kindO (kind : Int) : Value := if inB kind 0 2 = true then .tuple #[kindV kind, .bool true] else .tuple #[.nilIface, .bool false]
theorem kindO_no {kind : Int} (h : inB kind 0 2 = false) : kindO kind = .tuple #[.nilIface, .bool false] := by unfold kindO; rw [if_neg (by simp [h])]
theorem kindO_yes {kind : Int} (h : inB kind 0 2 = true) : kindO kind = .tuple #[kindV kind, .bool true] := by unfold kindO; rw [if_pos h]
set_option maxRecDepth 100000 in
theorem kind55 (kind : Int) (w : World) : Calls Try.prog 55 #[.int .i64 kind] w fun e w' => e = .returned (kindO kind) ∧ w = w' := by
  by_cases h0 : kind = 0
  · subst h0
    go_enter Try.func55, Try.ntmps55
    go_wp2
    go_ret2
    exact ⟨rfl, rfl⟩
  · by_cases h1 : kind = 1
    · subst h1
      go_enter Try.func55, Try.ntmps55
      go_wp2
      go_ret2
      exact ⟨rfl, rfl⟩
    · by_cases h2 : kind = 2
      · subst h2
        go_enter Try.func55, Try.ntmps55
        go_wp2
        go_ret2
        exact ⟨rfl, rfl⟩
      · have e0 : (kind == 0) = false := by rw [beq_eq_false_iff_ne]; exact h0
        have e1 : (kind == 1) = false := by rw [beq_eq_false_iff_ne]; exact h1
        have e2 : (kind == 2) = false := by rw [beq_eq_false_iff_ne]; exact h2
        have H := hidd (kindO_no (show inB kind 0 2 = false from inB_no (by omega)))
        clear h0 h1 h2
        go_enter Try.func55, Try.ntmps55
        go_wp2
        go_ret2
        exact ⟨by rw [H.out]; rfl, rfl⟩
end Go.Proofs.Ythmjmlmmbmdodaa
