/- mustBeWithin of one and of two numbers, in blocks of their own. -/
import Derived.Test.YtlnelmickndoaaaDoorEntb
namespace Go.Proofs.YtlnelmickndoaaaDoor
set_option linter.unusedVariables false
set_option linter.unusedSimpArgs false
open Go Go.RowKit
theorem slI2 {w : World} {b : Nat} {x y : Int} (h : Blk w b #[.int .i64 x, .int .i64 y] 2) : SlI w (some ⟨b, 0, none⟩) [x, y] := by
  refine .inr ⟨b, 0, rfl, fun j hj => ?_⟩
  have hj2 : j < 2 := hj
  match j, hj2 with
  | 0, _ => exact h.cell rfl
  | 1, _ => exact h.cell rfl
theorem slI1 {w : World} {b : Nat} {x : Int} (h : Blk w b #[.int .i64 x] 2) : SlI w (some ⟨b, 0, none⟩) [x] := by
  refine .inr ⟨b, 0, rfl, fun j hj => ?_⟩
  have hj2 : j < 1 := hj
  match j, hj2 with
  | 0, _ => exact h.cell rfl
theorem inAll2 (lo hi x y : Int) : inAll lo hi [x, y] = (inB x lo hi && inB y lo hi) := by simp [inAll]
theorem inAll1 (lo hi x : Int) : inAll lo hi [x] = inB x lo hi := by simp [inAll]
theorem must2 (lo hi x y : Int) (b : Nat) (e0 : Addr) (w : World) (hb : Blk w b #[.int .i64 x, .int .i64 y] 2) (hE : Er w e0) :
    Calls Tryd.prog 12 #[.int .i64 lo, .int .i64 hi, .slice (some ⟨b, 0, none⟩) 2 2] w fun e w' => e = (if inB x lo hi && inB y lo hi then .returned (.tuple #[]) else .panicked (pan e0)) ∧ w = w' := by
  have h := must33 lo hi [x, y] (some ⟨b, 0, none⟩) 2 e0 w (slI2 hb) (by simp) hE
  rw [inAll2] at h
  exact h
theorem must1 (lo hi x : Int) (b : Nat) (e0 : Addr) (w : World) (hb : Blk w b #[.int .i64 x] 2) (hE : Er w e0) :
    Calls Tryd.prog 12 #[.int .i64 lo, .int .i64 hi, .slice (some ⟨b, 0, none⟩) 1 1] w fun e w' => e = (if inB x lo hi then .returned (.tuple #[]) else .panicked (pan e0)) ∧ w = w' := by
  have h := must33 lo hi [x] (some ⟨b, 0, none⟩) 1 e0 w (slI1 hb) (by simp) hE
  rw [inAll1] at h
  exact h
/-- A cell that was there before a block was laid. -/
theorem cell_past {w : World} {p : Addr} {v : Value} (h : w.cell? p = some v) (o : Obj) : (w.alloc o).cell? p = some v := by
  have hl := World.block_lt_of_cell? w _ h
  rw [((Below.refl w.heap.size w).alloc (Nat.le_refl _) o).cell hl]; exact h
theorem Er.alloc {w : World} {a : Addr} (h : Er w a) (o : Obj) : Er (w.alloc o) a := cell_past h o
end Go.Proofs.YtlnelmickndoaaaDoor
