/- What every law's proof wants of the program as a whole. -/
import Derived.Test.YtikcmgmgdbbcfaaRows
import Derived.Test.YtikcmgmgdbbcfaaOpen
import Derived.ChangeOld
namespace Go.Proofs.Ytikcmgmgdbbcfaa
open Go Go.RowKit Go.ChangeShapes Go.WideShapes Go.ChangeAt
theorem own : ownKnob Try.prog.godebug = none := by kernel_rfl
theorem laidOut : laidOutB Try.prog = true := by kernel_rfl
theorem read24 : Try.prog.readableRec 32 = true := by kernel_rfl
theorem read2 : Try.prog.readableRec 2 = true := by kernel_rfl
theorem read29 : Try.prog.readableRec 22 = true := by kernel_rfl
theorem row24 : 32 < Try.prog.types.size := of_decide_eq_true (by kernel_rfl)
theorem row2 : 2 < Try.prog.types.size := of_decide_eq_true (by kernel_rfl)
theorem row29 : 22 < Try.prog.types.size := of_decide_eq_true (by kernel_rfl)
set_option maxRecDepth 100000 in
/-- A number that came in. -/
theorem open_num {H : Type} {enc : TypeId × Value → H} {w : World} {base : Nat} {spare : Nat → Bool} {held : Bool} {v : Value} {d : DataW H} {ps : List MemPlace} {r : Reach} {b : Nat}
    (hv : Value.okWide Try.prog w r b 2 v) (h : DataW.Trod enc Try.prog w base spare held 2 v d ps) : ∃ n, v = .int .i64 n ∧ -9223372036854775808 ≤ n ∧ n ≤ 9223372036854775807 := by
  obtain ⟨n, rfl, _, _, wn⟩ := open_int Try.underlying2 hv h
  exact ⟨n, rfl, i64_bd wn⟩
theorem lt_of_trod {H : Type} {enc : TypeId × Value → H} {w : World} {spare : Nat → Bool} {held : Bool} {t : TypeId} {v : Value} {d : DataW H} {ps : List MemPlace}
    (h : DataW.Trod enc Try.prog w 0 spare held t v d ps) : ∀ x ∈ ps, x.block < w.heap.size := by
  obtain ⟨m, hm⟩ := h; exact DataW.trod_lt m _ _ _ hm
end Go.Proofs.Ytikcmgmgdbbcfaa
