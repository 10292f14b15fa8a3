/- FirstExtension: the program. -/
import Derived.Test.YtckffliiidgilaaDoorFxq
namespace Go.Proofs.YtckffliiidgilaaDoor
set_option linter.unusedVariables false
set_option linter.unusedSimpArgs false
open Go Go.RowKit Go.Shelf
attribute [local go_sem] Oper.semAt_some
theorem Below.away {B C D : Nat} {w A A' : World} (h : Below B w A) (k : Away C D A A') (hB : B ≤ C) (hw : B ≤ w.heap.size) : Below B w A' :=
  ⟨k.1.trans h.os, k.2.1.trans h.tape, k.2.2.1.trans h.output, Nat.le_trans h.size k.2.2.2.1, fun i hi => (k.2.2.2.2 i (Nat.lt_of_lt_of_le (Nat.lt_of_lt_of_le hi hw) h.size) (.inl (Nat.lt_of_lt_of_le hi hB))).trans (h.block i hi)⟩
theorem blk_put {A : World} {b l : Nat} {C : Array Value} {t : TypeId} {o : Obj} (h : Blk A b C t) (hl : A.heap[l]? = some o) (ho : o.isCells = false) (o' : Obj) : Blk (A.putObj l o') b C t :=
  (World.putObj_heap_other (fun e => by subst e; rw [show A.heap[b]? = _ from h] at hl; cases hl; cases ho)).trans h
theorem at55 (n k : Int) (bs : List Nat) (hb : Bys bs) (a : Option Addr) (K cap : Nat) (C : Array Value) (hC : C = (scl n k bs a K cap).toArray) (w : World) :
    Calls Tryd.prog 55 #[.agg C] w fun e w' => e = .returned (.func (.func 84) #[] #[.pointer (some ⟨w.heap.size, 0, none⟩)]) ∧ Blk w' w.heap.size C 56 ∧ Below w.heap.size w w' := by
  have hmf : ∀ (fn : Fn) (first cap : Array Value) (w : World), (Instr.makeFunc fn first cap).run Tryd.prog w = .ok (.func fn first cap) w := fun _ _ _ _ => rfl
  have hbb := hidd ((Below.refl w.heap.size w).alloc (Nat.le_refl _) (.cells C 56))
  have h1 := hidd (Blk.new w C 56 _ rfl)
  clear hC
  go_enter Tryd.func55, Tryd.ntmps55
  go_wp2_with fail
  go_ret
  exact ⟨rfl, h1.out, hbb.out⟩
end Go.Proofs.YtckffliiidgilaaDoor
