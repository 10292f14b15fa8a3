/- What is kept when a law stores a result and goes on. -/
import Derived.Test.YtikcmgmgdbbcfaaLaws
import Derived.Test.YtikcmgmgdbbcfaaPutPoint
namespace Go.Proofs.Ytikcmgmgdbbcfaa
set_option linter.unusedVariables false
set_option linter.unusedSimpArgs false
open Go Go.RowKit Go.ChangeShapes Go.WideShapes Go.ChangeAt
/-- A variable of its own for a colouring: what is known behind the store. -/
theorem kept_row {w w2 : World} {C D : Array Value} {b : Nat} {t : TypeId} (g : Blk w2 b C t) (h : Below w.heap.size w w2) (Z : Array Value) :
    Blk ((w2.alloc (.cells Z 25)).setRow w2.heap.size D) b C t ∧ Blk ((w2.alloc (.cells Z 25)).setRow w2.heap.size D) w2.heap.size D 25 ∧ Below w.heap.size w ((w2.alloc (.cells Z 25)).setRow w2.heap.size D) :=
  ⟨(g.alloc _).rowOther _ _ (by have := g.lt; omega), (Blk.new _ _ _ _ rfl).rowSame _, below_setRow (h.alloc h.size _) h.size _⟩
theorem copy19b (zs : List Int) (a : Option Addr) (cap : Nat) (w : World) (b : Nat) (hb : b = w.heap.size) (hs : SlI w a zs) (hl : zs.length ≤ 1048576) :
    Calls Try.prog 15 #[.slice a zs.length cap] w fun e w' => e = .returned (.slice (some ⟨b, 0, none⟩) zs.length zs.length) ∧ Blk w' b (icells zs).toArray 2 ∧ Below w.heap.size w w' := by
  subst hb; exact copy19 zs a cap w hs hl
theorem kept_more {w2 : World} {C D : Array Value} {b : Nat} {t : TypeId} (g : Blk w2 b C t) (Z : Array Value) : Blk ((w2.alloc (.cells Z 25)).setRow w2.heap.size D) b C t :=
  (g.alloc _).rowOther _ _ (by have := g.lt; omega)
end Go.Proofs.Ytikcmgmgdbbcfaa
