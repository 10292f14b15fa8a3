/- TakePoint: the program. -/
import Derived.Test.YtikcmgmgdbbcfaaTake
namespace Go.Proofs.Ytikcmgmgdbbcfaa
set_option linter.unusedVariables false
set_option linter.unusedSimpArgs false
open Go Go.RowKit
def RelT (p : Nat → Bool) (C Z : Array Value) (w : World) (j : Nat) (v : Value) (wr : World) : Prop :=
  Blk wr w.heap.size C 25 ∧ Blk wr (w.heap.size + 1) Z 25 ∧ wr.ownsRow (w.heap.size + 1 + 1) 2 1 v (nbK p j).length (icells (nbK p j)) ∧ Below w.heap.size w wr
theorem RelT.skip {p : Nat → Bool} {C Z : Array Value} {w wr w1 : World} {j : Nat} {v : Value} (h : RelT p C Z w j v wr) (hb : Below wr.heap.size wr w1) (hp : p j = false) : RelT p C Z w (j + 1) v w1 :=
  ⟨h.1.below hb h.1.lt, h.2.1.below hb h.2.1.lt, by rw [nbK, hp]; exact own_below h.2.2.1 hb (Nat.le_refl _), h.2.2.2.trans (hb.mono h.2.2.2.size)⟩
end Go.Proofs.Ytikcmgmgdbbcfaa
