/- DegreesOf: the program and its model. -/
import Derived.Test.YtpjegmmichjlbaaDeg
namespace Go.Proofs.Ytpjegmmichjlbaa
set_option linter.unusedVariables false
set_option linter.unusedSimpArgs false
open Go Go.RowKit Go.Shelf
def RelDg (bs : List Nat) (c : Int) (N : Nat) (C : Array Value) (w : World) (j : Nat) (v : Value) (wr : World) : Prop :=
  Blk wr w.heap.size C 29 ∧ wr.ownsRow (w.heap.size + 1) 2 1 v (dgL j (fun p => cnt (nbB bs p c) N)).length (icells (dgL j (fun p => cnt (nbB bs p c) N))) ∧ Below w.heap.size w wr
end Go.Proofs.Ytpjegmmichjlbaa
