/- ListOfCircular: its model. -/
import Derived.Test.YthmjmlmmbmdodaaLst
namespace Go.Proofs.Ythmjmlmmbmdodaa
set_option linter.unusedVariables false
set_option linter.unusedSimpArgs false
open Go Go.RowKit Go.Shelf
def RelLs (bs : List Nat) (C : Array Value) (w : World) (d : Nat) (v : Value) (wr : World) : Prop :=
  Blk wr w.heap.size C 35 ∧ wr.ownsRow (w.heap.size + 1) 2 1 v (fillA (fcol bs) d).length (icells (fillA (fcol bs) d)) ∧ Below w.heap.size w wr
/-- What l03List returns: a list and whether it tells the colouring. -/
def LB (w : World) (zs : List Int) (c : Bool) (e : Ending) (w' : World) : Prop :=
  ∃ a cap, e = .returned (.tuple #[.slice a zs.length cap, .bool c]) ∧ OwnL w' w.heap.size a zs ∧ Below w.heap.size w w'
end Go.Proofs.Ythmjmlmmbmdodaa
