/- l02Rows, l02Count: the numbers of cliques, by the model. -/
import Derived.Test.YtckffliiidgilaaDoorLst
import Derived.Test.YtckffliiidgilaaDoorGf
namespace Go.Proofs.YtckffliiidgilaaDoor
set_option linter.unusedVariables false
set_option linter.unusedSimpArgs false
open Go Go.RowKit Go.Shelf
/-- The rows of a colour: the neighbours of each point, as digits. -/
def rowF (N : Nat) (bs : List Nat) (c : Int) (i : Nat) : Int := ((arK (nbB bs (i : Int) c) N : Nat) : Int)
def RelRw (N : Nat) (bs : List Nat) (c : Int) (C : Array Value) (w : World) (d : Nat) (v : Value) (wr : World) : Prop :=
  Blk wr w.heap.size C 28 ∧ wr.ownsRow (w.heap.size + 1) 2 1 v (fillA (rowF N bs c) d).length (icells (fillA (rowF N bs c) d)) ∧ Below w.heap.size w wr
end Go.Proofs.YtckffliiidgilaaDoor
