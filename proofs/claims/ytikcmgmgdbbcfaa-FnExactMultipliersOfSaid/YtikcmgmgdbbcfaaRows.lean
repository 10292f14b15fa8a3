/-
  No cell of these rows narrows 'for every input' (looked for: loops, veiled, ifaces, maps, wideKeys, modest, calm, conditions, laid).
  DERIVED. THE GIVEN ROWS OF THIS SEAT. 11 by the template 'for every input the law returns true; each argument reads behind the call as it read before'; 0 by the template 'total and deterministic' (their statements: YtikcmgmgdbbcfaaTotals.lean).
  GIVEN WITH THE SEED: the statements are not yours to turn. If you find one false, say at which input.
  Laid BY PROGRAM, IN A SANDBOX (cutbox-rows.mjs): the forced cells as the released guide's own fill.sh prints them over the translation eef8479199569559… (all of the seat's roots in one cut). By AI agents, Wed Nov 11 2026. No macro, syntax, notation, axiom, sorry.
-/
import Derived.Test.YtikcmgmgdbbcfaaChecked
import GoSem.Claim
import GoSem.ClaimJoined
import GoSem.ClaimMapViews
import Derived.JoinedTies
import Derived.KernelRfl
namespace Go.Proofs.Ytikcmgmgdbbcfaa
/- THE CELL 'sum', in the pinned program and in every row, IS THE sha256 OF THE DUMP (.gsa) THAT YtikcmgmgdbbcfaaProg.lean LOADS. Nothing in Lean hashes anything: it is a label: what it is worth is what the hold of that sum in a sandbox is worth. -/
noncomputable def Try.pinned : Pinned := { name := "ytikcmgmgdbbcfaa", sum := "eef8479199569559f46fcce82b61b8a84f31ccd8781b6589f75c3f0eeb709186", checked := Try.checked }
namespace Rows
def none {H : Type} : Left H := { results := [], args := [] }

/-- 'laws.FnExactCircularOf': WHATEVER THE INPUT: true; the input reads as it did. -/
def fnExactCircularOfSpec : ChangeSpec := { name := "fnExactCircularOf", fn := fun _ => fun
  | [d1, d2, d3] => { results := [.lit (.bool true)], args := [d1, d2, d3] }
  | _ => none }
def fnExactCircularOfRow : OpenClaim := { program := "ytikcmgmgdbbcfaa", sum := "eef8479199569559f46fcce82b61b8a84f31ccd8781b6589f75c3f0eeb709186", func := "loop.example/g01362/laws.FnExactCircularOf", spec := "fnExactCircularOf", unfollowed := true, recurses := true, apart := false }
def FnExactCircularOfSaid : Prop := fnExactCircularOfRow.holds Try.pinned (OpenSpec.ofChange fnExactCircularOfSpec)

/-- ITS FALSE NEIGHBOUR: 'it returns false'. Refute it at one input. -/
def fnExactCircularOfWrong : ChangeSpec := { name := "fnExactCircularOf", fn := fun _ => fun
  | [d1, d2, d3] => { results := [.lit (.bool false)], args := [d1, d2, d3] }
  | _ => none }
def FnExactCircularOfWrongFalsely : Prop := fnExactCircularOfRow.holds Try.pinned (OpenSpec.ofChange fnExactCircularOfWrong)

/-- 'laws.FnExactDigitalOf': WHATEVER THE INPUT: true; the input reads as it did. -/
def fnExactDigitalOfSpec : ChangeSpec := { name := "fnExactDigitalOf", fn := fun _ => fun
  | [d1, d2, d3] => { results := [.lit (.bool true)], args := [d1, d2, d3] }
  | _ => none }
def fnExactDigitalOfRow : OpenClaim := { program := "ytikcmgmgdbbcfaa", sum := "eef8479199569559f46fcce82b61b8a84f31ccd8781b6589f75c3f0eeb709186", func := "loop.example/g01362/laws.FnExactDigitalOf", spec := "fnExactDigitalOf", unfollowed := true, recurses := true, apart := false }
def FnExactDigitalOfSaid : Prop := fnExactDigitalOfRow.holds Try.pinned (OpenSpec.ofChange fnExactDigitalOfSpec)

/-- ITS FALSE NEIGHBOUR: 'it returns false'. Refute it at one input. -/
def fnExactDigitalOfWrong : ChangeSpec := { name := "fnExactDigitalOf", fn := fun _ => fun
  | [d1, d2, d3] => { results := [.lit (.bool false)], args := [d1, d2, d3] }
  | _ => none }
def FnExactDigitalOfWrongFalsely : Prop := fnExactDigitalOfRow.holds Try.pinned (OpenSpec.ofChange fnExactDigitalOfWrong)

/-- 'laws.FnExactTurnColouring': WHATEVER THE INPUT: true; the input reads as it did. -/
def fnExactTurnColouringSpec : ChangeSpec := { name := "fnExactTurnColouring", fn := fun _ => fun
  | [d1, d2] => { results := [.lit (.bool true)], args := [d1, d2] }
  | _ => none }
def fnExactTurnColouringRow : OpenClaim := { program := "ytikcmgmgdbbcfaa", sum := "eef8479199569559f46fcce82b61b8a84f31ccd8781b6589f75c3f0eeb709186", func := "loop.example/g01362/laws.FnExactTurnColouring", spec := "fnExactTurnColouring", unfollowed := true, recurses := true, apart := false }
def FnExactTurnColouringSaid : Prop := fnExactTurnColouringRow.holds Try.pinned (OpenSpec.ofChange fnExactTurnColouringSpec)

/-- ITS FALSE NEIGHBOUR: 'it returns false'. Refute it at one input. -/
def fnExactTurnColouringWrong : ChangeSpec := { name := "fnExactTurnColouring", fn := fun _ => fun
  | [d1, d2] => { results := [.lit (.bool false)], args := [d1, d2] }
  | _ => none }
def FnExactTurnColouringWrongFalsely : Prop := fnExactTurnColouringRow.holds Try.pinned (OpenSpec.ofChange fnExactTurnColouringWrong)

/-- 'laws.FnExactIsBalanced': WHATEVER THE INPUT: true; the input reads as it did. -/
def fnExactIsBalancedSpec : ChangeSpec := { name := "fnExactIsBalanced", fn := fun _ => fun
  | [d] => { results := [.lit (.bool true)], args := [d] }
  | _ => none }
def fnExactIsBalancedRow : OpenClaim := { program := "ytikcmgmgdbbcfaa", sum := "eef8479199569559f46fcce82b61b8a84f31ccd8781b6589f75c3f0eeb709186", func := "loop.example/g01362/laws.FnExactIsBalanced", spec := "fnExactIsBalanced", unfollowed := true, recurses := true, apart := false }
def FnExactIsBalancedSaid : Prop := fnExactIsBalancedRow.holds Try.pinned (OpenSpec.ofChange fnExactIsBalancedSpec)

/-- ITS FALSE NEIGHBOUR: 'it returns false'. Refute it at one input. -/
def fnExactIsBalancedWrong : ChangeSpec := { name := "fnExactIsBalanced", fn := fun _ => fun
  | [d] => { results := [.lit (.bool false)], args := [d] }
  | _ => none }
def FnExactIsBalancedWrongFalsely : Prop := fnExactIsBalancedRow.holds Try.pinned (OpenSpec.ofChange fnExactIsBalancedWrong)

/-- 'laws.FnExactBySquares': WHATEVER THE INPUT: true; the input reads as it did. -/
def fnExactBySquaresSpec : ChangeSpec := { name := "fnExactBySquares", fn := fun _ => fun
  | [d] => { results := [.lit (.bool true)], args := [d] }
  | _ => none }
def fnExactBySquaresRow : OpenClaim := { program := "ytikcmgmgdbbcfaa", sum := "eef8479199569559f46fcce82b61b8a84f31ccd8781b6589f75c3f0eeb709186", func := "loop.example/g01362/laws.FnExactBySquares", spec := "fnExactBySquares", unfollowed := true, recurses := true, apart := false }
def FnExactBySquaresSaid : Prop := fnExactBySquaresRow.holds Try.pinned (OpenSpec.ofChange fnExactBySquaresSpec)

/-- ITS FALSE NEIGHBOUR: 'it returns false'. Refute it at one input. -/
def fnExactBySquaresWrong : ChangeSpec := { name := "fnExactBySquares", fn := fun _ => fun
  | [d] => { results := [.lit (.bool false)], args := [d] }
  | _ => none }
def FnExactBySquaresWrongFalsely : Prop := fnExactBySquaresRow.holds Try.pinned (OpenSpec.ofChange fnExactBySquaresWrong)

/-- 'laws.FnExactListOfCircular': WHATEVER THE INPUT: true; the input reads as it did. -/
def fnExactListOfCircularSpec : ChangeSpec := { name := "fnExactListOfCircular", fn := fun _ => fun
  | [d] => { results := [.lit (.bool true)], args := [d] }
  | _ => none }
def fnExactListOfCircularRow : OpenClaim := { program := "ytikcmgmgdbbcfaa", sum := "eef8479199569559f46fcce82b61b8a84f31ccd8781b6589f75c3f0eeb709186", func := "loop.example/g01362/laws.FnExactListOfCircular", spec := "fnExactListOfCircular", unfollowed := true, recurses := true, apart := false }
def FnExactListOfCircularSaid : Prop := fnExactListOfCircularRow.holds Try.pinned (OpenSpec.ofChange fnExactListOfCircularSpec)

/-- ITS FALSE NEIGHBOUR: 'it returns false'. Refute it at one input. -/
def fnExactListOfCircularWrong : ChangeSpec := { name := "fnExactListOfCircular", fn := fun _ => fun
  | [d] => { results := [.lit (.bool false)], args := [d] }
  | _ => none }
def FnExactListOfCircularWrongFalsely : Prop := fnExactListOfCircularRow.holds Try.pinned (OpenSpec.ofChange fnExactListOfCircularWrong)

/-- 'laws.FnExactListOfDigital': WHATEVER THE INPUT: true; the input reads as it did. -/
def fnExactListOfDigitalSpec : ChangeSpec := { name := "fnExactListOfDigital", fn := fun _ => fun
  | [d] => { results := [.lit (.bool true)], args := [d] }
  | _ => none }
def fnExactListOfDigitalRow : OpenClaim := { program := "ytikcmgmgdbbcfaa", sum := "eef8479199569559f46fcce82b61b8a84f31ccd8781b6589f75c3f0eeb709186", func := "loop.example/g01362/laws.FnExactListOfDigital", spec := "fnExactListOfDigital", unfollowed := true, recurses := true, apart := false }
def FnExactListOfDigitalSaid : Prop := fnExactListOfDigitalRow.holds Try.pinned (OpenSpec.ofChange fnExactListOfDigitalSpec)

/-- ITS FALSE NEIGHBOUR: 'it returns false'. Refute it at one input. -/
def fnExactListOfDigitalWrong : ChangeSpec := { name := "fnExactListOfDigital", fn := fun _ => fun
  | [d] => { results := [.lit (.bool false)], args := [d] }
  | _ => none }
def FnExactListOfDigitalWrongFalsely : Prop := fnExactListOfDigitalRow.holds Try.pinned (OpenSpec.ofChange fnExactListOfDigitalWrong)

/-- 'laws.FnExactMultipliersOf': WHATEVER THE INPUT: true; the input reads as it did. -/
def fnExactMultipliersOfSpec : ChangeSpec := { name := "fnExactMultipliersOf", fn := fun _ => fun
  | [d] => { results := [.lit (.bool true)], args := [d] }
  | _ => none }
def fnExactMultipliersOfRow : OpenClaim := { program := "ytikcmgmgdbbcfaa", sum := "eef8479199569559f46fcce82b61b8a84f31ccd8781b6589f75c3f0eeb709186", func := "loop.example/g01362/laws.FnExactMultipliersOf", spec := "fnExactMultipliersOf", unfollowed := true, recurses := true, apart := false }
def FnExactMultipliersOfSaid : Prop := fnExactMultipliersOfRow.holds Try.pinned (OpenSpec.ofChange fnExactMultipliersOfSpec)

/-- ITS FALSE NEIGHBOUR: 'it returns false'. Refute it at one input. -/
def fnExactMultipliersOfWrong : ChangeSpec := { name := "fnExactMultipliersOf", fn := fun _ => fun
  | [d] => { results := [.lit (.bool false)], args := [d] }
  | _ => none }
def FnExactMultipliersOfWrongFalsely : Prop := fnExactMultipliersOfRow.holds Try.pinned (OpenSpec.ofChange fnExactMultipliersOfWrong)

/-- 'laws.FnExactCountTriangles': WHATEVER THE INPUT: true; the input reads as it did. -/
def fnExactCountTrianglesSpec : ChangeSpec := { name := "fnExactCountTriangles", fn := fun _ => fun
  | [d] => { results := [.lit (.bool true)], args := [d] }
  | _ => none }
def fnExactCountTrianglesRow : OpenClaim := { program := "ytikcmgmgdbbcfaa", sum := "eef8479199569559f46fcce82b61b8a84f31ccd8781b6589f75c3f0eeb709186", func := "loop.example/g01362/laws.FnExactCountTriangles", spec := "fnExactCountTriangles", unfollowed := true, recurses := true, apart := false }
def FnExactCountTrianglesSaid : Prop := fnExactCountTrianglesRow.holds Try.pinned (OpenSpec.ofChange fnExactCountTrianglesSpec)

/-- ITS FALSE NEIGHBOUR: 'it returns false'. Refute it at one input. -/
def fnExactCountTrianglesWrong : ChangeSpec := { name := "fnExactCountTriangles", fn := fun _ => fun
  | [d] => { results := [.lit (.bool false)], args := [d] }
  | _ => none }
def FnExactCountTrianglesWrongFalsely : Prop := fnExactCountTrianglesRow.holds Try.pinned (OpenSpec.ofChange fnExactCountTrianglesWrong)

/-- 'laws.FnExactAvoidsSizes': WHATEVER THE INPUT: true; the input reads as it did. -/
def fnExactAvoidsSizesSpec : ChangeSpec := { name := "fnExactAvoidsSizes", fn := fun _ => fun
  | [d1, d2] => { results := [.lit (.bool true)], args := [d1, d2] }
  | _ => none }
def fnExactAvoidsSizesRow : OpenClaim := { program := "ytikcmgmgdbbcfaa", sum := "eef8479199569559f46fcce82b61b8a84f31ccd8781b6589f75c3f0eeb709186", func := "loop.example/g01362/laws.FnExactAvoidsSizes", spec := "fnExactAvoidsSizes", unfollowed := true, recurses := true, apart := false }
def FnExactAvoidsSizesSaid : Prop := fnExactAvoidsSizesRow.holds Try.pinned (OpenSpec.ofChange fnExactAvoidsSizesSpec)

/-- ITS FALSE NEIGHBOUR: 'it returns false'. Refute it at one input. -/
def fnExactAvoidsSizesWrong : ChangeSpec := { name := "fnExactAvoidsSizes", fn := fun _ => fun
  | [d1, d2] => { results := [.lit (.bool false)], args := [d1, d2] }
  | _ => none }
def FnExactAvoidsSizesWrongFalsely : Prop := fnExactAvoidsSizesRow.holds Try.pinned (OpenSpec.ofChange fnExactAvoidsSizesWrong)

/-- 'laws.FnExactCliqueNumbers': WHATEVER THE INPUT: true; the input reads as it did. -/
def fnExactCliqueNumbersSpec : ChangeSpec := { name := "fnExactCliqueNumbers", fn := fun _ => fun
  | [d] => { results := [.lit (.bool true)], args := [d] }
  | _ => none }
def fnExactCliqueNumbersRow : OpenClaim := { program := "ytikcmgmgdbbcfaa", sum := "eef8479199569559f46fcce82b61b8a84f31ccd8781b6589f75c3f0eeb709186", func := "loop.example/g01362/laws.FnExactCliqueNumbers", spec := "fnExactCliqueNumbers", unfollowed := true, recurses := true, apart := false }
def FnExactCliqueNumbersSaid : Prop := fnExactCliqueNumbersRow.holds Try.pinned (OpenSpec.ofChange fnExactCliqueNumbersSpec)

/-- ITS FALSE NEIGHBOUR: 'it returns false'. Refute it at one input. -/
def fnExactCliqueNumbersWrong : ChangeSpec := { name := "fnExactCliqueNumbers", fn := fun _ => fun
  | [d] => { results := [.lit (.bool false)], args := [d] }
  | _ => none }
def FnExactCliqueNumbersWrongFalsely : Prop := fnExactCliqueNumbersRow.holds Try.pinned (OpenSpec.ofChange fnExactCliqueNumbersWrong)

/- THE SECOND FORM. 'bulk': how many values and letters a reading holds, each counted each time it is reached (what is shared counts as often as it is met; a slice's spare places count too). A statement '..UptoSaid' is the law's where the arguments, and the package variables that the reading takes, are together of bulk at most 1048576: NARROWER than '..Said'. Prove '..Said' where nothing that the law and all that it calls make is longer than what came in: it says more and counts as full. Else prove '..UptoSaid'. A law counts once. -/
mutual
def uptoBulk {H : Type} : DataW H → Nat
  | .lit (.string bytes) => bytes.length + 1
  | .lit _ => 1
  | .nil => 1
  | .ptr d => uptoBulk d + 1
  | .slice elems spare => uptoBulkAll elems + uptoBulkAll spare + 1
  | .agg parts => uptoBulkAll parts + 1
  | .iface _ d => uptoBulk d + 1
  | .map entries => uptoBulkEntries entries + 1
  | .held _ => 1
def uptoBulkAll {H : Type} : List (DataW H) → Nat
  | [] => 0
  | d :: r => uptoBulk d + uptoBulkAll r
def uptoBulkEntries {H : Type} : List (Lit × DataW H) → Nat
  | [] => 0
  | x :: r => uptoBulkEntry x + uptoBulkEntries r
def uptoBulkEntry {H : Type} : Lit × DataW H → Nat
  | (.string bytes, d) => bytes.length + uptoBulk d + 1
  | (_, d) => uptoBulk d + 1
 end
def uptoSmall : (H : Type) → List (DataW H) → Bool := fun _ ds => decide (uptoBulkAll ds ≤ 1048576)
def OpenSpec.upto (s : _root_.Go.ChangeSpec) : _root_.Go.OpenSpec := { _root_.Go.OpenSpec.ofChange s with cond := some uptoSmall }

/-- 'laws.FnExactCircularOf', WHERE WHAT IT READS IS OF BULK AT MOST 1048576: true; the input reads as it did. -/
def fnExactCircularOfUptoRow : OpenClaim := { program := "ytikcmgmgdbbcfaa", sum := "eef8479199569559f46fcce82b61b8a84f31ccd8781b6589f75c3f0eeb709186", func := "loop.example/g01362/laws.FnExactCircularOf", spec := "fnExactCircularOf", unfollowed := true, recurses := true, apart := false, narrowed := true }
def FnExactCircularOfUptoSaid : Prop := fnExactCircularOfUptoRow.holds Try.pinned (OpenSpec.upto fnExactCircularOfSpec)

/-- 'laws.FnExactDigitalOf', WHERE WHAT IT READS IS OF BULK AT MOST 1048576: true; the input reads as it did. -/
def fnExactDigitalOfUptoRow : OpenClaim := { program := "ytikcmgmgdbbcfaa", sum := "eef8479199569559f46fcce82b61b8a84f31ccd8781b6589f75c3f0eeb709186", func := "loop.example/g01362/laws.FnExactDigitalOf", spec := "fnExactDigitalOf", unfollowed := true, recurses := true, apart := false, narrowed := true }
def FnExactDigitalOfUptoSaid : Prop := fnExactDigitalOfUptoRow.holds Try.pinned (OpenSpec.upto fnExactDigitalOfSpec)

/-- 'laws.FnExactTurnColouring', WHERE WHAT IT READS IS OF BULK AT MOST 1048576: true; the input reads as it did. -/
def fnExactTurnColouringUptoRow : OpenClaim := { program := "ytikcmgmgdbbcfaa", sum := "eef8479199569559f46fcce82b61b8a84f31ccd8781b6589f75c3f0eeb709186", func := "loop.example/g01362/laws.FnExactTurnColouring", spec := "fnExactTurnColouring", unfollowed := true, recurses := true, apart := false, narrowed := true }
def FnExactTurnColouringUptoSaid : Prop := fnExactTurnColouringUptoRow.holds Try.pinned (OpenSpec.upto fnExactTurnColouringSpec)

/-- 'laws.FnExactIsBalanced', WHERE WHAT IT READS IS OF BULK AT MOST 1048576: true; the input reads as it did. -/
def fnExactIsBalancedUptoRow : OpenClaim := { program := "ytikcmgmgdbbcfaa", sum := "eef8479199569559f46fcce82b61b8a84f31ccd8781b6589f75c3f0eeb709186", func := "loop.example/g01362/laws.FnExactIsBalanced", spec := "fnExactIsBalanced", unfollowed := true, recurses := true, apart := false, narrowed := true }
def FnExactIsBalancedUptoSaid : Prop := fnExactIsBalancedUptoRow.holds Try.pinned (OpenSpec.upto fnExactIsBalancedSpec)

/-- 'laws.FnExactBySquares', WHERE WHAT IT READS IS OF BULK AT MOST 1048576: true; the input reads as it did. -/
def fnExactBySquaresUptoRow : OpenClaim := { program := "ytikcmgmgdbbcfaa", sum := "eef8479199569559f46fcce82b61b8a84f31ccd8781b6589f75c3f0eeb709186", func := "loop.example/g01362/laws.FnExactBySquares", spec := "fnExactBySquares", unfollowed := true, recurses := true, apart := false, narrowed := true }
def FnExactBySquaresUptoSaid : Prop := fnExactBySquaresUptoRow.holds Try.pinned (OpenSpec.upto fnExactBySquaresSpec)

/-- 'laws.FnExactListOfCircular', WHERE WHAT IT READS IS OF BULK AT MOST 1048576: true; the input reads as it did. -/
def fnExactListOfCircularUptoRow : OpenClaim := { program := "ytikcmgmgdbbcfaa", sum := "eef8479199569559f46fcce82b61b8a84f31ccd8781b6589f75c3f0eeb709186", func := "loop.example/g01362/laws.FnExactListOfCircular", spec := "fnExactListOfCircular", unfollowed := true, recurses := true, apart := false, narrowed := true }
def FnExactListOfCircularUptoSaid : Prop := fnExactListOfCircularUptoRow.holds Try.pinned (OpenSpec.upto fnExactListOfCircularSpec)

/-- 'laws.FnExactListOfDigital', WHERE WHAT IT READS IS OF BULK AT MOST 1048576: true; the input reads as it did. -/
def fnExactListOfDigitalUptoRow : OpenClaim := { program := "ytikcmgmgdbbcfaa", sum := "eef8479199569559f46fcce82b61b8a84f31ccd8781b6589f75c3f0eeb709186", func := "loop.example/g01362/laws.FnExactListOfDigital", spec := "fnExactListOfDigital", unfollowed := true, recurses := true, apart := false, narrowed := true }
def FnExactListOfDigitalUptoSaid : Prop := fnExactListOfDigitalUptoRow.holds Try.pinned (OpenSpec.upto fnExactListOfDigitalSpec)

/-- 'laws.FnExactMultipliersOf', WHERE WHAT IT READS IS OF BULK AT MOST 1048576: true; the input reads as it did. -/
def fnExactMultipliersOfUptoRow : OpenClaim := { program := "ytikcmgmgdbbcfaa", sum := "eef8479199569559f46fcce82b61b8a84f31ccd8781b6589f75c3f0eeb709186", func := "loop.example/g01362/laws.FnExactMultipliersOf", spec := "fnExactMultipliersOf", unfollowed := true, recurses := true, apart := false, narrowed := true }
def FnExactMultipliersOfUptoSaid : Prop := fnExactMultipliersOfUptoRow.holds Try.pinned (OpenSpec.upto fnExactMultipliersOfSpec)

/-- 'laws.FnExactCountTriangles', WHERE WHAT IT READS IS OF BULK AT MOST 1048576: true; the input reads as it did. -/
def fnExactCountTrianglesUptoRow : OpenClaim := { program := "ytikcmgmgdbbcfaa", sum := "eef8479199569559f46fcce82b61b8a84f31ccd8781b6589f75c3f0eeb709186", func := "loop.example/g01362/laws.FnExactCountTriangles", spec := "fnExactCountTriangles", unfollowed := true, recurses := true, apart := false, narrowed := true }
def FnExactCountTrianglesUptoSaid : Prop := fnExactCountTrianglesUptoRow.holds Try.pinned (OpenSpec.upto fnExactCountTrianglesSpec)

/-- 'laws.FnExactAvoidsSizes', WHERE WHAT IT READS IS OF BULK AT MOST 1048576: true; the input reads as it did. -/
def fnExactAvoidsSizesUptoRow : OpenClaim := { program := "ytikcmgmgdbbcfaa", sum := "eef8479199569559f46fcce82b61b8a84f31ccd8781b6589f75c3f0eeb709186", func := "loop.example/g01362/laws.FnExactAvoidsSizes", spec := "fnExactAvoidsSizes", unfollowed := true, recurses := true, apart := false, narrowed := true }
def FnExactAvoidsSizesUptoSaid : Prop := fnExactAvoidsSizesUptoRow.holds Try.pinned (OpenSpec.upto fnExactAvoidsSizesSpec)

/-- 'laws.FnExactCliqueNumbers', WHERE WHAT IT READS IS OF BULK AT MOST 1048576: true; the input reads as it did. -/
def fnExactCliqueNumbersUptoRow : OpenClaim := { program := "ytikcmgmgdbbcfaa", sum := "eef8479199569559f46fcce82b61b8a84f31ccd8781b6589f75c3f0eeb709186", func := "loop.example/g01362/laws.FnExactCliqueNumbers", spec := "fnExactCliqueNumbers", unfollowed := true, recurses := true, apart := false, narrowed := true }
def FnExactCliqueNumbersUptoSaid : Prop := fnExactCliqueNumbersUptoRow.holds Try.pinned (OpenSpec.upto fnExactCliqueNumbersSpec)

end Rows
end Go.Proofs.Ytikcmgmgdbbcfaa
