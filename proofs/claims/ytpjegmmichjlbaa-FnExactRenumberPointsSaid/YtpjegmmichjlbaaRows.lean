/-
  No cell of these rows narrows 'for every input' (looked for: loops, veiled, ifaces, maps, wideKeys, modest, calm, conditions, laid).
  DERIVED. THE GIVEN ROWS OF THIS SEAT. 10 by the template 'for every input the law returns true; each argument reads behind the call as it read before'; 0 by the template 'total and deterministic' (their statements: YtpjegmmichjlbaaTotals.lean).
  GIVEN WITH THE SEED: the statements are not yours to turn. If you find one false, say at which input.
  Laid BY PROGRAM, IN A SANDBOX (cutbox-rows.mjs): the forced cells as the released guide's own fill.sh prints them over the translation 57858b24dc6bb372… (all of the seat's roots in one cut). By AI agents, Wed Nov 11 2026. No macro, syntax, notation, axiom, sorry.
-/
import Derived.Test.YtpjegmmichjlbaaChecked
import GoSem.Claim
import GoSem.ClaimJoined
import GoSem.ClaimMapViews
import Derived.JoinedTies
import Derived.KernelRfl
namespace Go.Proofs.Ytpjegmmichjlbaa
/- THE CELL 'sum', in the pinned program and in every row, IS THE sha256 OF THE DUMP (.gsa) THAT YtpjegmmichjlbaaProg.lean LOADS. Nothing in Lean hashes anything: it is a label: what it is worth is what the hold of that sum in a sandbox is worth. -/
noncomputable def Try.pinned : Pinned := { name := "ytpjegmmichjlbaa", sum := "57858b24dc6bb3722b8b728d706f31d400801680d9f73ff8d5525f31892624ce", checked := Try.checked }
namespace Rows
def none {H : Type} : Left H := { results := [], args := [] }

/-- 'laws.FnExactLeastTriangles': WHATEVER THE INPUT: true; the input reads as it did. -/
def fnExactLeastTrianglesSpec : ChangeSpec := { name := "fnExactLeastTriangles", fn := fun _ => fun
  | [d] => { results := [.lit (.bool true)], args := [d] }
  | _ => none }
def fnExactLeastTrianglesRow : OpenClaim := { program := "ytpjegmmichjlbaa", sum := "57858b24dc6bb3722b8b728d706f31d400801680d9f73ff8d5525f31892624ce", func := "loop.example/g01362/laws.FnExactLeastTriangles", spec := "fnExactLeastTriangles", apart := false }
def FnExactLeastTrianglesSaid : Prop := fnExactLeastTrianglesRow.holds Try.pinned (OpenSpec.ofChange fnExactLeastTrianglesSpec)

/-- ITS FALSE NEIGHBOUR: 'it returns false'. Refute it at one input. -/
def fnExactLeastTrianglesWrong : ChangeSpec := { name := "fnExactLeastTriangles", fn := fun _ => fun
  | [d] => { results := [.lit (.bool false)], args := [d] }
  | _ => none }
def FnExactLeastTrianglesWrongFalsely : Prop := fnExactLeastTrianglesRow.holds Try.pinned (OpenSpec.ofChange fnExactLeastTrianglesWrong)

/-- 'laws.FnExactAngleNumber': WHATEVER THE INPUT: true; the input reads as it did. -/
def fnExactAngleNumberSpec : ChangeSpec := { name := "fnExactAngleNumber", fn := fun _ => fun
  | [d] => { results := [.lit (.bool true)], args := [d] }
  | _ => none }
def fnExactAngleNumberRow : OpenClaim := { program := "ytpjegmmichjlbaa", sum := "57858b24dc6bb3722b8b728d706f31d400801680d9f73ff8d5525f31892624ce", func := "loop.example/g01362/laws.FnExactAngleNumber", spec := "fnExactAngleNumber", unfollowed := true, recurses := true, apart := false }
def FnExactAngleNumberSaid : Prop := fnExactAngleNumberRow.holds Try.pinned (OpenSpec.ofChange fnExactAngleNumberSpec)

/-- ITS FALSE NEIGHBOUR: 'it returns false'. Refute it at one input. -/
def fnExactAngleNumberWrong : ChangeSpec := { name := "fnExactAngleNumber", fn := fun _ => fun
  | [d] => { results := [.lit (.bool false)], args := [d] }
  | _ => none }
def FnExactAngleNumberWrongFalsely : Prop := fnExactAngleNumberRow.holds Try.pinned (OpenSpec.ofChange fnExactAngleNumberWrong)

/-- 'laws.FnExactTakePoint': WHATEVER THE INPUT: true; the input reads as it did. -/
def fnExactTakePointSpec : ChangeSpec := { name := "fnExactTakePoint", fn := fun _ => fun
  | [d1, d2] => { results := [.lit (.bool true)], args := [d1, d2] }
  | _ => none }
def fnExactTakePointRow : OpenClaim := { program := "ytpjegmmichjlbaa", sum := "57858b24dc6bb3722b8b728d706f31d400801680d9f73ff8d5525f31892624ce", func := "loop.example/g01362/laws.FnExactTakePoint", spec := "fnExactTakePoint", unfollowed := true, recurses := true, apart := false }
def FnExactTakePointSaid : Prop := fnExactTakePointRow.holds Try.pinned (OpenSpec.ofChange fnExactTakePointSpec)

/-- ITS FALSE NEIGHBOUR: 'it returns false'. Refute it at one input. -/
def fnExactTakePointWrong : ChangeSpec := { name := "fnExactTakePoint", fn := fun _ => fun
  | [d1, d2] => { results := [.lit (.bool false)], args := [d1, d2] }
  | _ => none }
def FnExactTakePointWrongFalsely : Prop := fnExactTakePointRow.holds Try.pinned (OpenSpec.ofChange fnExactTakePointWrong)

/-- 'laws.FnExactJoinColours': WHATEVER THE INPUT: true; the input reads as it did. -/
def fnExactJoinColoursSpec : ChangeSpec := { name := "fnExactJoinColours", fn := fun _ => fun
  | [d1, d2, d3] => { results := [.lit (.bool true)], args := [d1, d2, d3] }
  | _ => none }
def fnExactJoinColoursRow : OpenClaim := { program := "ytpjegmmichjlbaa", sum := "57858b24dc6bb3722b8b728d706f31d400801680d9f73ff8d5525f31892624ce", func := "loop.example/g01362/laws.FnExactJoinColours", spec := "fnExactJoinColours", unfollowed := true, recurses := true, apart := false }
def FnExactJoinColoursSaid : Prop := fnExactJoinColoursRow.holds Try.pinned (OpenSpec.ofChange fnExactJoinColoursSpec)

/-- ITS FALSE NEIGHBOUR: 'it returns false'. Refute it at one input. -/
def fnExactJoinColoursWrong : ChangeSpec := { name := "fnExactJoinColours", fn := fun _ => fun
  | [d1, d2, d3] => { results := [.lit (.bool false)], args := [d1, d2, d3] }
  | _ => none }
def FnExactJoinColoursWrongFalsely : Prop := fnExactJoinColoursRow.holds Try.pinned (OpenSpec.ofChange fnExactJoinColoursWrong)

/-- 'laws.FnExactIsClique': WHATEVER THE INPUT: true; the input reads as it did. -/
def fnExactIsCliqueSpec : ChangeSpec := { name := "fnExactIsClique", fn := fun _ => fun
  | [d1, d2, d3] => { results := [.lit (.bool true)], args := [d1, d2, d3] }
  | _ => none }
def fnExactIsCliqueRow : OpenClaim := { program := "ytpjegmmichjlbaa", sum := "57858b24dc6bb3722b8b728d706f31d400801680d9f73ff8d5525f31892624ce", func := "loop.example/g01362/laws.FnExactIsClique", spec := "fnExactIsClique", apart := false }
def FnExactIsCliqueSaid : Prop := fnExactIsCliqueRow.holds Try.pinned (OpenSpec.ofChange fnExactIsCliqueSpec)

/-- ITS FALSE NEIGHBOUR: 'it returns false'. Refute it at one input. -/
def fnExactIsCliqueWrong : ChangeSpec := { name := "fnExactIsClique", fn := fun _ => fun
  | [d1, d2, d3] => { results := [.lit (.bool false)], args := [d1, d2, d3] }
  | _ => none }
def FnExactIsCliqueWrongFalsely : Prop := fnExactIsCliqueRow.holds Try.pinned (OpenSpec.ofChange fnExactIsCliqueWrong)

/-- 'laws.FnExactCommonNeighbours': WHATEVER THE INPUT: true; the input reads as it did. -/
def fnExactCommonNeighboursSpec : ChangeSpec := { name := "fnExactCommonNeighbours", fn := fun _ => fun
  | [d1, d2, d3, d4] => { results := [.lit (.bool true)], args := [d1, d2, d3, d4] }
  | _ => none }
def fnExactCommonNeighboursRow : OpenClaim := { program := "ytpjegmmichjlbaa", sum := "57858b24dc6bb3722b8b728d706f31d400801680d9f73ff8d5525f31892624ce", func := "loop.example/g01362/laws.FnExactCommonNeighbours", spec := "fnExactCommonNeighbours", apart := false }
def FnExactCommonNeighboursSaid : Prop := fnExactCommonNeighboursRow.holds Try.pinned (OpenSpec.ofChange fnExactCommonNeighboursSpec)

/-- ITS FALSE NEIGHBOUR: 'it returns false'. Refute it at one input. -/
def fnExactCommonNeighboursWrong : ChangeSpec := { name := "fnExactCommonNeighbours", fn := fun _ => fun
  | [d1, d2, d3, d4] => { results := [.lit (.bool false)], args := [d1, d2, d3, d4] }
  | _ => none }
def FnExactCommonNeighboursWrongFalsely : Prop := fnExactCommonNeighboursRow.holds Try.pinned (OpenSpec.ofChange fnExactCommonNeighboursWrong)

/-- 'laws.FnExactRenumberPoints': WHATEVER THE INPUT: true; the input reads as it did. -/
def fnExactRenumberPointsSpec : ChangeSpec := { name := "fnExactRenumberPoints", fn := fun _ => fun
  | [d1, d2] => { results := [.lit (.bool true)], args := [d1, d2] }
  | _ => none }
def fnExactRenumberPointsRow : OpenClaim := { program := "ytpjegmmichjlbaa", sum := "57858b24dc6bb3722b8b728d706f31d400801680d9f73ff8d5525f31892624ce", func := "loop.example/g01362/laws.FnExactRenumberPoints", spec := "fnExactRenumberPoints", unfollowed := true, recurses := true, apart := false }
def FnExactRenumberPointsSaid : Prop := fnExactRenumberPointsRow.holds Try.pinned (OpenSpec.ofChange fnExactRenumberPointsSpec)

/-- ITS FALSE NEIGHBOUR: 'it returns false'. Refute it at one input. -/
def fnExactRenumberPointsWrong : ChangeSpec := { name := "fnExactRenumberPoints", fn := fun _ => fun
  | [d1, d2] => { results := [.lit (.bool false)], args := [d1, d2] }
  | _ => none }
def FnExactRenumberPointsWrongFalsely : Prop := fnExactRenumberPointsRow.holds Try.pinned (OpenSpec.ofChange fnExactRenumberPointsWrong)

/-- 'laws.FnExactExchangeColours': WHATEVER THE INPUT: true; the input reads as it did. -/
def fnExactExchangeColoursSpec : ChangeSpec := { name := "fnExactExchangeColours", fn := fun _ => fun
  | [d1, d2] => { results := [.lit (.bool true)], args := [d1, d2] }
  | _ => none }
def fnExactExchangeColoursRow : OpenClaim := { program := "ytpjegmmichjlbaa", sum := "57858b24dc6bb3722b8b728d706f31d400801680d9f73ff8d5525f31892624ce", func := "loop.example/g01362/laws.FnExactExchangeColours", spec := "fnExactExchangeColours", unfollowed := true, recurses := true, apart := false }
def FnExactExchangeColoursSaid : Prop := fnExactExchangeColoursRow.holds Try.pinned (OpenSpec.ofChange fnExactExchangeColoursSpec)

/-- ITS FALSE NEIGHBOUR: 'it returns false'. Refute it at one input. -/
def fnExactExchangeColoursWrong : ChangeSpec := { name := "fnExactExchangeColours", fn := fun _ => fun
  | [d1, d2] => { results := [.lit (.bool false)], args := [d1, d2] }
  | _ => none }
def FnExactExchangeColoursWrongFalsely : Prop := fnExactExchangeColoursRow.holds Try.pinned (OpenSpec.ofChange fnExactExchangeColoursWrong)

/-- 'laws.FnExactCountTriangles': WHATEVER THE INPUT: true; the input reads as it did. -/
def fnExactCountTrianglesSpec : ChangeSpec := { name := "fnExactCountTriangles", fn := fun _ => fun
  | [d] => { results := [.lit (.bool true)], args := [d] }
  | _ => none }
def fnExactCountTrianglesRow : OpenClaim := { program := "ytpjegmmichjlbaa", sum := "57858b24dc6bb3722b8b728d706f31d400801680d9f73ff8d5525f31892624ce", func := "loop.example/g01362/laws.FnExactCountTriangles", spec := "fnExactCountTriangles", unfollowed := true, recurses := true, apart := false }
def FnExactCountTrianglesSaid : Prop := fnExactCountTrianglesRow.holds Try.pinned (OpenSpec.ofChange fnExactCountTrianglesSpec)

/-- ITS FALSE NEIGHBOUR: 'it returns false'. Refute it at one input. -/
def fnExactCountTrianglesWrong : ChangeSpec := { name := "fnExactCountTriangles", fn := fun _ => fun
  | [d] => { results := [.lit (.bool false)], args := [d] }
  | _ => none }
def FnExactCountTrianglesWrongFalsely : Prop := fnExactCountTrianglesRow.holds Try.pinned (OpenSpec.ofChange fnExactCountTrianglesWrong)

/-- 'laws.FnExactAvoidsSizes': WHATEVER THE INPUT: true; the input reads as it did. -/
def fnExactAvoidsSizesSpec : ChangeSpec := { name := "fnExactAvoidsSizes", fn := fun _ => fun
  | [d1, d2] => { results := [.lit (.bool true)], args := [d1, d2] }
  | _ => none }
def fnExactAvoidsSizesRow : OpenClaim := { program := "ytpjegmmichjlbaa", sum := "57858b24dc6bb3722b8b728d706f31d400801680d9f73ff8d5525f31892624ce", func := "loop.example/g01362/laws.FnExactAvoidsSizes", spec := "fnExactAvoidsSizes", unfollowed := true, recurses := true, apart := false }
def FnExactAvoidsSizesSaid : Prop := fnExactAvoidsSizesRow.holds Try.pinned (OpenSpec.ofChange fnExactAvoidsSizesSpec)

/-- ITS FALSE NEIGHBOUR: 'it returns false'. Refute it at one input. -/
def fnExactAvoidsSizesWrong : ChangeSpec := { name := "fnExactAvoidsSizes", fn := fun _ => fun
  | [d1, d2] => { results := [.lit (.bool false)], args := [d1, d2] }
  | _ => none }
def FnExactAvoidsSizesWrongFalsely : Prop := fnExactAvoidsSizesRow.holds Try.pinned (OpenSpec.ofChange fnExactAvoidsSizesWrong)

/- THE SECOND FORM. 'bulk': how many values and letters a reading holds, each counted each time it is reached (what is shared counts as often as it is met; a slice's spare places count too). A statement '..UptoSaid' is the law's where the arguments, and the package variables that the reading takes, are together of bulk at most 1048576: NARROWER than '..Said'. Prove '..Said' where nothing that the law and all that it calls make is longer than what came in: it says more and counts as full. Else prove '..UptoSaid'. A law counts once. -/
mutual
def uptoBulk {H : Type} : DataW H → Nat
  | .lit (.string bytes) => bytes.length + 1
  | .lit _ => 1
  | .nil => 1
  | .ptr d => uptoBulk d + 1
  | .slice elems spare => uptoBulkAll elems + uptoBulkAll spare + 1
  | .agg parts => uptoBulkAll parts + 1
  | .iface _ d => uptoBulk d + 1
  | .map entries => uptoBulkEntries entries + 1
  | .held _ => 1
def uptoBulkAll {H : Type} : List (DataW H) → Nat
  | [] => 0
  | d :: r => uptoBulk d + uptoBulkAll r
def uptoBulkEntries {H : Type} : List (Lit × DataW H) → Nat
  | [] => 0
  | x :: r => uptoBulkEntry x + uptoBulkEntries r
def uptoBulkEntry {H : Type} : Lit × DataW H → Nat
  | (.string bytes, d) => bytes.length + uptoBulk d + 1
  | (_, d) => uptoBulk d + 1
 end
def uptoSmall : (H : Type) → List (DataW H) → Bool := fun _ ds => decide (uptoBulkAll ds ≤ 1048576)
def OpenSpec.upto (s : _root_.Go.ChangeSpec) : _root_.Go.OpenSpec := { _root_.Go.OpenSpec.ofChange s with cond := some uptoSmall }

/-- 'laws.FnExactLeastTriangles', WHERE WHAT IT READS IS OF BULK AT MOST 1048576: true; the input reads as it did. -/
def fnExactLeastTrianglesUptoRow : OpenClaim := { program := "ytpjegmmichjlbaa", sum := "57858b24dc6bb3722b8b728d706f31d400801680d9f73ff8d5525f31892624ce", func := "loop.example/g01362/laws.FnExactLeastTriangles", spec := "fnExactLeastTriangles", apart := false, narrowed := true }
def FnExactLeastTrianglesUptoSaid : Prop := fnExactLeastTrianglesUptoRow.holds Try.pinned (OpenSpec.upto fnExactLeastTrianglesSpec)

/-- 'laws.FnExactAngleNumber', WHERE WHAT IT READS IS OF BULK AT MOST 1048576: true; the input reads as it did. -/
def fnExactAngleNumberUptoRow : OpenClaim := { program := "ytpjegmmichjlbaa", sum := "57858b24dc6bb3722b8b728d706f31d400801680d9f73ff8d5525f31892624ce", func := "loop.example/g01362/laws.FnExactAngleNumber", spec := "fnExactAngleNumber", unfollowed := true, recurses := true, apart := false, narrowed := true }
def FnExactAngleNumberUptoSaid : Prop := fnExactAngleNumberUptoRow.holds Try.pinned (OpenSpec.upto fnExactAngleNumberSpec)

/-- 'laws.FnExactTakePoint', WHERE WHAT IT READS IS OF BULK AT MOST 1048576: true; the input reads as it did. -/
def fnExactTakePointUptoRow : OpenClaim := { program := "ytpjegmmichjlbaa", sum := "57858b24dc6bb3722b8b728d706f31d400801680d9f73ff8d5525f31892624ce", func := "loop.example/g01362/laws.FnExactTakePoint", spec := "fnExactTakePoint", unfollowed := true, recurses := true, apart := false, narrowed := true }
def FnExactTakePointUptoSaid : Prop := fnExactTakePointUptoRow.holds Try.pinned (OpenSpec.upto fnExactTakePointSpec)

/-- 'laws.FnExactJoinColours', WHERE WHAT IT READS IS OF BULK AT MOST 1048576: true; the input reads as it did. -/
def fnExactJoinColoursUptoRow : OpenClaim := { program := "ytpjegmmichjlbaa", sum := "57858b24dc6bb3722b8b728d706f31d400801680d9f73ff8d5525f31892624ce", func := "loop.example/g01362/laws.FnExactJoinColours", spec := "fnExactJoinColours", unfollowed := true, recurses := true, apart := false, narrowed := true }
def FnExactJoinColoursUptoSaid : Prop := fnExactJoinColoursUptoRow.holds Try.pinned (OpenSpec.upto fnExactJoinColoursSpec)

/-- 'laws.FnExactIsClique', WHERE WHAT IT READS IS OF BULK AT MOST 1048576: true; the input reads as it did. -/
def fnExactIsCliqueUptoRow : OpenClaim := { program := "ytpjegmmichjlbaa", sum := "57858b24dc6bb3722b8b728d706f31d400801680d9f73ff8d5525f31892624ce", func := "loop.example/g01362/laws.FnExactIsClique", spec := "fnExactIsClique", apart := false, narrowed := true }
def FnExactIsCliqueUptoSaid : Prop := fnExactIsCliqueUptoRow.holds Try.pinned (OpenSpec.upto fnExactIsCliqueSpec)

/-- 'laws.FnExactCommonNeighbours', WHERE WHAT IT READS IS OF BULK AT MOST 1048576: true; the input reads as it did. -/
def fnExactCommonNeighboursUptoRow : OpenClaim := { program := "ytpjegmmichjlbaa", sum := "57858b24dc6bb3722b8b728d706f31d400801680d9f73ff8d5525f31892624ce", func := "loop.example/g01362/laws.FnExactCommonNeighbours", spec := "fnExactCommonNeighbours", apart := false, narrowed := true }
def FnExactCommonNeighboursUptoSaid : Prop := fnExactCommonNeighboursUptoRow.holds Try.pinned (OpenSpec.upto fnExactCommonNeighboursSpec)

/-- 'laws.FnExactRenumberPoints', WHERE WHAT IT READS IS OF BULK AT MOST 1048576: true; the input reads as it did. -/
def fnExactRenumberPointsUptoRow : OpenClaim := { program := "ytpjegmmichjlbaa", sum := "57858b24dc6bb3722b8b728d706f31d400801680d9f73ff8d5525f31892624ce", func := "loop.example/g01362/laws.FnExactRenumberPoints", spec := "fnExactRenumberPoints", unfollowed := true, recurses := true, apart := false, narrowed := true }
def FnExactRenumberPointsUptoSaid : Prop := fnExactRenumberPointsUptoRow.holds Try.pinned (OpenSpec.upto fnExactRenumberPointsSpec)

/-- 'laws.FnExactExchangeColours', WHERE WHAT IT READS IS OF BULK AT MOST 1048576: true; the input reads as it did. -/
def fnExactExchangeColoursUptoRow : OpenClaim := { program := "ytpjegmmichjlbaa", sum := "57858b24dc6bb3722b8b728d706f31d400801680d9f73ff8d5525f31892624ce", func := "loop.example/g01362/laws.FnExactExchangeColours", spec := "fnExactExchangeColours", unfollowed := true, recurses := true, apart := false, narrowed := true }
def FnExactExchangeColoursUptoSaid : Prop := fnExactExchangeColoursUptoRow.holds Try.pinned (OpenSpec.upto fnExactExchangeColoursSpec)

/-- 'laws.FnExactCountTriangles', WHERE WHAT IT READS IS OF BULK AT MOST 1048576: true; the input reads as it did. -/
def fnExactCountTrianglesUptoRow : OpenClaim := { program := "ytpjegmmichjlbaa", sum := "57858b24dc6bb3722b8b728d706f31d400801680d9f73ff8d5525f31892624ce", func := "loop.example/g01362/laws.FnExactCountTriangles", spec := "fnExactCountTriangles", unfollowed := true, recurses := true, apart := false, narrowed := true }
def FnExactCountTrianglesUptoSaid : Prop := fnExactCountTrianglesUptoRow.holds Try.pinned (OpenSpec.upto fnExactCountTrianglesSpec)

/-- 'laws.FnExactAvoidsSizes', WHERE WHAT IT READS IS OF BULK AT MOST 1048576: true; the input reads as it did. -/
def fnExactAvoidsSizesUptoRow : OpenClaim := { program := "ytpjegmmichjlbaa", sum := "57858b24dc6bb3722b8b728d706f31d400801680d9f73ff8d5525f31892624ce", func := "loop.example/g01362/laws.FnExactAvoidsSizes", spec := "fnExactAvoidsSizes", unfollowed := true, recurses := true, apart := false, narrowed := true }
def FnExactAvoidsSizesUptoSaid : Prop := fnExactAvoidsSizesUptoRow.holds Try.pinned (OpenSpec.upto fnExactAvoidsSizesSpec)

end Rows
end Go.Proofs.Ytpjegmmichjlbaa
