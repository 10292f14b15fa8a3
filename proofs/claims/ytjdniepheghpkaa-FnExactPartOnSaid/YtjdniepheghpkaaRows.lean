/-
  No cell of these rows narrows 'for every input' (looked for: loops, veiled, ifaces, maps, wideKeys, modest, calm, conditions, laid).
  DERIVED. THE GIVEN ROWS OF THIS SEAT. 12 by the template 'for every input the law returns true; each argument reads behind the call as it read before'; 0 by the template 'total and deterministic' (their statements: YtjdniepheghpkaaTotals.lean).
  GIVEN WITH THE SEED: the statements are not yours to turn. If you find one false, say at which input.
  Laid BY PROGRAM, IN A SANDBOX (cutbox-rows.mjs): the forced cells as the released guide's own fill.sh prints them over the translation 2ac4f4e0ed41bab9… (all of the seat's roots in one cut). By AI agents, Wed Nov 11 2026. No macro, syntax, notation, axiom, sorry.
-/
import Derived.Test.YtjdniepheghpkaaChecked
import GoSem.Claim
import GoSem.ClaimJoined
import GoSem.ClaimMapViews
import Derived.JoinedTies
import Derived.KernelRfl
namespace Go.Proofs.Ytjdniepheghpkaa
/- THE CELL 'sum', in the pinned program and in every row, IS THE sha256 OF THE DUMP (.gsa) THAT YtjdniepheghpkaaProg.lean LOADS. Nothing in Lean hashes anything: it is a label: what it is worth is what the hold of that sum in a sandbox is worth. -/
noncomputable def Try.pinned : Pinned := { name := "ytjdniepheghpkaa", sum := "2ac4f4e0ed41bab9bd5eac5fca6cfda43d9c1adf35d77ba0023c98663c18f6bb", checked := Try.checked }
namespace Rows
def none {H : Type} : Left H := { results := [], args := [] }

/-- 'laws.FnExactIsColouring': WHATEVER THE INPUT: true; the input reads as it did. -/
def fnExactIsColouringSpec : ChangeSpec := { name := "fnExactIsColouring", fn := fun _ => fun
  | [d] => { results := [.lit (.bool true)], args := [d] }
  | _ => none }
def fnExactIsColouringRow : OpenClaim := { program := "ytjdniepheghpkaa", sum := "2ac4f4e0ed41bab9bd5eac5fca6cfda43d9c1adf35d77ba0023c98663c18f6bb", func := "loop.example/g01362/laws.FnExactIsColouring", spec := "fnExactIsColouring", apart := false }
def FnExactIsColouringSaid : Prop := fnExactIsColouringRow.holds Try.pinned (OpenSpec.ofChange fnExactIsColouringSpec)

/-- ITS FALSE NEIGHBOUR: 'it returns false'. Refute it at one input. -/
def fnExactIsColouringWrong : ChangeSpec := { name := "fnExactIsColouring", fn := fun _ => fun
  | [d] => { results := [.lit (.bool false)], args := [d] }
  | _ => none }
def FnExactIsColouringWrongFalsely : Prop := fnExactIsColouringRow.holds Try.pinned (OpenSpec.ofChange fnExactIsColouringWrong)

/-- 'laws.FnExactColouringOf': WHATEVER THE INPUT: true; the input reads as it did. -/
def fnExactColouringOfSpec : ChangeSpec := { name := "fnExactColouringOf", fn := fun _ => fun
  | [d1, d2, d3] => { results := [.lit (.bool true)], args := [d1, d2, d3] }
  | _ => none }
def fnExactColouringOfRow : OpenClaim := { program := "ytjdniepheghpkaa", sum := "2ac4f4e0ed41bab9bd5eac5fca6cfda43d9c1adf35d77ba0023c98663c18f6bb", func := "loop.example/g01362/laws.FnExactColouringOf", spec := "fnExactColouringOf", unfollowed := true, recurses := true, apart := false }
def FnExactColouringOfSaid : Prop := fnExactColouringOfRow.holds Try.pinned (OpenSpec.ofChange fnExactColouringOfSpec)

/-- ITS FALSE NEIGHBOUR: 'it returns false'. Refute it at one input. -/
def fnExactColouringOfWrong : ChangeSpec := { name := "fnExactColouringOf", fn := fun _ => fun
  | [d1, d2, d3] => { results := [.lit (.bool false)], args := [d1, d2, d3] }
  | _ => none }
def FnExactColouringOfWrongFalsely : Prop := fnExactColouringOfRow.holds Try.pinned (OpenSpec.ofChange fnExactColouringOfWrong)

/-- 'laws.FnExactColourOf': WHATEVER THE INPUT: true; the input reads as it did. -/
def fnExactColourOfSpec : ChangeSpec := { name := "fnExactColourOf", fn := fun _ => fun
  | [d1, d2, d3] => { results := [.lit (.bool true)], args := [d1, d2, d3] }
  | _ => none }
def fnExactColourOfRow : OpenClaim := { program := "ytjdniepheghpkaa", sum := "2ac4f4e0ed41bab9bd5eac5fca6cfda43d9c1adf35d77ba0023c98663c18f6bb", func := "loop.example/g01362/laws.FnExactColourOf", spec := "fnExactColourOf", apart := false }
def FnExactColourOfSaid : Prop := fnExactColourOfRow.holds Try.pinned (OpenSpec.ofChange fnExactColourOfSpec)

/-- ITS FALSE NEIGHBOUR: 'it returns false'. Refute it at one input. -/
def fnExactColourOfWrong : ChangeSpec := { name := "fnExactColourOf", fn := fun _ => fun
  | [d1, d2, d3] => { results := [.lit (.bool false)], args := [d1, d2, d3] }
  | _ => none }
def FnExactColourOfWrongFalsely : Prop := fnExactColourOfRow.holds Try.pinned (OpenSpec.ofChange fnExactColourOfWrong)

/-- 'laws.FnExactChangeEdge': WHATEVER THE INPUT: true; the input reads as it did. -/
def fnExactChangeEdgeSpec : ChangeSpec := { name := "fnExactChangeEdge", fn := fun _ => fun
  | [d1, d2, d3, d4] => { results := [.lit (.bool true)], args := [d1, d2, d3, d4] }
  | _ => none }
def fnExactChangeEdgeRow : OpenClaim := { program := "ytjdniepheghpkaa", sum := "2ac4f4e0ed41bab9bd5eac5fca6cfda43d9c1adf35d77ba0023c98663c18f6bb", func := "loop.example/g01362/laws.FnExactChangeEdge", spec := "fnExactChangeEdge", apart := false }
def FnExactChangeEdgeSaid : Prop := fnExactChangeEdgeRow.holds Try.pinned (OpenSpec.ofChange fnExactChangeEdgeSpec)

/-- ITS FALSE NEIGHBOUR: 'it returns false'. Refute it at one input. -/
def fnExactChangeEdgeWrong : ChangeSpec := { name := "fnExactChangeEdge", fn := fun _ => fun
  | [d1, d2, d3, d4] => { results := [.lit (.bool false)], args := [d1, d2, d3, d4] }
  | _ => none }
def FnExactChangeEdgeWrongFalsely : Prop := fnExactChangeEdgeRow.holds Try.pinned (OpenSpec.ofChange fnExactChangeEdgeWrong)

/-- 'laws.FnExactNeighboursOf': WHATEVER THE INPUT: true; the input reads as it did. -/
def fnExactNeighboursOfSpec : ChangeSpec := { name := "fnExactNeighboursOf", fn := fun _ => fun
  | [d1, d2, d3] => { results := [.lit (.bool true)], args := [d1, d2, d3] }
  | _ => none }
def fnExactNeighboursOfRow : OpenClaim := { program := "ytjdniepheghpkaa", sum := "2ac4f4e0ed41bab9bd5eac5fca6cfda43d9c1adf35d77ba0023c98663c18f6bb", func := "loop.example/g01362/laws.FnExactNeighboursOf", spec := "fnExactNeighboursOf", apart := false }
def FnExactNeighboursOfSaid : Prop := fnExactNeighboursOfRow.holds Try.pinned (OpenSpec.ofChange fnExactNeighboursOfSpec)

/-- ITS FALSE NEIGHBOUR: 'it returns false'. Refute it at one input. -/
def fnExactNeighboursOfWrong : ChangeSpec := { name := "fnExactNeighboursOf", fn := fun _ => fun
  | [d1, d2, d3] => { results := [.lit (.bool false)], args := [d1, d2, d3] }
  | _ => none }
def FnExactNeighboursOfWrongFalsely : Prop := fnExactNeighboursOfRow.holds Try.pinned (OpenSpec.ofChange fnExactNeighboursOfWrong)

/-- 'laws.FnExactDegreesOf': WHATEVER THE INPUT: true; the input reads as it did. -/
def fnExactDegreesOfSpec : ChangeSpec := { name := "fnExactDegreesOf", fn := fun _ => fun
  | [d1, d2] => { results := [.lit (.bool true)], args := [d1, d2] }
  | _ => none }
def fnExactDegreesOfRow : OpenClaim := { program := "ytjdniepheghpkaa", sum := "2ac4f4e0ed41bab9bd5eac5fca6cfda43d9c1adf35d77ba0023c98663c18f6bb", func := "loop.example/g01362/laws.FnExactDegreesOf", spec := "fnExactDegreesOf", unfollowed := true, recurses := true, apart := false }
def FnExactDegreesOfSaid : Prop := fnExactDegreesOfRow.holds Try.pinned (OpenSpec.ofChange fnExactDegreesOfSpec)

/-- ITS FALSE NEIGHBOUR: 'it returns false'. Refute it at one input. -/
def fnExactDegreesOfWrong : ChangeSpec := { name := "fnExactDegreesOf", fn := fun _ => fun
  | [d1, d2] => { results := [.lit (.bool false)], args := [d1, d2] }
  | _ => none }
def FnExactDegreesOfWrongFalsely : Prop := fnExactDegreesOfRow.holds Try.pinned (OpenSpec.ofChange fnExactDegreesOfWrong)

/-- 'laws.FnExactCountEdges': WHATEVER THE INPUT: true; the input reads as it did. -/
def fnExactCountEdgesSpec : ChangeSpec := { name := "fnExactCountEdges", fn := fun _ => fun
  | [d] => { results := [.lit (.bool true)], args := [d] }
  | _ => none }
def fnExactCountEdgesRow : OpenClaim := { program := "ytjdniepheghpkaa", sum := "2ac4f4e0ed41bab9bd5eac5fca6cfda43d9c1adf35d77ba0023c98663c18f6bb", func := "loop.example/g01362/laws.FnExactCountEdges", spec := "fnExactCountEdges", unfollowed := true, recurses := true, apart := false }
def FnExactCountEdgesSaid : Prop := fnExactCountEdgesRow.holds Try.pinned (OpenSpec.ofChange fnExactCountEdgesSpec)

/-- ITS FALSE NEIGHBOUR: 'it returns false'. Refute it at one input. -/
def fnExactCountEdgesWrong : ChangeSpec := { name := "fnExactCountEdges", fn := fun _ => fun
  | [d] => { results := [.lit (.bool false)], args := [d] }
  | _ => none }
def FnExactCountEdgesWrongFalsely : Prop := fnExactCountEdgesRow.holds Try.pinned (OpenSpec.ofChange fnExactCountEdgesWrong)

/-- 'laws.FnExactPartOn': WHATEVER THE INPUT: true; the input reads as it did. -/
def fnExactPartOnSpec : ChangeSpec := { name := "fnExactPartOn", fn := fun _ => fun
  | [d1, d2] => { results := [.lit (.bool true)], args := [d1, d2] }
  | _ => none }
def fnExactPartOnRow : OpenClaim := { program := "ytjdniepheghpkaa", sum := "2ac4f4e0ed41bab9bd5eac5fca6cfda43d9c1adf35d77ba0023c98663c18f6bb", func := "loop.example/g01362/laws.FnExactPartOn", spec := "fnExactPartOn", unfollowed := true, recurses := true, apart := false }
def FnExactPartOnSaid : Prop := fnExactPartOnRow.holds Try.pinned (OpenSpec.ofChange fnExactPartOnSpec)

/-- ITS FALSE NEIGHBOUR: 'it returns false'. Refute it at one input. -/
def fnExactPartOnWrong : ChangeSpec := { name := "fnExactPartOn", fn := fun _ => fun
  | [d1, d2] => { results := [.lit (.bool false)], args := [d1, d2] }
  | _ => none }
def FnExactPartOnWrongFalsely : Prop := fnExactPartOnRow.holds Try.pinned (OpenSpec.ofChange fnExactPartOnWrong)

/-- 'laws.FnExactPutPoint': WHATEVER THE INPUT: true; the input reads as it did. -/
def fnExactPutPointSpec : ChangeSpec := { name := "fnExactPutPoint", fn := fun _ => fun
  | [d1, d2] => { results := [.lit (.bool true)], args := [d1, d2] }
  | _ => none }
def fnExactPutPointRow : OpenClaim := { program := "ytjdniepheghpkaa", sum := "2ac4f4e0ed41bab9bd5eac5fca6cfda43d9c1adf35d77ba0023c98663c18f6bb", func := "loop.example/g01362/laws.FnExactPutPoint", spec := "fnExactPutPoint", apart := false }
def FnExactPutPointSaid : Prop := fnExactPutPointRow.holds Try.pinned (OpenSpec.ofChange fnExactPutPointSpec)

/-- ITS FALSE NEIGHBOUR: 'it returns false'. Refute it at one input. -/
def fnExactPutPointWrong : ChangeSpec := { name := "fnExactPutPoint", fn := fun _ => fun
  | [d1, d2] => { results := [.lit (.bool false)], args := [d1, d2] }
  | _ => none }
def FnExactPutPointWrongFalsely : Prop := fnExactPutPointRow.holds Try.pinned (OpenSpec.ofChange fnExactPutPointWrong)

/-- 'laws.FnExactTakePoint': WHATEVER THE INPUT: true; the input reads as it did. -/
def fnExactTakePointSpec : ChangeSpec := { name := "fnExactTakePoint", fn := fun _ => fun
  | [d1, d2] => { results := [.lit (.bool true)], args := [d1, d2] }
  | _ => none }
def fnExactTakePointRow : OpenClaim := { program := "ytjdniepheghpkaa", sum := "2ac4f4e0ed41bab9bd5eac5fca6cfda43d9c1adf35d77ba0023c98663c18f6bb", func := "loop.example/g01362/laws.FnExactTakePoint", spec := "fnExactTakePoint", unfollowed := true, recurses := true, apart := false }
def FnExactTakePointSaid : Prop := fnExactTakePointRow.holds Try.pinned (OpenSpec.ofChange fnExactTakePointSpec)

/-- ITS FALSE NEIGHBOUR: 'it returns false'. Refute it at one input. -/
def fnExactTakePointWrong : ChangeSpec := { name := "fnExactTakePoint", fn := fun _ => fun
  | [d1, d2] => { results := [.lit (.bool false)], args := [d1, d2] }
  | _ => none }
def FnExactTakePointWrongFalsely : Prop := fnExactTakePointRow.holds Try.pinned (OpenSpec.ofChange fnExactTakePointWrong)

/-- 'laws.FnExactRenumberPoints': WHATEVER THE INPUT: true; the input reads as it did. -/
def fnExactRenumberPointsSpec : ChangeSpec := { name := "fnExactRenumberPoints", fn := fun _ => fun
  | [d1, d2] => { results := [.lit (.bool true)], args := [d1, d2] }
  | _ => none }
def fnExactRenumberPointsRow : OpenClaim := { program := "ytjdniepheghpkaa", sum := "2ac4f4e0ed41bab9bd5eac5fca6cfda43d9c1adf35d77ba0023c98663c18f6bb", func := "loop.example/g01362/laws.FnExactRenumberPoints", spec := "fnExactRenumberPoints", unfollowed := true, recurses := true, apart := false }
def FnExactRenumberPointsSaid : Prop := fnExactRenumberPointsRow.holds Try.pinned (OpenSpec.ofChange fnExactRenumberPointsSpec)

/-- ITS FALSE NEIGHBOUR: 'it returns false'. Refute it at one input. -/
def fnExactRenumberPointsWrong : ChangeSpec := { name := "fnExactRenumberPoints", fn := fun _ => fun
  | [d1, d2] => { results := [.lit (.bool false)], args := [d1, d2] }
  | _ => none }
def FnExactRenumberPointsWrongFalsely : Prop := fnExactRenumberPointsRow.holds Try.pinned (OpenSpec.ofChange fnExactRenumberPointsWrong)

/-- 'laws.FnExactExchangeColours': WHATEVER THE INPUT: true; the input reads as it did. -/
def fnExactExchangeColoursSpec : ChangeSpec := { name := "fnExactExchangeColours", fn := fun _ => fun
  | [d1, d2] => { results := [.lit (.bool true)], args := [d1, d2] }
  | _ => none }
def fnExactExchangeColoursRow : OpenClaim := { program := "ytjdniepheghpkaa", sum := "2ac4f4e0ed41bab9bd5eac5fca6cfda43d9c1adf35d77ba0023c98663c18f6bb", func := "loop.example/g01362/laws.FnExactExchangeColours", spec := "fnExactExchangeColours", unfollowed := true, recurses := true, apart := false }
def FnExactExchangeColoursSaid : Prop := fnExactExchangeColoursRow.holds Try.pinned (OpenSpec.ofChange fnExactExchangeColoursSpec)

/-- ITS FALSE NEIGHBOUR: 'it returns false'. Refute it at one input. -/
def fnExactExchangeColoursWrong : ChangeSpec := { name := "fnExactExchangeColours", fn := fun _ => fun
  | [d1, d2] => { results := [.lit (.bool false)], args := [d1, d2] }
  | _ => none }
def FnExactExchangeColoursWrongFalsely : Prop := fnExactExchangeColoursRow.holds Try.pinned (OpenSpec.ofChange fnExactExchangeColoursWrong)

/- THE SECOND FORM. 'bulk': how many values and letters a reading holds, each counted each time it is reached (what is shared counts as often as it is met; a slice's spare places count too). A statement '..UptoSaid' is the law's where the arguments, and the package variables that the reading takes, are together of bulk at most 1048576: NARROWER than '..Said'. Prove '..Said' where nothing that the law and all that it calls make is longer than what came in: it says more and counts as full. Else prove '..UptoSaid'. A law counts once. -/
mutual
def uptoBulk {H : Type} : DataW H → Nat
  | .lit (.string bytes) => bytes.length + 1
  | .lit _ => 1
  | .nil => 1
  | .ptr d => uptoBulk d + 1
  | .slice elems spare => uptoBulkAll elems + uptoBulkAll spare + 1
  | .agg parts => uptoBulkAll parts + 1
  | .iface _ d => uptoBulk d + 1
  | .map entries => uptoBulkEntries entries + 1
  | .held _ => 1
def uptoBulkAll {H : Type} : List (DataW H) → Nat
  | [] => 0
  | d :: r => uptoBulk d + uptoBulkAll r
def uptoBulkEntries {H : Type} : List (Lit × DataW H) → Nat
  | [] => 0
  | x :: r => uptoBulkEntry x + uptoBulkEntries r
def uptoBulkEntry {H : Type} : Lit × DataW H → Nat
  | (.string bytes, d) => bytes.length + uptoBulk d + 1
  | (_, d) => uptoBulk d + 1
 end
def uptoSmall : (H : Type) → List (DataW H) → Bool := fun _ ds => decide (uptoBulkAll ds ≤ 1048576)
def OpenSpec.upto (s : _root_.Go.ChangeSpec) : _root_.Go.OpenSpec := { _root_.Go.OpenSpec.ofChange s with cond := some uptoSmall }

/-- 'laws.FnExactIsColouring', WHERE WHAT IT READS IS OF BULK AT MOST 1048576: true; the input reads as it did. -/
def fnExactIsColouringUptoRow : OpenClaim := { program := "ytjdniepheghpkaa", sum := "2ac4f4e0ed41bab9bd5eac5fca6cfda43d9c1adf35d77ba0023c98663c18f6bb", func := "loop.example/g01362/laws.FnExactIsColouring", spec := "fnExactIsColouring", apart := false, narrowed := true }
def FnExactIsColouringUptoSaid : Prop := fnExactIsColouringUptoRow.holds Try.pinned (OpenSpec.upto fnExactIsColouringSpec)

/-- 'laws.FnExactColouringOf', WHERE WHAT IT READS IS OF BULK AT MOST 1048576: true; the input reads as it did. -/
def fnExactColouringOfUptoRow : OpenClaim := { program := "ytjdniepheghpkaa", sum := "2ac4f4e0ed41bab9bd5eac5fca6cfda43d9c1adf35d77ba0023c98663c18f6bb", func := "loop.example/g01362/laws.FnExactColouringOf", spec := "fnExactColouringOf", unfollowed := true, recurses := true, apart := false, narrowed := true }
def FnExactColouringOfUptoSaid : Prop := fnExactColouringOfUptoRow.holds Try.pinned (OpenSpec.upto fnExactColouringOfSpec)

/-- 'laws.FnExactColourOf', WHERE WHAT IT READS IS OF BULK AT MOST 1048576: true; the input reads as it did. -/
def fnExactColourOfUptoRow : OpenClaim := { program := "ytjdniepheghpkaa", sum := "2ac4f4e0ed41bab9bd5eac5fca6cfda43d9c1adf35d77ba0023c98663c18f6bb", func := "loop.example/g01362/laws.FnExactColourOf", spec := "fnExactColourOf", apart := false, narrowed := true }
def FnExactColourOfUptoSaid : Prop := fnExactColourOfUptoRow.holds Try.pinned (OpenSpec.upto fnExactColourOfSpec)

/-- 'laws.FnExactChangeEdge', WHERE WHAT IT READS IS OF BULK AT MOST 1048576: true; the input reads as it did. -/
def fnExactChangeEdgeUptoRow : OpenClaim := { program := "ytjdniepheghpkaa", sum := "2ac4f4e0ed41bab9bd5eac5fca6cfda43d9c1adf35d77ba0023c98663c18f6bb", func := "loop.example/g01362/laws.FnExactChangeEdge", spec := "fnExactChangeEdge", apart := false, narrowed := true }
def FnExactChangeEdgeUptoSaid : Prop := fnExactChangeEdgeUptoRow.holds Try.pinned (OpenSpec.upto fnExactChangeEdgeSpec)

/-- 'laws.FnExactNeighboursOf', WHERE WHAT IT READS IS OF BULK AT MOST 1048576: true; the input reads as it did. -/
def fnExactNeighboursOfUptoRow : OpenClaim := { program := "ytjdniepheghpkaa", sum := "2ac4f4e0ed41bab9bd5eac5fca6cfda43d9c1adf35d77ba0023c98663c18f6bb", func := "loop.example/g01362/laws.FnExactNeighboursOf", spec := "fnExactNeighboursOf", apart := false, narrowed := true }
def FnExactNeighboursOfUptoSaid : Prop := fnExactNeighboursOfUptoRow.holds Try.pinned (OpenSpec.upto fnExactNeighboursOfSpec)

/-- 'laws.FnExactDegreesOf', WHERE WHAT IT READS IS OF BULK AT MOST 1048576: true; the input reads as it did. -/
def fnExactDegreesOfUptoRow : OpenClaim := { program := "ytjdniepheghpkaa", sum := "2ac4f4e0ed41bab9bd5eac5fca6cfda43d9c1adf35d77ba0023c98663c18f6bb", func := "loop.example/g01362/laws.FnExactDegreesOf", spec := "fnExactDegreesOf", unfollowed := true, recurses := true, apart := false, narrowed := true }
def FnExactDegreesOfUptoSaid : Prop := fnExactDegreesOfUptoRow.holds Try.pinned (OpenSpec.upto fnExactDegreesOfSpec)

/-- 'laws.FnExactCountEdges', WHERE WHAT IT READS IS OF BULK AT MOST 1048576: true; the input reads as it did. -/
def fnExactCountEdgesUptoRow : OpenClaim := { program := "ytjdniepheghpkaa", sum := "2ac4f4e0ed41bab9bd5eac5fca6cfda43d9c1adf35d77ba0023c98663c18f6bb", func := "loop.example/g01362/laws.FnExactCountEdges", spec := "fnExactCountEdges", unfollowed := true, recurses := true, apart := false, narrowed := true }
def FnExactCountEdgesUptoSaid : Prop := fnExactCountEdgesUptoRow.holds Try.pinned (OpenSpec.upto fnExactCountEdgesSpec)

/-- 'laws.FnExactPartOn', WHERE WHAT IT READS IS OF BULK AT MOST 1048576: true; the input reads as it did. -/
def fnExactPartOnUptoRow : OpenClaim := { program := "ytjdniepheghpkaa", sum := "2ac4f4e0ed41bab9bd5eac5fca6cfda43d9c1adf35d77ba0023c98663c18f6bb", func := "loop.example/g01362/laws.FnExactPartOn", spec := "fnExactPartOn", unfollowed := true, recurses := true, apart := false, narrowed := true }
def FnExactPartOnUptoSaid : Prop := fnExactPartOnUptoRow.holds Try.pinned (OpenSpec.upto fnExactPartOnSpec)

/-- 'laws.FnExactPutPoint', WHERE WHAT IT READS IS OF BULK AT MOST 1048576: true; the input reads as it did. -/
def fnExactPutPointUptoRow : OpenClaim := { program := "ytjdniepheghpkaa", sum := "2ac4f4e0ed41bab9bd5eac5fca6cfda43d9c1adf35d77ba0023c98663c18f6bb", func := "loop.example/g01362/laws.FnExactPutPoint", spec := "fnExactPutPoint", apart := false, narrowed := true }
def FnExactPutPointUptoSaid : Prop := fnExactPutPointUptoRow.holds Try.pinned (OpenSpec.upto fnExactPutPointSpec)

/-- 'laws.FnExactTakePoint', WHERE WHAT IT READS IS OF BULK AT MOST 1048576: true; the input reads as it did. -/
def fnExactTakePointUptoRow : OpenClaim := { program := "ytjdniepheghpkaa", sum := "2ac4f4e0ed41bab9bd5eac5fca6cfda43d9c1adf35d77ba0023c98663c18f6bb", func := "loop.example/g01362/laws.FnExactTakePoint", spec := "fnExactTakePoint", unfollowed := true, recurses := true, apart := false, narrowed := true }
def FnExactTakePointUptoSaid : Prop := fnExactTakePointUptoRow.holds Try.pinned (OpenSpec.upto fnExactTakePointSpec)

/-- 'laws.FnExactRenumberPoints', WHERE WHAT IT READS IS OF BULK AT MOST 1048576: true; the input reads as it did. -/
def fnExactRenumberPointsUptoRow : OpenClaim := { program := "ytjdniepheghpkaa", sum := "2ac4f4e0ed41bab9bd5eac5fca6cfda43d9c1adf35d77ba0023c98663c18f6bb", func := "loop.example/g01362/laws.FnExactRenumberPoints", spec := "fnExactRenumberPoints", unfollowed := true, recurses := true, apart := false, narrowed := true }
def FnExactRenumberPointsUptoSaid : Prop := fnExactRenumberPointsUptoRow.holds Try.pinned (OpenSpec.upto fnExactRenumberPointsSpec)

/-- 'laws.FnExactExchangeColours', WHERE WHAT IT READS IS OF BULK AT MOST 1048576: true; the input reads as it did. -/
def fnExactExchangeColoursUptoRow : OpenClaim := { program := "ytjdniepheghpkaa", sum := "2ac4f4e0ed41bab9bd5eac5fca6cfda43d9c1adf35d77ba0023c98663c18f6bb", func := "loop.example/g01362/laws.FnExactExchangeColours", spec := "fnExactExchangeColours", unfollowed := true, recurses := true, apart := false, narrowed := true }
def FnExactExchangeColoursUptoSaid : Prop := fnExactExchangeColoursUptoRow.holds Try.pinned (OpenSpec.upto fnExactExchangeColoursSpec)

end Rows
end Go.Proofs.Ytjdniepheghpkaa
