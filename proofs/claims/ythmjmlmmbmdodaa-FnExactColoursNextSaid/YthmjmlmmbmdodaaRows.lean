/-
  No cell of these rows narrows 'for every input' (looked for: loops, veiled, ifaces, maps, wideKeys, modest, calm, conditions, laid).
  DERIVED. THE GIVEN ROWS OF THIS SEAT. 8 by the template 'for every input the law returns true; each argument reads behind the call as it read before'; 0 by the template 'total and deterministic' (their statements: YthmjmlmmbmdodaaTotals.lean).
  GIVEN WITH THE SEED: the statements are not yours to turn. If you find one false, say at which input.
  Laid BY PROGRAM, IN A SANDBOX (cutbox-rows.mjs): the forced cells as the released guide's own fill.sh prints them over the translation d511a27e790caa94… (all of the seat's roots in one cut). By AI agents, Wed Nov 11 2026. No macro, syntax, notation, axiom, sorry.
-/
import Derived.Test.YthmjmlmmbmdodaaChecked
import GoSem.Claim
import GoSem.ClaimJoined
import GoSem.ClaimMapViews
import Derived.JoinedTies
import Derived.KernelRfl
namespace Go.Proofs.Ythmjmlmmbmdodaa
/- THE CELL 'sum', in the pinned program and in every row, IS THE sha256 OF THE DUMP (.gsa) THAT YthmjmlmmbmdodaaProg.lean LOADS. Nothing in Lean hashes anything: it is a label: what it is worth is what the hold of that sum in a sandbox is worth. -/
noncomputable def Try.pinned : Pinned := { name := "ythmjmlmmbmdodaa", sum := "d511a27e790caa9412e6bc5ec246e2186ce9045f2dd8e5ae06ec3824b47c472f", checked := Try.checked }
namespace Rows
def none {H : Type} : Left H := { results := [], args := [] }

/-- 'laws.FnExactIsFree': WHATEVER THE INPUT: true; the input reads as it did. -/
def fnExactIsFreeSpec : ChangeSpec := { name := "fnExactIsFree", fn := fun _ => fun
  | [d1, d2, d3] => { results := [.lit (.bool true)], args := [d1, d2, d3] }
  | _ => none }
def fnExactIsFreeRow : OpenClaim := { program := "ythmjmlmmbmdodaa", sum := "d511a27e790caa9412e6bc5ec246e2186ce9045f2dd8e5ae06ec3824b47c472f", func := "loop.example/g01362/laws.FnExactIsFree", spec := "fnExactIsFree", unfollowed := true, recurses := true, apart := false }
def FnExactIsFreeSaid : Prop := fnExactIsFreeRow.holds Try.pinned (OpenSpec.ofChange fnExactIsFreeSpec)

/-- ITS FALSE NEIGHBOUR: 'it returns false'. Refute it at one input. -/
def fnExactIsFreeWrong : ChangeSpec := { name := "fnExactIsFree", fn := fun _ => fun
  | [d1, d2, d3] => { results := [.lit (.bool false)], args := [d1, d2, d3] }
  | _ => none }
def FnExactIsFreeWrongFalsely : Prop := fnExactIsFreeRow.holds Try.pinned (OpenSpec.ofChange fnExactIsFreeWrong)

/-- 'laws.FnExactFirstFault': WHATEVER THE INPUT: true; the input reads as it did. -/
def fnExactFirstFaultSpec : ChangeSpec := { name := "fnExactFirstFault", fn := fun _ => fun
  | [d1, d2, d3] => { results := [.lit (.bool true)], args := [d1, d2, d3] }
  | _ => none }
def fnExactFirstFaultRow : OpenClaim := { program := "ythmjmlmmbmdodaa", sum := "d511a27e790caa9412e6bc5ec246e2186ce9045f2dd8e5ae06ec3824b47c472f", func := "loop.example/g01362/laws.FnExactFirstFault", spec := "fnExactFirstFault", unfollowed := true, recurses := true, apart := false }
def FnExactFirstFaultSaid : Prop := fnExactFirstFaultRow.holds Try.pinned (OpenSpec.ofChange fnExactFirstFaultSpec)

/-- ITS FALSE NEIGHBOUR: 'it returns false'. Refute it at one input. -/
def fnExactFirstFaultWrong : ChangeSpec := { name := "fnExactFirstFault", fn := fun _ => fun
  | [d1, d2, d3] => { results := [.lit (.bool false)], args := [d1, d2, d3] }
  | _ => none }
def FnExactFirstFaultWrongFalsely : Prop := fnExactFirstFaultRow.holds Try.pinned (OpenSpec.ofChange fnExactFirstFaultWrong)

/-- 'laws.FnExactCountFaults': WHATEVER THE INPUT: true; the input reads as it did. -/
def fnExactCountFaultsSpec : ChangeSpec := { name := "fnExactCountFaults", fn := fun _ => fun
  | [d1, d2, d3] => { results := [.lit (.bool true)], args := [d1, d2, d3] }
  | _ => none }
def fnExactCountFaultsRow : OpenClaim := { program := "ythmjmlmmbmdodaa", sum := "d511a27e790caa9412e6bc5ec246e2186ce9045f2dd8e5ae06ec3824b47c472f", func := "loop.example/g01362/laws.FnExactCountFaults", spec := "fnExactCountFaults", unfollowed := true, recurses := true, apart := false }
def FnExactCountFaultsSaid : Prop := fnExactCountFaultsRow.holds Try.pinned (OpenSpec.ofChange fnExactCountFaultsSpec)

/-- ITS FALSE NEIGHBOUR: 'it returns false'. Refute it at one input. -/
def fnExactCountFaultsWrong : ChangeSpec := { name := "fnExactCountFaults", fn := fun _ => fun
  | [d1, d2, d3] => { results := [.lit (.bool false)], args := [d1, d2, d3] }
  | _ => none }
def FnExactCountFaultsWrongFalsely : Prop := fnExactCountFaultsRow.holds Try.pinned (OpenSpec.ofChange fnExactCountFaultsWrong)

/-- 'laws.FnExactColoursNext': WHATEVER THE INPUT: true; the input reads as it did. -/
def fnExactColoursNextSpec : ChangeSpec := { name := "fnExactColoursNext", fn := fun _ => fun
  | [d1, d2, d3] => { results := [.lit (.bool true)], args := [d1, d2, d3] }
  | _ => none }
def fnExactColoursNextRow : OpenClaim := { program := "ythmjmlmmbmdodaa", sum := "d511a27e790caa9412e6bc5ec246e2186ce9045f2dd8e5ae06ec3824b47c472f", func := "loop.example/g01362/laws.FnExactColoursNext", spec := "fnExactColoursNext", unfollowed := true, recurses := true, apart := false }
def FnExactColoursNextSaid : Prop := fnExactColoursNextRow.holds Try.pinned (OpenSpec.ofChange fnExactColoursNextSpec)

/-- ITS FALSE NEIGHBOUR: 'it returns false'. Refute it at one input. -/
def fnExactColoursNextWrong : ChangeSpec := { name := "fnExactColoursNext", fn := fun _ => fun
  | [d1, d2, d3] => { results := [.lit (.bool false)], args := [d1, d2, d3] }
  | _ => none }
def FnExactColoursNextWrongFalsely : Prop := fnExactColoursNextRow.holds Try.pinned (OpenSpec.ofChange fnExactColoursNextWrong)

/-- 'laws.FnExactColouringOfPart': WHATEVER THE INPUT: true; the input reads as it did. -/
def fnExactColouringOfPartSpec : ChangeSpec := { name := "fnExactColouringOfPart", fn := fun _ => fun
  | [d1, d2] => { results := [.lit (.bool true)], args := [d1, d2] }
  | _ => none }
def fnExactColouringOfPartRow : OpenClaim := { program := "ythmjmlmmbmdodaa", sum := "d511a27e790caa9412e6bc5ec246e2186ce9045f2dd8e5ae06ec3824b47c472f", func := "loop.example/g01362/laws.FnExactColouringOfPart", spec := "fnExactColouringOfPart", unfollowed := true, recurses := true, apart := false }
def FnExactColouringOfPartSaid : Prop := fnExactColouringOfPartRow.holds Try.pinned (OpenSpec.ofChange fnExactColouringOfPartSpec)

/-- ITS FALSE NEIGHBOUR: 'it returns false'. Refute it at one input. -/
def fnExactColouringOfPartWrong : ChangeSpec := { name := "fnExactColouringOfPart", fn := fun _ => fun
  | [d1, d2] => { results := [.lit (.bool false)], args := [d1, d2] }
  | _ => none }
def FnExactColouringOfPartWrongFalsely : Prop := fnExactColouringOfPartRow.holds Try.pinned (OpenSpec.ofChange fnExactColouringOfPartWrong)

/-- 'laws.FnExactPartOfColouring': WHATEVER THE INPUT: true; the input reads as it did. -/
def fnExactPartOfColouringSpec : ChangeSpec := { name := "fnExactPartOfColouring", fn := fun _ => fun
  | [d] => { results := [.lit (.bool true)], args := [d] }
  | _ => none }
def fnExactPartOfColouringRow : OpenClaim := { program := "ythmjmlmmbmdodaa", sum := "d511a27e790caa9412e6bc5ec246e2186ce9045f2dd8e5ae06ec3824b47c472f", func := "loop.example/g01362/laws.FnExactPartOfColouring", spec := "fnExactPartOfColouring", unfollowed := true, recurses := true, apart := false }
def FnExactPartOfColouringSaid : Prop := fnExactPartOfColouringRow.holds Try.pinned (OpenSpec.ofChange fnExactPartOfColouringSpec)

/-- ITS FALSE NEIGHBOUR: 'it returns false'. Refute it at one input. -/
def fnExactPartOfColouringWrong : ChangeSpec := { name := "fnExactPartOfColouring", fn := fun _ => fun
  | [d] => { results := [.lit (.bool false)], args := [d] }
  | _ => none }
def FnExactPartOfColouringWrongFalsely : Prop := fnExactPartOfColouringRow.holds Try.pinned (OpenSpec.ofChange fnExactPartOfColouringWrong)

/-- 'laws.FnExactReflectPart': WHATEVER THE INPUT: true; the input reads as it did. -/
def fnExactReflectPartSpec : ChangeSpec := { name := "fnExactReflectPart", fn := fun _ => fun
  | [d1, d2] => { results := [.lit (.bool true)], args := [d1, d2] }
  | _ => none }
def fnExactReflectPartRow : OpenClaim := { program := "ythmjmlmmbmdodaa", sum := "d511a27e790caa9412e6bc5ec246e2186ce9045f2dd8e5ae06ec3824b47c472f", func := "loop.example/g01362/laws.FnExactReflectPart", spec := "fnExactReflectPart", apart := false }
def FnExactReflectPartSaid : Prop := fnExactReflectPartRow.holds Try.pinned (OpenSpec.ofChange fnExactReflectPartSpec)

/-- ITS FALSE NEIGHBOUR: 'it returns false'. Refute it at one input. -/
def fnExactReflectPartWrong : ChangeSpec := { name := "fnExactReflectPart", fn := fun _ => fun
  | [d1, d2] => { results := [.lit (.bool false)], args := [d1, d2] }
  | _ => none }
def FnExactReflectPartWrongFalsely : Prop := fnExactReflectPartRow.holds Try.pinned (OpenSpec.ofChange fnExactReflectPartWrong)

/-- 'laws.FnExactClassOfColour': WHATEVER THE INPUT: true; the input reads as it did. -/
def fnExactClassOfColourSpec : ChangeSpec := { name := "fnExactClassOfColour", fn := fun _ => fun
  | [d1, d2, d3] => { results := [.lit (.bool true)], args := [d1, d2, d3] }
  | _ => none }
def fnExactClassOfColourRow : OpenClaim := { program := "ythmjmlmmbmdodaa", sum := "d511a27e790caa9412e6bc5ec246e2186ce9045f2dd8e5ae06ec3824b47c472f", func := "loop.example/g01362/laws.FnExactClassOfColour", spec := "fnExactClassOfColour", apart := false }
def FnExactClassOfColourSaid : Prop := fnExactClassOfColourRow.holds Try.pinned (OpenSpec.ofChange fnExactClassOfColourSpec)

/-- ITS FALSE NEIGHBOUR: 'it returns false'. Refute it at one input. -/
def fnExactClassOfColourWrong : ChangeSpec := { name := "fnExactClassOfColour", fn := fun _ => fun
  | [d1, d2, d3] => { results := [.lit (.bool false)], args := [d1, d2, d3] }
  | _ => none }
def FnExactClassOfColourWrongFalsely : Prop := fnExactClassOfColourRow.holds Try.pinned (OpenSpec.ofChange fnExactClassOfColourWrong)

/- THE SECOND FORM. 'bulk': how many values and letters a reading holds, each counted each time it is reached (what is shared counts as often as it is met; a slice's spare places count too). A statement '..UptoSaid' is the law's where the arguments, and the package variables that the reading takes, are together of bulk at most 1048576: NARROWER than '..Said'. Prove '..Said' where nothing that the law and all that it calls make is longer than what came in: it says more and counts as full. Else prove '..UptoSaid'. A law counts once. -/
mutual
def uptoBulk {H : Type} : DataW H → Nat
  | .lit (.string bytes) => bytes.length + 1
  | .lit _ => 1
  | .nil => 1
  | .ptr d => uptoBulk d + 1
  | .slice elems spare => uptoBulkAll elems + uptoBulkAll spare + 1
  | .agg parts => uptoBulkAll parts + 1
  | .iface _ d => uptoBulk d + 1
  | .map entries => uptoBulkEntries entries + 1
  | .held _ => 1
def uptoBulkAll {H : Type} : List (DataW H) → Nat
  | [] => 0
  | d :: r => uptoBulk d + uptoBulkAll r
def uptoBulkEntries {H : Type} : List (Lit × DataW H) → Nat
  | [] => 0
  | x :: r => uptoBulkEntry x + uptoBulkEntries r
def uptoBulkEntry {H : Type} : Lit × DataW H → Nat
  | (.string bytes, d) => bytes.length + uptoBulk d + 1
  | (_, d) => uptoBulk d + 1
 end
def uptoSmall : (H : Type) → List (DataW H) → Bool := fun _ ds => decide (uptoBulkAll ds ≤ 1048576)
def OpenSpec.upto (s : _root_.Go.ChangeSpec) : _root_.Go.OpenSpec := { _root_.Go.OpenSpec.ofChange s with cond := some uptoSmall }

/-- 'laws.FnExactIsFree', WHERE WHAT IT READS IS OF BULK AT MOST 1048576: true; the input reads as it did. -/
def fnExactIsFreeUptoRow : OpenClaim := { program := "ythmjmlmmbmdodaa", sum := "d511a27e790caa9412e6bc5ec246e2186ce9045f2dd8e5ae06ec3824b47c472f", func := "loop.example/g01362/laws.FnExactIsFree", spec := "fnExactIsFree", unfollowed := true, recurses := true, apart := false, narrowed := true }
def FnExactIsFreeUptoSaid : Prop := fnExactIsFreeUptoRow.holds Try.pinned (OpenSpec.upto fnExactIsFreeSpec)

/-- 'laws.FnExactFirstFault', WHERE WHAT IT READS IS OF BULK AT MOST 1048576: true; the input reads as it did. -/
def fnExactFirstFaultUptoRow : OpenClaim := { program := "ythmjmlmmbmdodaa", sum := "d511a27e790caa9412e6bc5ec246e2186ce9045f2dd8e5ae06ec3824b47c472f", func := "loop.example/g01362/laws.FnExactFirstFault", spec := "fnExactFirstFault", unfollowed := true, recurses := true, apart := false, narrowed := true }
def FnExactFirstFaultUptoSaid : Prop := fnExactFirstFaultUptoRow.holds Try.pinned (OpenSpec.upto fnExactFirstFaultSpec)

/-- 'laws.FnExactCountFaults', WHERE WHAT IT READS IS OF BULK AT MOST 1048576: true; the input reads as it did. -/
def fnExactCountFaultsUptoRow : OpenClaim := { program := "ythmjmlmmbmdodaa", sum := "d511a27e790caa9412e6bc5ec246e2186ce9045f2dd8e5ae06ec3824b47c472f", func := "loop.example/g01362/laws.FnExactCountFaults", spec := "fnExactCountFaults", unfollowed := true, recurses := true, apart := false, narrowed := true }
def FnExactCountFaultsUptoSaid : Prop := fnExactCountFaultsUptoRow.holds Try.pinned (OpenSpec.upto fnExactCountFaultsSpec)

/-- 'laws.FnExactColoursNext', WHERE WHAT IT READS IS OF BULK AT MOST 1048576: true; the input reads as it did. -/
def fnExactColoursNextUptoRow : OpenClaim := { program := "ythmjmlmmbmdodaa", sum := "d511a27e790caa9412e6bc5ec246e2186ce9045f2dd8e5ae06ec3824b47c472f", func := "loop.example/g01362/laws.FnExactColoursNext", spec := "fnExactColoursNext", unfollowed := true, recurses := true, apart := false, narrowed := true }
def FnExactColoursNextUptoSaid : Prop := fnExactColoursNextUptoRow.holds Try.pinned (OpenSpec.upto fnExactColoursNextSpec)

/-- 'laws.FnExactColouringOfPart', WHERE WHAT IT READS IS OF BULK AT MOST 1048576: true; the input reads as it did. -/
def fnExactColouringOfPartUptoRow : OpenClaim := { program := "ythmjmlmmbmdodaa", sum := "d511a27e790caa9412e6bc5ec246e2186ce9045f2dd8e5ae06ec3824b47c472f", func := "loop.example/g01362/laws.FnExactColouringOfPart", spec := "fnExactColouringOfPart", unfollowed := true, recurses := true, apart := false, narrowed := true }
def FnExactColouringOfPartUptoSaid : Prop := fnExactColouringOfPartUptoRow.holds Try.pinned (OpenSpec.upto fnExactColouringOfPartSpec)

/-- 'laws.FnExactPartOfColouring', WHERE WHAT IT READS IS OF BULK AT MOST 1048576: true; the input reads as it did. -/
def fnExactPartOfColouringUptoRow : OpenClaim := { program := "ythmjmlmmbmdodaa", sum := "d511a27e790caa9412e6bc5ec246e2186ce9045f2dd8e5ae06ec3824b47c472f", func := "loop.example/g01362/laws.FnExactPartOfColouring", spec := "fnExactPartOfColouring", unfollowed := true, recurses := true, apart := false, narrowed := true }
def FnExactPartOfColouringUptoSaid : Prop := fnExactPartOfColouringUptoRow.holds Try.pinned (OpenSpec.upto fnExactPartOfColouringSpec)

/-- 'laws.FnExactReflectPart', WHERE WHAT IT READS IS OF BULK AT MOST 1048576: true; the input reads as it did. -/
def fnExactReflectPartUptoRow : OpenClaim := { program := "ythmjmlmmbmdodaa", sum := "d511a27e790caa9412e6bc5ec246e2186ce9045f2dd8e5ae06ec3824b47c472f", func := "loop.example/g01362/laws.FnExactReflectPart", spec := "fnExactReflectPart", apart := false, narrowed := true }
def FnExactReflectPartUptoSaid : Prop := fnExactReflectPartUptoRow.holds Try.pinned (OpenSpec.upto fnExactReflectPartSpec)

/-- 'laws.FnExactClassOfColour', WHERE WHAT IT READS IS OF BULK AT MOST 1048576: true; the input reads as it did. -/
def fnExactClassOfColourUptoRow : OpenClaim := { program := "ythmjmlmmbmdodaa", sum := "d511a27e790caa9412e6bc5ec246e2186ce9045f2dd8e5ae06ec3824b47c472f", func := "loop.example/g01362/laws.FnExactClassOfColour", spec := "fnExactClassOfColour", apart := false, narrowed := true }
def FnExactClassOfColourUptoSaid : Prop := fnExactClassOfColourUptoRow.holds Try.pinned (OpenSpec.upto fnExactClassOfColourSpec)

end Rows
end Go.Proofs.Ythmjmlmmbmdodaa
