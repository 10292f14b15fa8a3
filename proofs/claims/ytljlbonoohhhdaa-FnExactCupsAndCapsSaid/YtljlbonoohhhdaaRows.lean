/-
  No cell of these rows narrows 'for every input' (looked for: loops, veiled, ifaces, maps, wideKeys, modest, calm, conditions, laid).
  DERIVED. THE GIVEN ROWS OF THIS SEAT. 4 by the template 'for every input the law returns true; each argument reads behind the call as it read before'; 0 by the template 'total and deterministic' (their statements: YtljlbonoohhhdaaTotals.lean).
  GIVEN WITH THE SEED: the statements are not yours to turn. If you find one false, say at which input.
  Laid BY PROGRAM, IN A SANDBOX (cutbox-rows.mjs): the forced cells as the released guide's own fill.sh prints them over the translation 453fbeaebec2e64d… (all of the seat's roots in one cut). By AI agents, Wed Nov 11 2026. No macro, syntax, notation, axiom, sorry.
-/
import Derived.Test.YtljlbonoohhhdaaChecked
import GoSem.Claim
import GoSem.ClaimJoined
import GoSem.ClaimMapViews
import Derived.JoinedTies
import Derived.KernelRfl
namespace Go.Proofs.Ytljlbonoohhhdaa
/- THE CELL 'sum', in the pinned program and in every row, IS THE sha256 OF THE DUMP (.gsa) THAT YtljlbonoohhhdaaProg.lean LOADS. Nothing in Lean hashes anything: it is a label: what it is worth is what the hold of that sum in a sandbox is worth. -/
noncomputable def Try.pinned : Pinned := { name := "ytljlbonoohhhdaa", sum := "453fbeaebec2e64d401747ea5f7646f2f42a4316c8e0239956133b88ea9c9a77", checked := Try.checked }
namespace Rows
def none {H : Type} : Left H := { results := [], args := [] }

/-- 'laws.FnExactSequenceColouring': WHATEVER THE INPUT: true; the input reads as it did. -/
def fnExactSequenceColouringSpec : ChangeSpec := { name := "fnExactSequenceColouring", fn := fun _ => fun
  | [d] => { results := [.lit (.bool true)], args := [d] }
  | _ => none }
def fnExactSequenceColouringRow : OpenClaim := { program := "ytljlbonoohhhdaa", sum := "453fbeaebec2e64d401747ea5f7646f2f42a4316c8e0239956133b88ea9c9a77", func := "loop.example/g01362/laws.FnExactSequenceColouring", spec := "fnExactSequenceColouring", unfollowed := true, recurses := true, apart := false }
def FnExactSequenceColouringSaid : Prop := fnExactSequenceColouringRow.holds Try.pinned (OpenSpec.ofChange fnExactSequenceColouringSpec)

/-- ITS FALSE NEIGHBOUR: 'it returns false'. Refute it at one input. -/
def fnExactSequenceColouringWrong : ChangeSpec := { name := "fnExactSequenceColouring", fn := fun _ => fun
  | [d] => { results := [.lit (.bool false)], args := [d] }
  | _ => none }
def FnExactSequenceColouringWrongFalsely : Prop := fnExactSequenceColouringRow.holds Try.pinned (OpenSpec.ofChange fnExactSequenceColouringWrong)

/-- 'laws.FnExactErdosNumber': WHATEVER THE INPUT: true; the input reads as it did. -/
def fnExactErdosNumberSpec : ChangeSpec := { name := "fnExactErdosNumber", fn := fun _ => fun
  | [d1, d2] => { results := [.lit (.bool true)], args := [d1, d2] }
  | _ => none }
def fnExactErdosNumberRow : OpenClaim := { program := "ytljlbonoohhhdaa", sum := "453fbeaebec2e64d401747ea5f7646f2f42a4316c8e0239956133b88ea9c9a77", func := "loop.example/g01362/laws.FnExactErdosNumber", spec := "fnExactErdosNumber", apart := false }
def FnExactErdosNumberSaid : Prop := fnExactErdosNumberRow.holds Try.pinned (OpenSpec.ofChange fnExactErdosNumberSpec)

/-- ITS FALSE NEIGHBOUR: 'it returns false'. Refute it at one input. -/
def fnExactErdosNumberWrong : ChangeSpec := { name := "fnExactErdosNumber", fn := fun _ => fun
  | [d1, d2] => { results := [.lit (.bool false)], args := [d1, d2] }
  | _ => none }
def FnExactErdosNumberWrongFalsely : Prop := fnExactErdosNumberRow.holds Try.pinned (OpenSpec.ofChange fnExactErdosNumberWrong)

/-- 'laws.FnExactIsLesserColoured': WHATEVER THE INPUT: true; the input reads as it did. -/
def fnExactIsLesserColouredSpec : ChangeSpec := { name := "fnExactIsLesserColoured", fn := fun _ => fun
  | [d1, d2] => { results := [.lit (.bool true)], args := [d1, d2] }
  | _ => none }
def fnExactIsLesserColouredRow : OpenClaim := { program := "ytljlbonoohhhdaa", sum := "453fbeaebec2e64d401747ea5f7646f2f42a4316c8e0239956133b88ea9c9a77", func := "loop.example/g01362/laws.FnExactIsLesserColoured", spec := "fnExactIsLesserColoured", apart := false }
def FnExactIsLesserColouredSaid : Prop := fnExactIsLesserColouredRow.holds Try.pinned (OpenSpec.ofChange fnExactIsLesserColouredSpec)

/-- ITS FALSE NEIGHBOUR: 'it returns false'. Refute it at one input. -/
def fnExactIsLesserColouredWrong : ChangeSpec := { name := "fnExactIsLesserColoured", fn := fun _ => fun
  | [d1, d2] => { results := [.lit (.bool false)], args := [d1, d2] }
  | _ => none }
def FnExactIsLesserColouredWrongFalsely : Prop := fnExactIsLesserColouredRow.holds Try.pinned (OpenSpec.ofChange fnExactIsLesserColouredWrong)

/-- 'laws.FnExactCupsAndCaps': WHATEVER THE INPUT: true; the input reads as it did. -/
def fnExactCupsAndCapsSpec : ChangeSpec := { name := "fnExactCupsAndCaps", fn := fun _ => fun
  | [d] => { results := [.lit (.bool true)], args := [d] }
  | _ => none }
def fnExactCupsAndCapsRow : OpenClaim := { program := "ytljlbonoohhhdaa", sum := "453fbeaebec2e64d401747ea5f7646f2f42a4316c8e0239956133b88ea9c9a77", func := "loop.example/g01362/laws.FnExactCupsAndCaps", spec := "fnExactCupsAndCaps", unfollowed := true, recurses := true, apart := false }
def FnExactCupsAndCapsSaid : Prop := fnExactCupsAndCapsRow.holds Try.pinned (OpenSpec.ofChange fnExactCupsAndCapsSpec)

/-- ITS FALSE NEIGHBOUR: 'it returns false'. Refute it at one input. -/
def fnExactCupsAndCapsWrong : ChangeSpec := { name := "fnExactCupsAndCaps", fn := fun _ => fun
  | [d] => { results := [.lit (.bool false)], args := [d] }
  | _ => none }
def FnExactCupsAndCapsWrongFalsely : Prop := fnExactCupsAndCapsRow.holds Try.pinned (OpenSpec.ofChange fnExactCupsAndCapsWrong)

/- THE SECOND FORM. 'bulk': how many values and letters a reading holds, each counted each time it is reached (what is shared counts as often as it is met; a slice's spare places count too). A statement '..UptoSaid' is the law's where the arguments, and the package variables that the reading takes, are together of bulk at most 1048576: NARROWER than '..Said'. Prove '..Said' where nothing that the law and all that it calls make is longer than what came in: it says more and counts as full. Else prove '..UptoSaid'. A law counts once. -/
mutual
def uptoBulk {H : Type} : DataW H → Nat
  | .lit (.string bytes) => bytes.length + 1
  | .lit _ => 1
  | .nil => 1
  | .ptr d => uptoBulk d + 1
  | .slice elems spare => uptoBulkAll elems + uptoBulkAll spare + 1
  | .agg parts => uptoBulkAll parts + 1
  | .iface _ d => uptoBulk d + 1
  | .map entries => uptoBulkEntries entries + 1
  | .held _ => 1
def uptoBulkAll {H : Type} : List (DataW H) → Nat
  | [] => 0
  | d :: r => uptoBulk d + uptoBulkAll r
def uptoBulkEntries {H : Type} : List (Lit × DataW H) → Nat
  | [] => 0
  | x :: r => uptoBulkEntry x + uptoBulkEntries r
def uptoBulkEntry {H : Type} : Lit × DataW H → Nat
  | (.string bytes, d) => bytes.length + uptoBulk d + 1
  | (_, d) => uptoBulk d + 1
 end
def uptoSmall : (H : Type) → List (DataW H) → Bool := fun _ ds => decide (uptoBulkAll ds ≤ 1048576)
def OpenSpec.upto (s : _root_.Go.ChangeSpec) : _root_.Go.OpenSpec := { _root_.Go.OpenSpec.ofChange s with cond := some uptoSmall }

/-- 'laws.FnExactSequenceColouring', WHERE WHAT IT READS IS OF BULK AT MOST 1048576: true; the input reads as it did. -/
def fnExactSequenceColouringUptoRow : OpenClaim := { program := "ytljlbonoohhhdaa", sum := "453fbeaebec2e64d401747ea5f7646f2f42a4316c8e0239956133b88ea9c9a77", func := "loop.example/g01362/laws.FnExactSequenceColouring", spec := "fnExactSequenceColouring", unfollowed := true, recurses := true, apart := false, narrowed := true }
def FnExactSequenceColouringUptoSaid : Prop := fnExactSequenceColouringUptoRow.holds Try.pinned (OpenSpec.upto fnExactSequenceColouringSpec)

/-- 'laws.FnExactErdosNumber', WHERE WHAT IT READS IS OF BULK AT MOST 1048576: true; the input reads as it did. -/
def fnExactErdosNumberUptoRow : OpenClaim := { program := "ytljlbonoohhhdaa", sum := "453fbeaebec2e64d401747ea5f7646f2f42a4316c8e0239956133b88ea9c9a77", func := "loop.example/g01362/laws.FnExactErdosNumber", spec := "fnExactErdosNumber", apart := false, narrowed := true }
def FnExactErdosNumberUptoSaid : Prop := fnExactErdosNumberUptoRow.holds Try.pinned (OpenSpec.upto fnExactErdosNumberSpec)

/-- 'laws.FnExactIsLesserColoured', WHERE WHAT IT READS IS OF BULK AT MOST 1048576: true; the input reads as it did. -/
def fnExactIsLesserColouredUptoRow : OpenClaim := { program := "ytljlbonoohhhdaa", sum := "453fbeaebec2e64d401747ea5f7646f2f42a4316c8e0239956133b88ea9c9a77", func := "loop.example/g01362/laws.FnExactIsLesserColoured", spec := "fnExactIsLesserColoured", apart := false, narrowed := true }
def FnExactIsLesserColouredUptoSaid : Prop := fnExactIsLesserColouredUptoRow.holds Try.pinned (OpenSpec.upto fnExactIsLesserColouredSpec)

/-- 'laws.FnExactCupsAndCaps', WHERE WHAT IT READS IS OF BULK AT MOST 1048576: true; the input reads as it did. -/
def fnExactCupsAndCapsUptoRow : OpenClaim := { program := "ytljlbonoohhhdaa", sum := "453fbeaebec2e64d401747ea5f7646f2f42a4316c8e0239956133b88ea9c9a77", func := "loop.example/g01362/laws.FnExactCupsAndCaps", spec := "fnExactCupsAndCaps", unfollowed := true, recurses := true, apart := false, narrowed := true }
def FnExactCupsAndCapsUptoSaid : Prop := fnExactCupsAndCapsUptoRow.holds Try.pinned (OpenSpec.upto fnExactCupsAndCapsSpec)

end Rows
end Go.Proofs.Ytljlbonoohhhdaa
