/-
  No cell of these rows narrows 'for every input' (looked for: loops, veiled, ifaces, maps, wideKeys, modest, calm, conditions, laid).
  DERIVED. THE GIVEN ROWS OF THIS SEAT. 4 by the template 'for every input the law returns true; each argument reads behind the call as it read before'; 0 by the template 'total and deterministic' (their statements: YthohkfdloinlmaaTotals.lean).
  GIVEN WITH THE SEED: the statements are not yours to turn. If you find one false, say at which input.
  Laid BY PROGRAM, IN A SANDBOX (cutbox-rows.mjs): the forced cells as the released guide's own fill.sh prints them over the translation 253fce399dfa8c48… (all of the seat's roots in one cut). By AI agents, Wed Nov 11 2026. No macro, syntax, notation, axiom, sorry.
-/
import Derived.Test.YthohkfdloinlmaaChecked
import GoSem.Claim
import GoSem.ClaimJoined
import GoSem.ClaimMapViews
import Derived.JoinedTies
import Derived.KernelRfl
namespace Go.Proofs.Ythohkfdloinlmaa
/- THE CELL 'sum', in the pinned program and in every row, IS THE sha256 OF THE DUMP (.gsa) THAT YthohkfdloinlmaaProg.lean LOADS. Nothing in Lean hashes anything: it is a label: what it is worth is what the hold of that sum in a sandbox is worth. -/
noncomputable def Try.pinned : Pinned := { name := "ythohkfdloinlmaa", sum := "253fce399dfa8c480086952f69ef1be0d34996857c9a7eb8eed40b7780be91d6", checked := Try.checked }
namespace Rows
def none {H : Type} : Left H := { results := [], args := [] }

/-- 'laws.FnExactCountTriangles': WHATEVER THE INPUT: true; the input reads as it did. -/
def fnExactCountTrianglesSpec : ChangeSpec := { name := "fnExactCountTriangles", fn := fun _ => fun
  | [d] => { results := [.lit (.bool true)], args := [d] }
  | _ => none }
def fnExactCountTrianglesRow : OpenClaim := { program := "ythohkfdloinlmaa", sum := "253fce399dfa8c480086952f69ef1be0d34996857c9a7eb8eed40b7780be91d6", func := "loop.example/g01362/laws.FnExactCountTriangles", spec := "fnExactCountTriangles", unfollowed := true, recurses := true, plainKeys := false, apart := false }
def FnExactCountTrianglesSaid : Prop := fnExactCountTrianglesRow.holds Try.pinned (OpenSpec.ofChange fnExactCountTrianglesSpec)

/-- ITS FALSE NEIGHBOUR: 'it returns false'. Refute it at one input. -/
def fnExactCountTrianglesWrong : ChangeSpec := { name := "fnExactCountTriangles", fn := fun _ => fun
  | [d] => { results := [.lit (.bool false)], args := [d] }
  | _ => none }
def FnExactCountTrianglesWrongFalsely : Prop := fnExactCountTrianglesRow.holds Try.pinned (OpenSpec.ofChange fnExactCountTrianglesWrong)

/-- 'laws.FnExactAvoidsSizes': WHATEVER THE INPUT: true; the input reads as it did. -/
def fnExactAvoidsSizesSpec : ChangeSpec := { name := "fnExactAvoidsSizes", fn := fun _ => fun
  | [d1, d2] => { results := [.lit (.bool true)], args := [d1, d2] }
  | _ => none }
def fnExactAvoidsSizesRow : OpenClaim := { program := "ythohkfdloinlmaa", sum := "253fce399dfa8c480086952f69ef1be0d34996857c9a7eb8eed40b7780be91d6", func := "loop.example/g01362/laws.FnExactAvoidsSizes", spec := "fnExactAvoidsSizes", unfollowed := true, recurses := true, plainKeys := false, apart := false }
def FnExactAvoidsSizesSaid : Prop := fnExactAvoidsSizesRow.holds Try.pinned (OpenSpec.ofChange fnExactAvoidsSizesSpec)

/-- ITS FALSE NEIGHBOUR: 'it returns false'. Refute it at one input. -/
def fnExactAvoidsSizesWrong : ChangeSpec := { name := "fnExactAvoidsSizes", fn := fun _ => fun
  | [d1, d2] => { results := [.lit (.bool false)], args := [d1, d2] }
  | _ => none }
def FnExactAvoidsSizesWrongFalsely : Prop := fnExactAvoidsSizesRow.holds Try.pinned (OpenSpec.ofChange fnExactAvoidsSizesWrong)

/-- 'laws.FnExactCliqueNumbers': WHATEVER THE INPUT: true; the input reads as it did. -/
def fnExactCliqueNumbersSpec : ChangeSpec := { name := "fnExactCliqueNumbers", fn := fun _ => fun
  | [d] => { results := [.lit (.bool true)], args := [d] }
  | _ => none }
def fnExactCliqueNumbersRow : OpenClaim := { program := "ythohkfdloinlmaa", sum := "253fce399dfa8c480086952f69ef1be0d34996857c9a7eb8eed40b7780be91d6", func := "loop.example/g01362/laws.FnExactCliqueNumbers", spec := "fnExactCliqueNumbers", unfollowed := true, recurses := true, plainKeys := false, apart := false }
def FnExactCliqueNumbersSaid : Prop := fnExactCliqueNumbersRow.holds Try.pinned (OpenSpec.ofChange fnExactCliqueNumbersSpec)

/-- ITS FALSE NEIGHBOUR: 'it returns false'. Refute it at one input. -/
def fnExactCliqueNumbersWrong : ChangeSpec := { name := "fnExactCliqueNumbers", fn := fun _ => fun
  | [d] => { results := [.lit (.bool false)], args := [d] }
  | _ => none }
def FnExactCliqueNumbersWrongFalsely : Prop := fnExactCliqueNumbersRow.holds Try.pinned (OpenSpec.ofChange fnExactCliqueNumbersWrong)

/-- 'laws.FnExactNamedColouring': WHATEVER THE INPUT: true; the input reads as it did. -/
def fnExactNamedColouringSpec : ChangeSpec := { name := "fnExactNamedColouring", fn := fun _ => fun
  | [d] => { results := [.lit (.bool true)], args := [d] }
  | _ => none }
def fnExactNamedColouringRow : OpenClaim := { program := "ythohkfdloinlmaa", sum := "253fce399dfa8c480086952f69ef1be0d34996857c9a7eb8eed40b7780be91d6", func := "loop.example/g01362/laws.FnExactNamedColouring", spec := "fnExactNamedColouring", unfollowed := true, recurses := true, plainKeys := false, apart := false }
def FnExactNamedColouringSaid : Prop := fnExactNamedColouringRow.holds Try.pinned (OpenSpec.ofChange fnExactNamedColouringSpec)

/-- ITS FALSE NEIGHBOUR: 'it returns false'. Refute it at one input. -/
def fnExactNamedColouringWrong : ChangeSpec := { name := "fnExactNamedColouring", fn := fun _ => fun
  | [d] => { results := [.lit (.bool false)], args := [d] }
  | _ => none }
def FnExactNamedColouringWrongFalsely : Prop := fnExactNamedColouringRow.holds Try.pinned (OpenSpec.ofChange fnExactNamedColouringWrong)

/- THE SECOND FORM. 'bulk': how many values and letters a reading holds, each counted each time it is reached (what is shared counts as often as it is met; a slice's spare places count too). A statement '..UptoSaid' is the law's where the arguments, and the package variables that the reading takes, are together of bulk at most 1048576: NARROWER than '..Said'. Prove '..Said' where nothing that the law and all that it calls make is longer than what came in: it says more and counts as full. Else prove '..UptoSaid'. A law counts once. -/
mutual
def uptoBulk {H : Type} : DataW H → Nat
  | .lit (.string bytes) => bytes.length + 1
  | .lit _ => 1
  | .nil => 1
  | .ptr d => uptoBulk d + 1
  | .slice elems spare => uptoBulkAll elems + uptoBulkAll spare + 1
  | .agg parts => uptoBulkAll parts + 1
  | .iface _ d => uptoBulk d + 1
  | .map entries => uptoBulkEntries entries + 1
  | .held _ => 1
def uptoBulkAll {H : Type} : List (DataW H) → Nat
  | [] => 0
  | d :: r => uptoBulk d + uptoBulkAll r
def uptoBulkEntries {H : Type} : List (Lit × DataW H) → Nat
  | [] => 0
  | x :: r => uptoBulkEntry x + uptoBulkEntries r
def uptoBulkEntry {H : Type} : Lit × DataW H → Nat
  | (.string bytes, d) => bytes.length + uptoBulk d + 1
  | (_, d) => uptoBulk d + 1
 end
def uptoSmall : (H : Type) → List (DataW H) → Bool := fun _ ds => decide (uptoBulkAll ds ≤ 1048576)
def OpenSpec.upto (s : _root_.Go.ChangeSpec) : _root_.Go.OpenSpec := { _root_.Go.OpenSpec.ofChange s with cond := some uptoSmall }

/-- 'laws.FnExactCountTriangles', WHERE WHAT IT READS IS OF BULK AT MOST 1048576: true; the input reads as it did. -/
def fnExactCountTrianglesUptoRow : OpenClaim := { program := "ythohkfdloinlmaa", sum := "253fce399dfa8c480086952f69ef1be0d34996857c9a7eb8eed40b7780be91d6", func := "loop.example/g01362/laws.FnExactCountTriangles", spec := "fnExactCountTriangles", unfollowed := true, recurses := true, plainKeys := false, apart := false, narrowed := true }
def FnExactCountTrianglesUptoSaid : Prop := fnExactCountTrianglesUptoRow.holds Try.pinned (OpenSpec.upto fnExactCountTrianglesSpec)

/-- 'laws.FnExactAvoidsSizes', WHERE WHAT IT READS IS OF BULK AT MOST 1048576: true; the input reads as it did. -/
def fnExactAvoidsSizesUptoRow : OpenClaim := { program := "ythohkfdloinlmaa", sum := "253fce399dfa8c480086952f69ef1be0d34996857c9a7eb8eed40b7780be91d6", func := "loop.example/g01362/laws.FnExactAvoidsSizes", spec := "fnExactAvoidsSizes", unfollowed := true, recurses := true, plainKeys := false, apart := false, narrowed := true }
def FnExactAvoidsSizesUptoSaid : Prop := fnExactAvoidsSizesUptoRow.holds Try.pinned (OpenSpec.upto fnExactAvoidsSizesSpec)

/-- 'laws.FnExactCliqueNumbers', WHERE WHAT IT READS IS OF BULK AT MOST 1048576: true; the input reads as it did. -/
def fnExactCliqueNumbersUptoRow : OpenClaim := { program := "ythohkfdloinlmaa", sum := "253fce399dfa8c480086952f69ef1be0d34996857c9a7eb8eed40b7780be91d6", func := "loop.example/g01362/laws.FnExactCliqueNumbers", spec := "fnExactCliqueNumbers", unfollowed := true, recurses := true, plainKeys := false, apart := false, narrowed := true }
def FnExactCliqueNumbersUptoSaid : Prop := fnExactCliqueNumbersUptoRow.holds Try.pinned (OpenSpec.upto fnExactCliqueNumbersSpec)

/-- 'laws.FnExactNamedColouring', WHERE WHAT IT READS IS OF BULK AT MOST 1048576: true; the input reads as it did. -/
def fnExactNamedColouringUptoRow : OpenClaim := { program := "ythohkfdloinlmaa", sum := "253fce399dfa8c480086952f69ef1be0d34996857c9a7eb8eed40b7780be91d6", func := "loop.example/g01362/laws.FnExactNamedColouring", spec := "fnExactNamedColouring", unfollowed := true, recurses := true, plainKeys := false, apart := false, narrowed := true }
def FnExactNamedColouringUptoSaid : Prop := fnExactNamedColouringUptoRow.holds Try.pinned (OpenSpec.upto fnExactNamedColouringSpec)

end Rows
end Go.Proofs.Ythohkfdloinlmaa
