/-
  No cell of these rows narrows 'for every input' (looked for: loops, veiled, ifaces, maps, wideKeys, modest, calm, conditions, laid).
  DERIVED. THE GIVEN ROWS OF THIS SEAT. 7 by the template 'for every input the law returns true; each argument reads behind the call as it read before'; 0 by the template 'total and deterministic' (their statements: YteclbaalejondaaTotals.lean).
  GIVEN WITH THE SEED: the statements are not yours to turn. If you find one false, say at which input.
  Laid BY PROGRAM, IN A SANDBOX (cutbox-rows.mjs): the forced cells as the released guide's own fill.sh prints them over the translation d0cb94adecc69668… (all of the seat's roots in one cut). By AI agents, Wed Nov 11 2026. No macro, syntax, notation, axiom, sorry.
-/
import Derived.Test.YteclbaalejondaaChecked
import GoSem.Claim
import GoSem.ClaimJoined
import GoSem.ClaimMapViews
import Derived.JoinedTies
import Derived.KernelRfl
namespace Go.Proofs.Yteclbaalejondaa
/- THE CELL 'sum', in the pinned program and in every row, IS THE sha256 OF THE DUMP (.gsa) THAT YteclbaalejondaaProg.lean LOADS. Nothing in Lean hashes anything: it is a label: what it is worth is what the hold of that sum in a sandbox is worth. -/
noncomputable def Try.pinned : Pinned := { name := "yteclbaalejondaa", sum := "d0cb94adecc69668d5d62926117d31ab452e26ccdf384593ad2f5951dba3535d", checked := Try.checked }
namespace Rows
def none {H : Type} : Left H := { results := [], args := [] }

/-- 'laws.FnExactIsPosition': WHATEVER THE INPUT: true; the input reads as it did. -/
def fnExactIsPositionSpec : ChangeSpec := { name := "fnExactIsPosition", fn := fun _ => fun
  | [d1, d2] => { results := [.lit (.bool true)], args := [d1, d2] }
  | _ => none }
def fnExactIsPositionRow : OpenClaim := { program := "yteclbaalejondaa", sum := "d0cb94adecc69668d5d62926117d31ab452e26ccdf384593ad2f5951dba3535d", func := "loop.example/g01362/laws.FnExactIsPosition", spec := "fnExactIsPosition", unfollowed := true, recurses := true, apart := false }
def FnExactIsPositionSaid : Prop := fnExactIsPositionRow.holds Try.pinned (OpenSpec.ofChange fnExactIsPositionSpec)

/-- ITS FALSE NEIGHBOUR: 'it returns false'. Refute it at one input. -/
def fnExactIsPositionWrong : ChangeSpec := { name := "fnExactIsPosition", fn := fun _ => fun
  | [d1, d2] => { results := [.lit (.bool false)], args := [d1, d2] }
  | _ => none }
def FnExactIsPositionWrongFalsely : Prop := fnExactIsPositionRow.holds Try.pinned (OpenSpec.ofChange fnExactIsPositionWrong)

/-- 'laws.FnExactMoverOf': WHATEVER THE INPUT: true; the input reads as it did. -/
def fnExactMoverOfSpec : ChangeSpec := { name := "fnExactMoverOf", fn := fun _ => fun
  | [d1, d2] => { results := [.lit (.bool true)], args := [d1, d2] }
  | _ => none }
def fnExactMoverOfRow : OpenClaim := { program := "yteclbaalejondaa", sum := "d0cb94adecc69668d5d62926117d31ab452e26ccdf384593ad2f5951dba3535d", func := "loop.example/g01362/laws.FnExactMoverOf", spec := "fnExactMoverOf", unfollowed := true, recurses := true, apart := false }
def FnExactMoverOfSaid : Prop := fnExactMoverOfRow.holds Try.pinned (OpenSpec.ofChange fnExactMoverOfSpec)

/-- ITS FALSE NEIGHBOUR: 'it returns false'. Refute it at one input. -/
def fnExactMoverOfWrong : ChangeSpec := { name := "fnExactMoverOf", fn := fun _ => fun
  | [d1, d2] => { results := [.lit (.bool false)], args := [d1, d2] }
  | _ => none }
def FnExactMoverOfWrongFalsely : Prop := fnExactMoverOfRow.holds Try.pinned (OpenSpec.ofChange fnExactMoverOfWrong)

/-- 'laws.FnExactResultOf': WHATEVER THE INPUT: true; the input reads as it did. -/
def fnExactResultOfSpec : ChangeSpec := { name := "fnExactResultOf", fn := fun _ => fun
  | [d1, d2] => { results := [.lit (.bool true)], args := [d1, d2] }
  | _ => none }
def fnExactResultOfRow : OpenClaim := { program := "yteclbaalejondaa", sum := "d0cb94adecc69668d5d62926117d31ab452e26ccdf384593ad2f5951dba3535d", func := "loop.example/g01362/laws.FnExactResultOf", spec := "fnExactResultOf", unfollowed := true, recurses := true, apart := false }
def FnExactResultOfSaid : Prop := fnExactResultOfRow.holds Try.pinned (OpenSpec.ofChange fnExactResultOfSpec)

/-- ITS FALSE NEIGHBOUR: 'it returns false'. Refute it at one input. -/
def fnExactResultOfWrong : ChangeSpec := { name := "fnExactResultOf", fn := fun _ => fun
  | [d1, d2] => { results := [.lit (.bool false)], args := [d1, d2] }
  | _ => none }
def FnExactResultOfWrongFalsely : Prop := fnExactResultOfRow.holds Try.pinned (OpenSpec.ofChange fnExactResultOfWrong)

/-- 'laws.FnExactMovesOf': WHATEVER THE INPUT: true; the input reads as it did. -/
def fnExactMovesOfSpec : ChangeSpec := { name := "fnExactMovesOf", fn := fun _ => fun
  | [d1, d2] => { results := [.lit (.bool true)], args := [d1, d2] }
  | _ => none }
def fnExactMovesOfRow : OpenClaim := { program := "yteclbaalejondaa", sum := "d0cb94adecc69668d5d62926117d31ab452e26ccdf384593ad2f5951dba3535d", func := "loop.example/g01362/laws.FnExactMovesOf", spec := "fnExactMovesOf", unfollowed := true, recurses := true, apart := false }
def FnExactMovesOfSaid : Prop := fnExactMovesOfRow.holds Try.pinned (OpenSpec.ofChange fnExactMovesOfSpec)

/-- ITS FALSE NEIGHBOUR: 'it returns false'. Refute it at one input. -/
def fnExactMovesOfWrong : ChangeSpec := { name := "fnExactMovesOf", fn := fun _ => fun
  | [d1, d2] => { results := [.lit (.bool false)], args := [d1, d2] }
  | _ => none }
def FnExactMovesOfWrongFalsely : Prop := fnExactMovesOfRow.holds Try.pinned (OpenSpec.ofChange fnExactMovesOfWrong)

/-- 'laws.FnExactSafeMoves': WHATEVER THE INPUT: true; the input reads as it did. -/
def fnExactSafeMovesSpec : ChangeSpec := { name := "fnExactSafeMoves", fn := fun _ => fun
  | [d1, d2] => { results := [.lit (.bool true)], args := [d1, d2] }
  | _ => none }
def fnExactSafeMovesRow : OpenClaim := { program := "yteclbaalejondaa", sum := "d0cb94adecc69668d5d62926117d31ab452e26ccdf384593ad2f5951dba3535d", func := "loop.example/g01362/laws.FnExactSafeMoves", spec := "fnExactSafeMoves", unfollowed := true, recurses := true, apart := false }
def FnExactSafeMovesSaid : Prop := fnExactSafeMovesRow.holds Try.pinned (OpenSpec.ofChange fnExactSafeMovesSpec)

/-- ITS FALSE NEIGHBOUR: 'it returns false'. Refute it at one input. -/
def fnExactSafeMovesWrong : ChangeSpec := { name := "fnExactSafeMoves", fn := fun _ => fun
  | [d1, d2] => { results := [.lit (.bool false)], args := [d1, d2] }
  | _ => none }
def FnExactSafeMovesWrongFalsely : Prop := fnExactSafeMovesRow.holds Try.pinned (OpenSpec.ofChange fnExactSafeMovesWrong)

/-- 'laws.FnExactMakeMove': WHATEVER THE INPUT: true; the input reads as it did. -/
def fnExactMakeMoveSpec : ChangeSpec := { name := "fnExactMakeMove", fn := fun _ => fun
  | [d1, d2, d3] => { results := [.lit (.bool true)], args := [d1, d2, d3] }
  | _ => none }
def fnExactMakeMoveRow : OpenClaim := { program := "yteclbaalejondaa", sum := "d0cb94adecc69668d5d62926117d31ab452e26ccdf384593ad2f5951dba3535d", func := "loop.example/g01362/laws.FnExactMakeMove", spec := "fnExactMakeMove", unfollowed := true, recurses := true, apart := false }
def FnExactMakeMoveSaid : Prop := fnExactMakeMoveRow.holds Try.pinned (OpenSpec.ofChange fnExactMakeMoveSpec)

/-- ITS FALSE NEIGHBOUR: 'it returns false'. Refute it at one input. -/
def fnExactMakeMoveWrong : ChangeSpec := { name := "fnExactMakeMove", fn := fun _ => fun
  | [d1, d2, d3] => { results := [.lit (.bool false)], args := [d1, d2, d3] }
  | _ => none }
def FnExactMakeMoveWrongFalsely : Prop := fnExactMakeMoveRow.holds Try.pinned (OpenSpec.ofChange fnExactMakeMoveWrong)

/-- 'laws.FnExactRenumberPosition': WHATEVER THE INPUT: true; the input reads as it did. -/
def fnExactRenumberPositionSpec : ChangeSpec := { name := "fnExactRenumberPosition", fn := fun _ => fun
  | [d1, d2, d3] => { results := [.lit (.bool true)], args := [d1, d2, d3] }
  | _ => none }
def fnExactRenumberPositionRow : OpenClaim := { program := "yteclbaalejondaa", sum := "d0cb94adecc69668d5d62926117d31ab452e26ccdf384593ad2f5951dba3535d", func := "loop.example/g01362/laws.FnExactRenumberPosition", spec := "fnExactRenumberPosition", unfollowed := true, recurses := true, apart := false }
def FnExactRenumberPositionSaid : Prop := fnExactRenumberPositionRow.holds Try.pinned (OpenSpec.ofChange fnExactRenumberPositionSpec)

/-- ITS FALSE NEIGHBOUR: 'it returns false'. Refute it at one input. -/
def fnExactRenumberPositionWrong : ChangeSpec := { name := "fnExactRenumberPosition", fn := fun _ => fun
  | [d1, d2, d3] => { results := [.lit (.bool false)], args := [d1, d2, d3] }
  | _ => none }
def FnExactRenumberPositionWrongFalsely : Prop := fnExactRenumberPositionRow.holds Try.pinned (OpenSpec.ofChange fnExactRenumberPositionWrong)

/- THE SECOND FORM. 'bulk': how many values and letters a reading holds, each counted each time it is reached (what is shared counts as often as it is met; a slice's spare places count too). A statement '..UptoSaid' is the law's where the arguments, and the package variables that the reading takes, are together of bulk at most 1048576: NARROWER than '..Said'. Prove '..Said' where nothing that the law and all that it calls make is longer than what came in: it says more and counts as full. Else prove '..UptoSaid'. A law counts once. -/
mutual
def uptoBulk {H : Type} : DataW H → Nat
  | .lit (.string bytes) => bytes.length + 1
  | .lit _ => 1
  | .nil => 1
  | .ptr d => uptoBulk d + 1
  | .slice elems spare => uptoBulkAll elems + uptoBulkAll spare + 1
  | .agg parts => uptoBulkAll parts + 1
  | .iface _ d => uptoBulk d + 1
  | .map entries => uptoBulkEntries entries + 1
  | .held _ => 1
def uptoBulkAll {H : Type} : List (DataW H) → Nat
  | [] => 0
  | d :: r => uptoBulk d + uptoBulkAll r
def uptoBulkEntries {H : Type} : List (Lit × DataW H) → Nat
  | [] => 0
  | x :: r => uptoBulkEntry x + uptoBulkEntries r
def uptoBulkEntry {H : Type} : Lit × DataW H → Nat
  | (.string bytes, d) => bytes.length + uptoBulk d + 1
  | (_, d) => uptoBulk d + 1
 end
def uptoSmall : (H : Type) → List (DataW H) → Bool := fun _ ds => decide (uptoBulkAll ds ≤ 1048576)
def OpenSpec.upto (s : _root_.Go.ChangeSpec) : _root_.Go.OpenSpec := { _root_.Go.OpenSpec.ofChange s with cond := some uptoSmall }

/-- 'laws.FnExactIsPosition', WHERE WHAT IT READS IS OF BULK AT MOST 1048576: true; the input reads as it did. -/
def fnExactIsPositionUptoRow : OpenClaim := { program := "yteclbaalejondaa", sum := "d0cb94adecc69668d5d62926117d31ab452e26ccdf384593ad2f5951dba3535d", func := "loop.example/g01362/laws.FnExactIsPosition", spec := "fnExactIsPosition", unfollowed := true, recurses := true, apart := false, narrowed := true }
def FnExactIsPositionUptoSaid : Prop := fnExactIsPositionUptoRow.holds Try.pinned (OpenSpec.upto fnExactIsPositionSpec)

/-- 'laws.FnExactMoverOf', WHERE WHAT IT READS IS OF BULK AT MOST 1048576: true; the input reads as it did. -/
def fnExactMoverOfUptoRow : OpenClaim := { program := "yteclbaalejondaa", sum := "d0cb94adecc69668d5d62926117d31ab452e26ccdf384593ad2f5951dba3535d", func := "loop.example/g01362/laws.FnExactMoverOf", spec := "fnExactMoverOf", unfollowed := true, recurses := true, apart := false, narrowed := true }
def FnExactMoverOfUptoSaid : Prop := fnExactMoverOfUptoRow.holds Try.pinned (OpenSpec.upto fnExactMoverOfSpec)

/-- 'laws.FnExactResultOf', WHERE WHAT IT READS IS OF BULK AT MOST 1048576: true; the input reads as it did. -/
def fnExactResultOfUptoRow : OpenClaim := { program := "yteclbaalejondaa", sum := "d0cb94adecc69668d5d62926117d31ab452e26ccdf384593ad2f5951dba3535d", func := "loop.example/g01362/laws.FnExactResultOf", spec := "fnExactResultOf", unfollowed := true, recurses := true, apart := false, narrowed := true }
def FnExactResultOfUptoSaid : Prop := fnExactResultOfUptoRow.holds Try.pinned (OpenSpec.upto fnExactResultOfSpec)

/-- 'laws.FnExactMovesOf', WHERE WHAT IT READS IS OF BULK AT MOST 1048576: true; the input reads as it did. -/
def fnExactMovesOfUptoRow : OpenClaim := { program := "yteclbaalejondaa", sum := "d0cb94adecc69668d5d62926117d31ab452e26ccdf384593ad2f5951dba3535d", func := "loop.example/g01362/laws.FnExactMovesOf", spec := "fnExactMovesOf", unfollowed := true, recurses := true, apart := false, narrowed := true }
def FnExactMovesOfUptoSaid : Prop := fnExactMovesOfUptoRow.holds Try.pinned (OpenSpec.upto fnExactMovesOfSpec)

/-- 'laws.FnExactSafeMoves', WHERE WHAT IT READS IS OF BULK AT MOST 1048576: true; the input reads as it did. -/
def fnExactSafeMovesUptoRow : OpenClaim := { program := "yteclbaalejondaa", sum := "d0cb94adecc69668d5d62926117d31ab452e26ccdf384593ad2f5951dba3535d", func := "loop.example/g01362/laws.FnExactSafeMoves", spec := "fnExactSafeMoves", unfollowed := true, recurses := true, apart := false, narrowed := true }
def FnExactSafeMovesUptoSaid : Prop := fnExactSafeMovesUptoRow.holds Try.pinned (OpenSpec.upto fnExactSafeMovesSpec)

/-- 'laws.FnExactMakeMove', WHERE WHAT IT READS IS OF BULK AT MOST 1048576: true; the input reads as it did. -/
def fnExactMakeMoveUptoRow : OpenClaim := { program := "yteclbaalejondaa", sum := "d0cb94adecc69668d5d62926117d31ab452e26ccdf384593ad2f5951dba3535d", func := "loop.example/g01362/laws.FnExactMakeMove", spec := "fnExactMakeMove", unfollowed := true, recurses := true, apart := false, narrowed := true }
def FnExactMakeMoveUptoSaid : Prop := fnExactMakeMoveUptoRow.holds Try.pinned (OpenSpec.upto fnExactMakeMoveSpec)

/-- 'laws.FnExactRenumberPosition', WHERE WHAT IT READS IS OF BULK AT MOST 1048576: true; the input reads as it did. -/
def fnExactRenumberPositionUptoRow : OpenClaim := { program := "yteclbaalejondaa", sum := "d0cb94adecc69668d5d62926117d31ab452e26ccdf384593ad2f5951dba3535d", func := "loop.example/g01362/laws.FnExactRenumberPosition", spec := "fnExactRenumberPosition", unfollowed := true, recurses := true, apart := false, narrowed := true }
def FnExactRenumberPositionUptoSaid : Prop := fnExactRenumberPositionUptoRow.holds Try.pinned (OpenSpec.upto fnExactRenumberPositionSpec)

end Rows
end Go.Proofs.Yteclbaalejondaa
