/-
  NARROWER THAN 'FOR EVERY INPUT', by the rows' own cells (each row's printed sentence says how): FnExactBinomialBound: ifaces, laid · FnExactNeighbourBound: ifaces, laid · FnExactCountingBound: ifaces, laid · FnExactKnownNumber: ifaces, laid · FnExactPathNumber: ifaces, laid · FnExactStarNumber: ifaces, laid · FnExactMatchingNumber: ifaces, laid · FnExactTriangleBound: ifaces, laid.
  DERIVED. THE GIVEN ROWS OF THIS SEAT. 8 by the template 'for every input the law returns true; each argument reads behind the call as it read before'; 0 by the template 'total and deterministic' (their statements: YtblehhiojednhaaDoorTotals.lean).
  GIVEN WITH THE SEED: the statements are not yours to turn. If you find one false, say at which input.
  Laid BY PROGRAM, IN A SANDBOX (cutbox-rows.mjs): the forced cells as the released guide's own fill.sh prints them over the translation 6ca0d7009a2468cb… (all of the seat's roots in one cut). By AI agents, Wed Nov 11 2026. No macro, syntax, notation, axiom, sorry.
-/
import Derived.Test.YtblehhiojednhaaDoorChecked
import GoSem.Claim
import GoSem.ClaimJoined
import GoSem.ClaimMapViews
import Derived.JoinedTies
import Derived.KernelRfl
namespace Go.Proofs.YtblehhiojednhaaDoor
/- THE CELL 'sum', in the pinned program and in every row, IS THE sha256 OF THE DUMP (.gsa) THAT YtblehhiojednhaaDoorProg.lean LOADS. Nothing in Lean hashes anything: it is a label: what it is worth is what the hold of that sum in a sandbox is worth. -/
noncomputable def Tryd.pinned : Pinned := { name := "ytblehhiojednhaadoor", sum := "6ca0d7009a2468cb461b6a1d5ce67342f908b9cd33c5251cadd2b1edd2f11e91", checked := Tryd.checked }
namespace Rows
def none {H : Type} : Left H := { results := [], args := [] }

/- WHAT THE LISTED PACKAGE-LEVEL VARIABLES READ AS WHEN THE CALL BEGINS. Each datum BY PROGRAM (the guide's laid-datum.mjs) off the statement by which the dump's own 'gosem.cut.vars' lays the variable. In a bare row this is a premise. The card (YtblehhiojednhaaDoorCards.lean) ties it to the program's text. -/
def laid_loop_example_g01362_impl_errOutside {H : Type} : DataW H := .iface "*errors.errorString" (.ptr (.agg [.lit (.string [97, 32, 110, 117, 109, 98, 101, 114, 32, 105, 115, 32, 110, 111, 116, 32, 105, 110, 32, 116, 104, 101, 32, 114, 97, 110, 103, 101, 32, 116, 111, 108, 100])]))

/-- 'laws.FnExactBinomialBound': WHATEVER THE INPUT: true; the input reads as it did. -/
def fnExactBinomialBoundSpec : ChangeSpec := { name := "fnExactBinomialBound", vars := ["loop.example/g01362/impl.errOutside"], fn := fun _ => fun
  | [d1, d2, g1] => { results := [.lit (.bool true)], args := [d1, d2], vars := [g1] }
  | _ => none }
def fnExactBinomialBoundRow : OpenClaim := { program := "ytblehhiojednhaadoor", sum := "6ca0d7009a2468cb461b6a1d5ce67342f908b9cd33c5251cadd2b1edd2f11e91", func := "loop.example/g01362/laws.FnExactBinomialBound", spec := "fnExactBinomialBound", inPlace := ["internal/reflectlite.TypeOf"], unfollowed := true, recurses := true, named := ["loop.example/g01362/impl.errOutside"], ifaces := true, plainKeys := false, apart := false, laid := [("loop.example/g01362/impl.errOutside", laid_loop_example_g01362_impl_errOutside)] }
def FnExactBinomialBoundSaid : Prop := fnExactBinomialBoundRow.holds Tryd.pinned (OpenSpec.ofChange fnExactBinomialBoundSpec)

/-- ITS FALSE NEIGHBOUR: 'it returns false'. Refute it at one input. -/
def fnExactBinomialBoundWrong : ChangeSpec := { name := "fnExactBinomialBound", vars := ["loop.example/g01362/impl.errOutside"], fn := fun _ => fun
  | [d1, d2, g1] => { results := [.lit (.bool false)], args := [d1, d2], vars := [g1] }
  | _ => none }
def FnExactBinomialBoundWrongFalsely : Prop := fnExactBinomialBoundRow.holds Tryd.pinned (OpenSpec.ofChange fnExactBinomialBoundWrong)

/-- 'laws.FnExactNeighbourBound': WHATEVER THE INPUT: true; the input reads as it did. -/
def fnExactNeighbourBoundSpec : ChangeSpec := { name := "fnExactNeighbourBound", vars := ["loop.example/g01362/impl.errOutside"], fn := fun _ => fun
  | [d, g1] => { results := [.lit (.bool true)], args := [d], vars := [g1] }
  | _ => none }
def fnExactNeighbourBoundRow : OpenClaim := { program := "ytblehhiojednhaadoor", sum := "6ca0d7009a2468cb461b6a1d5ce67342f908b9cd33c5251cadd2b1edd2f11e91", func := "loop.example/g01362/laws.FnExactNeighbourBound", spec := "fnExactNeighbourBound", inPlace := ["internal/reflectlite.TypeOf"], unfollowed := true, recurses := true, named := ["loop.example/g01362/impl.errOutside"], ifaces := true, plainKeys := false, apart := false, laid := [("loop.example/g01362/impl.errOutside", laid_loop_example_g01362_impl_errOutside)] }
def FnExactNeighbourBoundSaid : Prop := fnExactNeighbourBoundRow.holds Tryd.pinned (OpenSpec.ofChange fnExactNeighbourBoundSpec)

/-- ITS FALSE NEIGHBOUR: 'it returns false'. Refute it at one input. -/
def fnExactNeighbourBoundWrong : ChangeSpec := { name := "fnExactNeighbourBound", vars := ["loop.example/g01362/impl.errOutside"], fn := fun _ => fun
  | [d, g1] => { results := [.lit (.bool false)], args := [d], vars := [g1] }
  | _ => none }
def FnExactNeighbourBoundWrongFalsely : Prop := fnExactNeighbourBoundRow.holds Tryd.pinned (OpenSpec.ofChange fnExactNeighbourBoundWrong)

/-- 'laws.FnExactCountingBound': WHATEVER THE INPUT: true; the input reads as it did. -/
def fnExactCountingBoundSpec : ChangeSpec := { name := "fnExactCountingBound", vars := ["loop.example/g01362/impl.errOutside"], fn := fun _ => fun
  | [d, g1] => { results := [.lit (.bool true)], args := [d], vars := [g1] }
  | _ => none }
def fnExactCountingBoundRow : OpenClaim := { program := "ytblehhiojednhaadoor", sum := "6ca0d7009a2468cb461b6a1d5ce67342f908b9cd33c5251cadd2b1edd2f11e91", func := "loop.example/g01362/laws.FnExactCountingBound", spec := "fnExactCountingBound", inPlace := ["internal/reflectlite.TypeOf"], unfollowed := true, recurses := true, named := ["loop.example/g01362/impl.errOutside"], ifaces := true, plainKeys := false, apart := false, laid := [("loop.example/g01362/impl.errOutside", laid_loop_example_g01362_impl_errOutside)] }
def FnExactCountingBoundSaid : Prop := fnExactCountingBoundRow.holds Tryd.pinned (OpenSpec.ofChange fnExactCountingBoundSpec)

/-- ITS FALSE NEIGHBOUR: 'it returns false'. Refute it at one input. -/
def fnExactCountingBoundWrong : ChangeSpec := { name := "fnExactCountingBound", vars := ["loop.example/g01362/impl.errOutside"], fn := fun _ => fun
  | [d, g1] => { results := [.lit (.bool false)], args := [d], vars := [g1] }
  | _ => none }
def FnExactCountingBoundWrongFalsely : Prop := fnExactCountingBoundRow.holds Tryd.pinned (OpenSpec.ofChange fnExactCountingBoundWrong)

/-- 'laws.FnExactKnownNumber': WHATEVER THE INPUT: true; the input reads as it did. -/
def fnExactKnownNumberSpec : ChangeSpec := { name := "fnExactKnownNumber", vars := ["loop.example/g01362/impl.errOutside"], fn := fun _ => fun
  | [d1, d2, g1] => { results := [.lit (.bool true)], args := [d1, d2], vars := [g1] }
  | _ => none }
def fnExactKnownNumberRow : OpenClaim := { program := "ytblehhiojednhaadoor", sum := "6ca0d7009a2468cb461b6a1d5ce67342f908b9cd33c5251cadd2b1edd2f11e91", func := "loop.example/g01362/laws.FnExactKnownNumber", spec := "fnExactKnownNumber", inPlace := ["internal/reflectlite.TypeOf"], unfollowed := true, recurses := true, named := ["loop.example/g01362/impl.errOutside"], ifaces := true, plainKeys := false, apart := false, laid := [("loop.example/g01362/impl.errOutside", laid_loop_example_g01362_impl_errOutside)] }
def FnExactKnownNumberSaid : Prop := fnExactKnownNumberRow.holds Tryd.pinned (OpenSpec.ofChange fnExactKnownNumberSpec)

/-- ITS FALSE NEIGHBOUR: 'it returns false'. Refute it at one input. -/
def fnExactKnownNumberWrong : ChangeSpec := { name := "fnExactKnownNumber", vars := ["loop.example/g01362/impl.errOutside"], fn := fun _ => fun
  | [d1, d2, g1] => { results := [.lit (.bool false)], args := [d1, d2], vars := [g1] }
  | _ => none }
def FnExactKnownNumberWrongFalsely : Prop := fnExactKnownNumberRow.holds Tryd.pinned (OpenSpec.ofChange fnExactKnownNumberWrong)

/-- 'laws.FnExactPathNumber': WHATEVER THE INPUT: true; the input reads as it did. -/
def fnExactPathNumberSpec : ChangeSpec := { name := "fnExactPathNumber", vars := ["loop.example/g01362/impl.errOutside"], fn := fun _ => fun
  | [d1, d2, g1] => { results := [.lit (.bool true)], args := [d1, d2], vars := [g1] }
  | _ => none }
def fnExactPathNumberRow : OpenClaim := { program := "ytblehhiojednhaadoor", sum := "6ca0d7009a2468cb461b6a1d5ce67342f908b9cd33c5251cadd2b1edd2f11e91", func := "loop.example/g01362/laws.FnExactPathNumber", spec := "fnExactPathNumber", inPlace := ["internal/reflectlite.TypeOf"], unfollowed := true, recurses := true, named := ["loop.example/g01362/impl.errOutside"], ifaces := true, plainKeys := false, apart := false, laid := [("loop.example/g01362/impl.errOutside", laid_loop_example_g01362_impl_errOutside)] }
def FnExactPathNumberSaid : Prop := fnExactPathNumberRow.holds Tryd.pinned (OpenSpec.ofChange fnExactPathNumberSpec)

/-- ITS FALSE NEIGHBOUR: 'it returns false'. Refute it at one input. -/
def fnExactPathNumberWrong : ChangeSpec := { name := "fnExactPathNumber", vars := ["loop.example/g01362/impl.errOutside"], fn := fun _ => fun
  | [d1, d2, g1] => { results := [.lit (.bool false)], args := [d1, d2], vars := [g1] }
  | _ => none }
def FnExactPathNumberWrongFalsely : Prop := fnExactPathNumberRow.holds Tryd.pinned (OpenSpec.ofChange fnExactPathNumberWrong)

/-- 'laws.FnExactStarNumber': WHATEVER THE INPUT: true; the input reads as it did. -/
def fnExactStarNumberSpec : ChangeSpec := { name := "fnExactStarNumber", vars := ["loop.example/g01362/impl.errOutside"], fn := fun _ => fun
  | [d1, d2, g1] => { results := [.lit (.bool true)], args := [d1, d2], vars := [g1] }
  | _ => none }
def fnExactStarNumberRow : OpenClaim := { program := "ytblehhiojednhaadoor", sum := "6ca0d7009a2468cb461b6a1d5ce67342f908b9cd33c5251cadd2b1edd2f11e91", func := "loop.example/g01362/laws.FnExactStarNumber", spec := "fnExactStarNumber", inPlace := ["internal/reflectlite.TypeOf"], unfollowed := true, recurses := true, named := ["loop.example/g01362/impl.errOutside"], ifaces := true, plainKeys := false, apart := false, laid := [("loop.example/g01362/impl.errOutside", laid_loop_example_g01362_impl_errOutside)] }
def FnExactStarNumberSaid : Prop := fnExactStarNumberRow.holds Tryd.pinned (OpenSpec.ofChange fnExactStarNumberSpec)

/-- ITS FALSE NEIGHBOUR: 'it returns false'. Refute it at one input. -/
def fnExactStarNumberWrong : ChangeSpec := { name := "fnExactStarNumber", vars := ["loop.example/g01362/impl.errOutside"], fn := fun _ => fun
  | [d1, d2, g1] => { results := [.lit (.bool false)], args := [d1, d2], vars := [g1] }
  | _ => none }
def FnExactStarNumberWrongFalsely : Prop := fnExactStarNumberRow.holds Tryd.pinned (OpenSpec.ofChange fnExactStarNumberWrong)

/-- 'laws.FnExactMatchingNumber': WHATEVER THE INPUT: true; the input reads as it did. -/
def fnExactMatchingNumberSpec : ChangeSpec := { name := "fnExactMatchingNumber", vars := ["loop.example/g01362/impl.errOutside"], fn := fun _ => fun
  | [d1, d2, g1] => { results := [.lit (.bool true)], args := [d1, d2], vars := [g1] }
  | _ => none }
def fnExactMatchingNumberRow : OpenClaim := { program := "ytblehhiojednhaadoor", sum := "6ca0d7009a2468cb461b6a1d5ce67342f908b9cd33c5251cadd2b1edd2f11e91", func := "loop.example/g01362/laws.FnExactMatchingNumber", spec := "fnExactMatchingNumber", inPlace := ["internal/reflectlite.TypeOf"], unfollowed := true, recurses := true, named := ["loop.example/g01362/impl.errOutside"], ifaces := true, plainKeys := false, apart := false, laid := [("loop.example/g01362/impl.errOutside", laid_loop_example_g01362_impl_errOutside)] }
def FnExactMatchingNumberSaid : Prop := fnExactMatchingNumberRow.holds Tryd.pinned (OpenSpec.ofChange fnExactMatchingNumberSpec)

/-- ITS FALSE NEIGHBOUR: 'it returns false'. Refute it at one input. -/
def fnExactMatchingNumberWrong : ChangeSpec := { name := "fnExactMatchingNumber", vars := ["loop.example/g01362/impl.errOutside"], fn := fun _ => fun
  | [d1, d2, g1] => { results := [.lit (.bool false)], args := [d1, d2], vars := [g1] }
  | _ => none }
def FnExactMatchingNumberWrongFalsely : Prop := fnExactMatchingNumberRow.holds Tryd.pinned (OpenSpec.ofChange fnExactMatchingNumberWrong)

/-- 'laws.FnExactTriangleBound': WHATEVER THE INPUT: true; the input reads as it did. -/
def fnExactTriangleBoundSpec : ChangeSpec := { name := "fnExactTriangleBound", vars := ["loop.example/g01362/impl.errOutside"], fn := fun _ => fun
  | [d, g1] => { results := [.lit (.bool true)], args := [d], vars := [g1] }
  | _ => none }
def fnExactTriangleBoundRow : OpenClaim := { program := "ytblehhiojednhaadoor", sum := "6ca0d7009a2468cb461b6a1d5ce67342f908b9cd33c5251cadd2b1edd2f11e91", func := "loop.example/g01362/laws.FnExactTriangleBound", spec := "fnExactTriangleBound", inPlace := ["internal/reflectlite.TypeOf"], unfollowed := true, recurses := true, named := ["loop.example/g01362/impl.errOutside"], ifaces := true, plainKeys := false, apart := false, laid := [("loop.example/g01362/impl.errOutside", laid_loop_example_g01362_impl_errOutside)] }
def FnExactTriangleBoundSaid : Prop := fnExactTriangleBoundRow.holds Tryd.pinned (OpenSpec.ofChange fnExactTriangleBoundSpec)

/-- ITS FALSE NEIGHBOUR: 'it returns false'. Refute it at one input. -/
def fnExactTriangleBoundWrong : ChangeSpec := { name := "fnExactTriangleBound", vars := ["loop.example/g01362/impl.errOutside"], fn := fun _ => fun
  | [d, g1] => { results := [.lit (.bool false)], args := [d], vars := [g1] }
  | _ => none }
def FnExactTriangleBoundWrongFalsely : Prop := fnExactTriangleBoundRow.holds Tryd.pinned (OpenSpec.ofChange fnExactTriangleBoundWrong)

/- THE SECOND FORM. 'bulk': how many values and letters a reading holds, each counted each time it is reached (what is shared counts as often as it is met; a slice's spare places count too). A statement '..UptoSaid' is the law's where the arguments, and the package variables that the reading takes, are together of bulk at most 1048576: NARROWER than '..Said'. Prove '..Said' where nothing that the law and all that it calls make is longer than what came in: it says more and counts as full. Else prove '..UptoSaid'. A law counts once. -/
mutual
def uptoBulk {H : Type} : DataW H → Nat
  | .lit (.string bytes) => bytes.length + 1
  | .lit _ => 1
  | .nil => 1
  | .ptr d => uptoBulk d + 1
  | .slice elems spare => uptoBulkAll elems + uptoBulkAll spare + 1
  | .agg parts => uptoBulkAll parts + 1
  | .iface _ d => uptoBulk d + 1
  | .map entries => uptoBulkEntries entries + 1
  | .held _ => 1
def uptoBulkAll {H : Type} : List (DataW H) → Nat
  | [] => 0
  | d :: r => uptoBulk d + uptoBulkAll r
def uptoBulkEntries {H : Type} : List (Lit × DataW H) → Nat
  | [] => 0
  | x :: r => uptoBulkEntry x + uptoBulkEntries r
def uptoBulkEntry {H : Type} : Lit × DataW H → Nat
  | (.string bytes, d) => bytes.length + uptoBulk d + 1
  | (_, d) => uptoBulk d + 1
 end
def uptoSmall : (H : Type) → List (DataW H) → Bool := fun _ ds => decide (uptoBulkAll ds ≤ 1048576)
def OpenSpec.upto (s : _root_.Go.ChangeSpec) : _root_.Go.OpenSpec := { _root_.Go.OpenSpec.ofChange s with cond := some uptoSmall }

/-- 'laws.FnExactBinomialBound', WHERE WHAT IT READS IS OF BULK AT MOST 1048576: true; the input reads as it did. -/
def fnExactBinomialBoundUptoRow : OpenClaim := { program := "ytblehhiojednhaadoor", sum := "6ca0d7009a2468cb461b6a1d5ce67342f908b9cd33c5251cadd2b1edd2f11e91", func := "loop.example/g01362/laws.FnExactBinomialBound", spec := "fnExactBinomialBound", inPlace := ["internal/reflectlite.TypeOf"], unfollowed := true, recurses := true, named := ["loop.example/g01362/impl.errOutside"], ifaces := true, plainKeys := false, apart := false, laid := [("loop.example/g01362/impl.errOutside", laid_loop_example_g01362_impl_errOutside)], narrowed := true }
def FnExactBinomialBoundUptoSaid : Prop := fnExactBinomialBoundUptoRow.holds Tryd.pinned (OpenSpec.upto fnExactBinomialBoundSpec)

/-- 'laws.FnExactNeighbourBound', WHERE WHAT IT READS IS OF BULK AT MOST 1048576: true; the input reads as it did. -/
def fnExactNeighbourBoundUptoRow : OpenClaim := { program := "ytblehhiojednhaadoor", sum := "6ca0d7009a2468cb461b6a1d5ce67342f908b9cd33c5251cadd2b1edd2f11e91", func := "loop.example/g01362/laws.FnExactNeighbourBound", spec := "fnExactNeighbourBound", inPlace := ["internal/reflectlite.TypeOf"], unfollowed := true, recurses := true, named := ["loop.example/g01362/impl.errOutside"], ifaces := true, plainKeys := false, apart := false, laid := [("loop.example/g01362/impl.errOutside", laid_loop_example_g01362_impl_errOutside)], narrowed := true }
def FnExactNeighbourBoundUptoSaid : Prop := fnExactNeighbourBoundUptoRow.holds Tryd.pinned (OpenSpec.upto fnExactNeighbourBoundSpec)

/-- 'laws.FnExactCountingBound', WHERE WHAT IT READS IS OF BULK AT MOST 1048576: true; the input reads as it did. -/
def fnExactCountingBoundUptoRow : OpenClaim := { program := "ytblehhiojednhaadoor", sum := "6ca0d7009a2468cb461b6a1d5ce67342f908b9cd33c5251cadd2b1edd2f11e91", func := "loop.example/g01362/laws.FnExactCountingBound", spec := "fnExactCountingBound", inPlace := ["internal/reflectlite.TypeOf"], unfollowed := true, recurses := true, named := ["loop.example/g01362/impl.errOutside"], ifaces := true, plainKeys := false, apart := false, laid := [("loop.example/g01362/impl.errOutside", laid_loop_example_g01362_impl_errOutside)], narrowed := true }
def FnExactCountingBoundUptoSaid : Prop := fnExactCountingBoundUptoRow.holds Tryd.pinned (OpenSpec.upto fnExactCountingBoundSpec)

/-- 'laws.FnExactKnownNumber', WHERE WHAT IT READS IS OF BULK AT MOST 1048576: true; the input reads as it did. -/
def fnExactKnownNumberUptoRow : OpenClaim := { program := "ytblehhiojednhaadoor", sum := "6ca0d7009a2468cb461b6a1d5ce67342f908b9cd33c5251cadd2b1edd2f11e91", func := "loop.example/g01362/laws.FnExactKnownNumber", spec := "fnExactKnownNumber", inPlace := ["internal/reflectlite.TypeOf"], unfollowed := true, recurses := true, named := ["loop.example/g01362/impl.errOutside"], ifaces := true, plainKeys := false, apart := false, laid := [("loop.example/g01362/impl.errOutside", laid_loop_example_g01362_impl_errOutside)], narrowed := true }
def FnExactKnownNumberUptoSaid : Prop := fnExactKnownNumberUptoRow.holds Tryd.pinned (OpenSpec.upto fnExactKnownNumberSpec)

/-- 'laws.FnExactPathNumber', WHERE WHAT IT READS IS OF BULK AT MOST 1048576: true; the input reads as it did. -/
def fnExactPathNumberUptoRow : OpenClaim := { program := "ytblehhiojednhaadoor", sum := "6ca0d7009a2468cb461b6a1d5ce67342f908b9cd33c5251cadd2b1edd2f11e91", func := "loop.example/g01362/laws.FnExactPathNumber", spec := "fnExactPathNumber", inPlace := ["internal/reflectlite.TypeOf"], unfollowed := true, recurses := true, named := ["loop.example/g01362/impl.errOutside"], ifaces := true, plainKeys := false, apart := false, laid := [("loop.example/g01362/impl.errOutside", laid_loop_example_g01362_impl_errOutside)], narrowed := true }
def FnExactPathNumberUptoSaid : Prop := fnExactPathNumberUptoRow.holds Tryd.pinned (OpenSpec.upto fnExactPathNumberSpec)

/-- 'laws.FnExactStarNumber', WHERE WHAT IT READS IS OF BULK AT MOST 1048576: true; the input reads as it did. -/
def fnExactStarNumberUptoRow : OpenClaim := { program := "ytblehhiojednhaadoor", sum := "6ca0d7009a2468cb461b6a1d5ce67342f908b9cd33c5251cadd2b1edd2f11e91", func := "loop.example/g01362/laws.FnExactStarNumber", spec := "fnExactStarNumber", inPlace := ["internal/reflectlite.TypeOf"], unfollowed := true, recurses := true, named := ["loop.example/g01362/impl.errOutside"], ifaces := true, plainKeys := false, apart := false, laid := [("loop.example/g01362/impl.errOutside", laid_loop_example_g01362_impl_errOutside)], narrowed := true }
def FnExactStarNumberUptoSaid : Prop := fnExactStarNumberUptoRow.holds Tryd.pinned (OpenSpec.upto fnExactStarNumberSpec)

/-- 'laws.FnExactMatchingNumber', WHERE WHAT IT READS IS OF BULK AT MOST 1048576: true; the input reads as it did. -/
def fnExactMatchingNumberUptoRow : OpenClaim := { program := "ytblehhiojednhaadoor", sum := "6ca0d7009a2468cb461b6a1d5ce67342f908b9cd33c5251cadd2b1edd2f11e91", func := "loop.example/g01362/laws.FnExactMatchingNumber", spec := "fnExactMatchingNumber", inPlace := ["internal/reflectlite.TypeOf"], unfollowed := true, recurses := true, named := ["loop.example/g01362/impl.errOutside"], ifaces := true, plainKeys := false, apart := false, laid := [("loop.example/g01362/impl.errOutside", laid_loop_example_g01362_impl_errOutside)], narrowed := true }
def FnExactMatchingNumberUptoSaid : Prop := fnExactMatchingNumberUptoRow.holds Tryd.pinned (OpenSpec.upto fnExactMatchingNumberSpec)

/-- 'laws.FnExactTriangleBound', WHERE WHAT IT READS IS OF BULK AT MOST 1048576: true; the input reads as it did. -/
def fnExactTriangleBoundUptoRow : OpenClaim := { program := "ytblehhiojednhaadoor", sum := "6ca0d7009a2468cb461b6a1d5ce67342f908b9cd33c5251cadd2b1edd2f11e91", func := "loop.example/g01362/laws.FnExactTriangleBound", spec := "fnExactTriangleBound", inPlace := ["internal/reflectlite.TypeOf"], unfollowed := true, recurses := true, named := ["loop.example/g01362/impl.errOutside"], ifaces := true, plainKeys := false, apart := false, laid := [("loop.example/g01362/impl.errOutside", laid_loop_example_g01362_impl_errOutside)], narrowed := true }
def FnExactTriangleBoundUptoSaid : Prop := fnExactTriangleBoundUptoRow.holds Tryd.pinned (OpenSpec.upto fnExactTriangleBoundSpec)

end Rows
end Go.Proofs.YtblehhiojednhaaDoor
