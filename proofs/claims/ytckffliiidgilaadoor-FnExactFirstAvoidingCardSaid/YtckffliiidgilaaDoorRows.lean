/-
  NARROWER THAN 'FOR EVERY INPUT', by the rows' own cells (each row's printed sentence says how): FnExactIsExtension: ifaces, laid · FnExactCountExtensions: ifaces, laid · FnExactFirstExtension: ifaces, laid · FnExactExtensionList: ifaces, laid · FnExactExtensionsByDegree: ifaces, laid · FnExactIsClosed: ifaces, laid · FnExactCountAvoiding: ifaces, laid · FnExactFirstAvoiding: ifaces, laid · FnExactFreeChanges: ifaces, laid · FnExactLongestBeginning: ifaces, laid.
  DERIVED. THE GIVEN ROWS OF THIS SEAT. 10 by the template 'for every input the law returns true; each argument reads behind the call as it read before'; 0 by the template 'total and deterministic' (their statements: YtckffliiidgilaaDoorTotals.lean).
  GIVEN WITH THE SEED: the statements are not yours to turn. If you find one false, say at which input.
  Laid BY PROGRAM, IN A SANDBOX (cutbox-rows.mjs): the forced cells as the released guide's own fill.sh prints them over the translation 830f919481f0dfaf… (all of the seat's roots in one cut). By AI agents, Wed Nov 11 2026. No macro, syntax, notation, axiom, sorry.
-/
import Derived.Test.YtckffliiidgilaaDoorChecked
import GoSem.Claim
import GoSem.ClaimJoined
import GoSem.ClaimMapViews
import Derived.JoinedTies
import Derived.KernelRfl
namespace Go.Proofs.YtckffliiidgilaaDoor
/- THE CELL 'sum', in the pinned program and in every row, IS THE sha256 OF THE DUMP (.gsa) THAT YtckffliiidgilaaDoorProg.lean LOADS. Nothing in Lean hashes anything: it is a label: what it is worth is what the hold of that sum in a sandbox is worth. -/
noncomputable def Tryd.pinned : Pinned := { name := "ytckffliiidgilaadoor", sum := "830f919481f0dfaf8d2d59d2ee49f3049fdd4bde945fdc79e0ab94b56acd73d9", checked := Tryd.checked }
namespace Rows
def none {H : Type} : Left H := { results := [], args := [] }

/- WHAT THE LISTED PACKAGE-LEVEL VARIABLES READ AS WHEN THE CALL BEGINS. Each datum BY PROGRAM (the guide's laid-datum.mjs) off the statement by which the dump's own 'gosem.cut.vars' lays the variable. In a bare row this is a premise. The card (YtckffliiidgilaaDoorCards.lean) ties it to the program's text. -/
def laid_loop_example_g01362_impl_errNoSizes {H : Type} : DataW H := .iface "*errors.errorString" (.ptr (.agg [.lit (.string [116, 104, 101, 32, 108, 105, 115, 116, 32, 105, 115, 32, 110, 111, 32, 115, 105, 122, 101, 115, 32, 102, 111, 114, 32, 116, 104, 101, 32, 99, 111, 108, 111, 117, 114, 115, 32, 116, 111, 108, 100])]))

/-- 'laws.FnExactIsExtension': WHATEVER THE INPUT: true; the input reads as it did. -/
def fnExactIsExtensionSpec : ChangeSpec := { name := "fnExactIsExtension", vars := ["loop.example/g01362/impl.errNoSizes"], fn := fun _ => fun
  | [d1, d2, d3, g1] => { results := [.lit (.bool true)], args := [d1, d2, d3], vars := [g1] }
  | _ => none }
def fnExactIsExtensionRow : OpenClaim := { program := "ytckffliiidgilaadoor", sum := "830f919481f0dfaf8d2d59d2ee49f3049fdd4bde945fdc79e0ab94b56acd73d9", func := "loop.example/g01362/laws.FnExactIsExtension", spec := "fnExactIsExtension", inPlace := ["internal/reflectlite.TypeOf"], unfollowed := true, recurses := true, named := ["loop.example/g01362/impl.errNoSizes"], ifaces := true, apart := false, laid := [("loop.example/g01362/impl.errNoSizes", laid_loop_example_g01362_impl_errNoSizes)] }
def FnExactIsExtensionSaid : Prop := fnExactIsExtensionRow.holds Tryd.pinned (OpenSpec.ofChange fnExactIsExtensionSpec)

/-- ITS FALSE NEIGHBOUR: 'it returns false'. Refute it at one input. -/
def fnExactIsExtensionWrong : ChangeSpec := { name := "fnExactIsExtension", vars := ["loop.example/g01362/impl.errNoSizes"], fn := fun _ => fun
  | [d1, d2, d3, g1] => { results := [.lit (.bool false)], args := [d1, d2, d3], vars := [g1] }
  | _ => none }
def FnExactIsExtensionWrongFalsely : Prop := fnExactIsExtensionRow.holds Tryd.pinned (OpenSpec.ofChange fnExactIsExtensionWrong)

/-- 'laws.FnExactCountExtensions': WHATEVER THE INPUT: true; the input reads as it did. -/
def fnExactCountExtensionsSpec : ChangeSpec := { name := "fnExactCountExtensions", vars := ["loop.example/g01362/impl.errNoSizes"], fn := fun _ => fun
  | [d1, d2, g1] => { results := [.lit (.bool true)], args := [d1, d2], vars := [g1] }
  | _ => none }
def fnExactCountExtensionsRow : OpenClaim := { program := "ytckffliiidgilaadoor", sum := "830f919481f0dfaf8d2d59d2ee49f3049fdd4bde945fdc79e0ab94b56acd73d9", func := "loop.example/g01362/laws.FnExactCountExtensions", spec := "fnExactCountExtensions", inPlace := ["internal/reflectlite.TypeOf"], unfollowed := true, recurses := true, named := ["loop.example/g01362/impl.errNoSizes"], ifaces := true, apart := false, laid := [("loop.example/g01362/impl.errNoSizes", laid_loop_example_g01362_impl_errNoSizes)] }
def FnExactCountExtensionsSaid : Prop := fnExactCountExtensionsRow.holds Tryd.pinned (OpenSpec.ofChange fnExactCountExtensionsSpec)

/-- ITS FALSE NEIGHBOUR: 'it returns false'. Refute it at one input. -/
def fnExactCountExtensionsWrong : ChangeSpec := { name := "fnExactCountExtensions", vars := ["loop.example/g01362/impl.errNoSizes"], fn := fun _ => fun
  | [d1, d2, g1] => { results := [.lit (.bool false)], args := [d1, d2], vars := [g1] }
  | _ => none }
def FnExactCountExtensionsWrongFalsely : Prop := fnExactCountExtensionsRow.holds Tryd.pinned (OpenSpec.ofChange fnExactCountExtensionsWrong)

/-- 'laws.FnExactFirstExtension': WHATEVER THE INPUT: true; the input reads as it did. -/
def fnExactFirstExtensionSpec : ChangeSpec := { name := "fnExactFirstExtension", vars := ["loop.example/g01362/impl.errNoSizes"], fn := fun _ => fun
  | [d1, d2, g1] => { results := [.lit (.bool true)], args := [d1, d2], vars := [g1] }
  | _ => none }
def fnExactFirstExtensionRow : OpenClaim := { program := "ytckffliiidgilaadoor", sum := "830f919481f0dfaf8d2d59d2ee49f3049fdd4bde945fdc79e0ab94b56acd73d9", func := "loop.example/g01362/laws.FnExactFirstExtension", spec := "fnExactFirstExtension", inPlace := ["internal/reflectlite.TypeOf"], unfollowed := true, recurses := true, named := ["loop.example/g01362/impl.errNoSizes"], ifaces := true, apart := false, laid := [("loop.example/g01362/impl.errNoSizes", laid_loop_example_g01362_impl_errNoSizes)] }
def FnExactFirstExtensionSaid : Prop := fnExactFirstExtensionRow.holds Tryd.pinned (OpenSpec.ofChange fnExactFirstExtensionSpec)

/-- ITS FALSE NEIGHBOUR: 'it returns false'. Refute it at one input. -/
def fnExactFirstExtensionWrong : ChangeSpec := { name := "fnExactFirstExtension", vars := ["loop.example/g01362/impl.errNoSizes"], fn := fun _ => fun
  | [d1, d2, g1] => { results := [.lit (.bool false)], args := [d1, d2], vars := [g1] }
  | _ => none }
def FnExactFirstExtensionWrongFalsely : Prop := fnExactFirstExtensionRow.holds Tryd.pinned (OpenSpec.ofChange fnExactFirstExtensionWrong)

/-- 'laws.FnExactExtensionList': WHATEVER THE INPUT: true; the input reads as it did. -/
def fnExactExtensionListSpec : ChangeSpec := { name := "fnExactExtensionList", vars := ["loop.example/g01362/impl.errNoSizes"], fn := fun _ => fun
  | [d1, d2, g1] => { results := [.lit (.bool true)], args := [d1, d2], vars := [g1] }
  | _ => none }
def fnExactExtensionListRow : OpenClaim := { program := "ytckffliiidgilaadoor", sum := "830f919481f0dfaf8d2d59d2ee49f3049fdd4bde945fdc79e0ab94b56acd73d9", func := "loop.example/g01362/laws.FnExactExtensionList", spec := "fnExactExtensionList", inPlace := ["internal/reflectlite.TypeOf"], unfollowed := true, recurses := true, named := ["loop.example/g01362/impl.errNoSizes"], ifaces := true, apart := false, laid := [("loop.example/g01362/impl.errNoSizes", laid_loop_example_g01362_impl_errNoSizes)] }
def FnExactExtensionListSaid : Prop := fnExactExtensionListRow.holds Tryd.pinned (OpenSpec.ofChange fnExactExtensionListSpec)

/-- ITS FALSE NEIGHBOUR: 'it returns false'. Refute it at one input. -/
def fnExactExtensionListWrong : ChangeSpec := { name := "fnExactExtensionList", vars := ["loop.example/g01362/impl.errNoSizes"], fn := fun _ => fun
  | [d1, d2, g1] => { results := [.lit (.bool false)], args := [d1, d2], vars := [g1] }
  | _ => none }
def FnExactExtensionListWrongFalsely : Prop := fnExactExtensionListRow.holds Tryd.pinned (OpenSpec.ofChange fnExactExtensionListWrong)

/-- 'laws.FnExactExtensionsByDegree': WHATEVER THE INPUT: true; the input reads as it did. -/
def fnExactExtensionsByDegreeSpec : ChangeSpec := { name := "fnExactExtensionsByDegree", vars := ["loop.example/g01362/impl.errNoSizes"], fn := fun _ => fun
  | [d1, d2, g1] => { results := [.lit (.bool true)], args := [d1, d2], vars := [g1] }
  | _ => none }
def fnExactExtensionsByDegreeRow : OpenClaim := { program := "ytckffliiidgilaadoor", sum := "830f919481f0dfaf8d2d59d2ee49f3049fdd4bde945fdc79e0ab94b56acd73d9", func := "loop.example/g01362/laws.FnExactExtensionsByDegree", spec := "fnExactExtensionsByDegree", inPlace := ["internal/reflectlite.TypeOf"], unfollowed := true, recurses := true, named := ["loop.example/g01362/impl.errNoSizes"], ifaces := true, apart := false, laid := [("loop.example/g01362/impl.errNoSizes", laid_loop_example_g01362_impl_errNoSizes)] }
def FnExactExtensionsByDegreeSaid : Prop := fnExactExtensionsByDegreeRow.holds Tryd.pinned (OpenSpec.ofChange fnExactExtensionsByDegreeSpec)

/-- ITS FALSE NEIGHBOUR: 'it returns false'. Refute it at one input. -/
def fnExactExtensionsByDegreeWrong : ChangeSpec := { name := "fnExactExtensionsByDegree", vars := ["loop.example/g01362/impl.errNoSizes"], fn := fun _ => fun
  | [d1, d2, g1] => { results := [.lit (.bool false)], args := [d1, d2], vars := [g1] }
  | _ => none }
def FnExactExtensionsByDegreeWrongFalsely : Prop := fnExactExtensionsByDegreeRow.holds Tryd.pinned (OpenSpec.ofChange fnExactExtensionsByDegreeWrong)

/-- 'laws.FnExactIsClosed': WHATEVER THE INPUT: true; the input reads as it did. -/
def fnExactIsClosedSpec : ChangeSpec := { name := "fnExactIsClosed", vars := ["loop.example/g01362/impl.errNoSizes"], fn := fun _ => fun
  | [d1, d2, g1] => { results := [.lit (.bool true)], args := [d1, d2], vars := [g1] }
  | _ => none }
def fnExactIsClosedRow : OpenClaim := { program := "ytckffliiidgilaadoor", sum := "830f919481f0dfaf8d2d59d2ee49f3049fdd4bde945fdc79e0ab94b56acd73d9", func := "loop.example/g01362/laws.FnExactIsClosed", spec := "fnExactIsClosed", inPlace := ["internal/reflectlite.TypeOf"], unfollowed := true, recurses := true, named := ["loop.example/g01362/impl.errNoSizes"], ifaces := true, apart := false, laid := [("loop.example/g01362/impl.errNoSizes", laid_loop_example_g01362_impl_errNoSizes)] }
def FnExactIsClosedSaid : Prop := fnExactIsClosedRow.holds Tryd.pinned (OpenSpec.ofChange fnExactIsClosedSpec)

/-- ITS FALSE NEIGHBOUR: 'it returns false'. Refute it at one input. -/
def fnExactIsClosedWrong : ChangeSpec := { name := "fnExactIsClosed", vars := ["loop.example/g01362/impl.errNoSizes"], fn := fun _ => fun
  | [d1, d2, g1] => { results := [.lit (.bool false)], args := [d1, d2], vars := [g1] }
  | _ => none }
def FnExactIsClosedWrongFalsely : Prop := fnExactIsClosedRow.holds Tryd.pinned (OpenSpec.ofChange fnExactIsClosedWrong)

/-- 'laws.FnExactCountAvoiding': WHATEVER THE INPUT: true; the input reads as it did. -/
def fnExactCountAvoidingSpec : ChangeSpec := { name := "fnExactCountAvoiding", vars := ["loop.example/g01362/impl.errNoSizes"], fn := fun _ => fun
  | [d1, d2, g1] => { results := [.lit (.bool true)], args := [d1, d2], vars := [g1] }
  | _ => none }
def fnExactCountAvoidingRow : OpenClaim := { program := "ytckffliiidgilaadoor", sum := "830f919481f0dfaf8d2d59d2ee49f3049fdd4bde945fdc79e0ab94b56acd73d9", func := "loop.example/g01362/laws.FnExactCountAvoiding", spec := "fnExactCountAvoiding", inPlace := ["internal/reflectlite.TypeOf"], unfollowed := true, recurses := true, named := ["loop.example/g01362/impl.errNoSizes"], ifaces := true, apart := false, laid := [("loop.example/g01362/impl.errNoSizes", laid_loop_example_g01362_impl_errNoSizes)] }
def FnExactCountAvoidingSaid : Prop := fnExactCountAvoidingRow.holds Tryd.pinned (OpenSpec.ofChange fnExactCountAvoidingSpec)

/-- ITS FALSE NEIGHBOUR: 'it returns false'. Refute it at one input. -/
def fnExactCountAvoidingWrong : ChangeSpec := { name := "fnExactCountAvoiding", vars := ["loop.example/g01362/impl.errNoSizes"], fn := fun _ => fun
  | [d1, d2, g1] => { results := [.lit (.bool false)], args := [d1, d2], vars := [g1] }
  | _ => none }
def FnExactCountAvoidingWrongFalsely : Prop := fnExactCountAvoidingRow.holds Tryd.pinned (OpenSpec.ofChange fnExactCountAvoidingWrong)

/-- 'laws.FnExactFirstAvoiding': WHATEVER THE INPUT: true; the input reads as it did. -/
def fnExactFirstAvoidingSpec : ChangeSpec := { name := "fnExactFirstAvoiding", vars := ["loop.example/g01362/impl.errNoSizes"], fn := fun _ => fun
  | [d1, d2, g1] => { results := [.lit (.bool true)], args := [d1, d2], vars := [g1] }
  | _ => none }
def fnExactFirstAvoidingRow : OpenClaim := { program := "ytckffliiidgilaadoor", sum := "830f919481f0dfaf8d2d59d2ee49f3049fdd4bde945fdc79e0ab94b56acd73d9", func := "loop.example/g01362/laws.FnExactFirstAvoiding", spec := "fnExactFirstAvoiding", inPlace := ["internal/reflectlite.TypeOf"], unfollowed := true, recurses := true, named := ["loop.example/g01362/impl.errNoSizes"], ifaces := true, apart := false, laid := [("loop.example/g01362/impl.errNoSizes", laid_loop_example_g01362_impl_errNoSizes)] }
def FnExactFirstAvoidingSaid : Prop := fnExactFirstAvoidingRow.holds Tryd.pinned (OpenSpec.ofChange fnExactFirstAvoidingSpec)

/-- ITS FALSE NEIGHBOUR: 'it returns false'. Refute it at one input. -/
def fnExactFirstAvoidingWrong : ChangeSpec := { name := "fnExactFirstAvoiding", vars := ["loop.example/g01362/impl.errNoSizes"], fn := fun _ => fun
  | [d1, d2, g1] => { results := [.lit (.bool false)], args := [d1, d2], vars := [g1] }
  | _ => none }
def FnExactFirstAvoidingWrongFalsely : Prop := fnExactFirstAvoidingRow.holds Tryd.pinned (OpenSpec.ofChange fnExactFirstAvoidingWrong)

/-- 'laws.FnExactFreeChanges': WHATEVER THE INPUT: true; the input reads as it did. -/
def fnExactFreeChangesSpec : ChangeSpec := { name := "fnExactFreeChanges", vars := ["loop.example/g01362/impl.errNoSizes"], fn := fun _ => fun
  | [d1, d2, g1] => { results := [.lit (.bool true)], args := [d1, d2], vars := [g1] }
  | _ => none }
def fnExactFreeChangesRow : OpenClaim := { program := "ytckffliiidgilaadoor", sum := "830f919481f0dfaf8d2d59d2ee49f3049fdd4bde945fdc79e0ab94b56acd73d9", func := "loop.example/g01362/laws.FnExactFreeChanges", spec := "fnExactFreeChanges", inPlace := ["internal/reflectlite.TypeOf"], unfollowed := true, recurses := true, named := ["loop.example/g01362/impl.errNoSizes"], ifaces := true, apart := false, laid := [("loop.example/g01362/impl.errNoSizes", laid_loop_example_g01362_impl_errNoSizes)] }
def FnExactFreeChangesSaid : Prop := fnExactFreeChangesRow.holds Tryd.pinned (OpenSpec.ofChange fnExactFreeChangesSpec)

/-- ITS FALSE NEIGHBOUR: 'it returns false'. Refute it at one input. -/
def fnExactFreeChangesWrong : ChangeSpec := { name := "fnExactFreeChanges", vars := ["loop.example/g01362/impl.errNoSizes"], fn := fun _ => fun
  | [d1, d2, g1] => { results := [.lit (.bool false)], args := [d1, d2], vars := [g1] }
  | _ => none }
def FnExactFreeChangesWrongFalsely : Prop := fnExactFreeChangesRow.holds Tryd.pinned (OpenSpec.ofChange fnExactFreeChangesWrong)

/-- 'laws.FnExactLongestBeginning': WHATEVER THE INPUT: true; the input reads as it did. -/
def fnExactLongestBeginningSpec : ChangeSpec := { name := "fnExactLongestBeginning", vars := ["loop.example/g01362/impl.errNoSizes"], fn := fun _ => fun
  | [d1, d2, g1] => { results := [.lit (.bool true)], args := [d1, d2], vars := [g1] }
  | _ => none }
def fnExactLongestBeginningRow : OpenClaim := { program := "ytckffliiidgilaadoor", sum := "830f919481f0dfaf8d2d59d2ee49f3049fdd4bde945fdc79e0ab94b56acd73d9", func := "loop.example/g01362/laws.FnExactLongestBeginning", spec := "fnExactLongestBeginning", inPlace := ["internal/reflectlite.TypeOf"], unfollowed := true, recurses := true, named := ["loop.example/g01362/impl.errNoSizes"], ifaces := true, apart := false, laid := [("loop.example/g01362/impl.errNoSizes", laid_loop_example_g01362_impl_errNoSizes)] }
def FnExactLongestBeginningSaid : Prop := fnExactLongestBeginningRow.holds Tryd.pinned (OpenSpec.ofChange fnExactLongestBeginningSpec)

/-- ITS FALSE NEIGHBOUR: 'it returns false'. Refute it at one input. -/
def fnExactLongestBeginningWrong : ChangeSpec := { name := "fnExactLongestBeginning", vars := ["loop.example/g01362/impl.errNoSizes"], fn := fun _ => fun
  | [d1, d2, g1] => { results := [.lit (.bool false)], args := [d1, d2], vars := [g1] }
  | _ => none }
def FnExactLongestBeginningWrongFalsely : Prop := fnExactLongestBeginningRow.holds Tryd.pinned (OpenSpec.ofChange fnExactLongestBeginningWrong)

/- THE SECOND FORM. 'bulk': how many values and letters a reading holds, each counted each time it is reached (what is shared counts as often as it is met; a slice's spare places count too). A statement '..UptoSaid' is the law's where the arguments, and the package variables that the reading takes, are together of bulk at most 1048576: NARROWER than '..Said'. Prove '..Said' where nothing that the law and all that it calls make is longer than what came in: it says more and counts as full. Else prove '..UptoSaid'. A law counts once. -/
mutual
def uptoBulk {H : Type} : DataW H → Nat
  | .lit (.string bytes) => bytes.length + 1
  | .lit _ => 1
  | .nil => 1
  | .ptr d => uptoBulk d + 1
  | .slice elems spare => uptoBulkAll elems + uptoBulkAll spare + 1
  | .agg parts => uptoBulkAll parts + 1
  | .iface _ d => uptoBulk d + 1
  | .map entries => uptoBulkEntries entries + 1
  | .held _ => 1
def uptoBulkAll {H : Type} : List (DataW H) → Nat
  | [] => 0
  | d :: r => uptoBulk d + uptoBulkAll r
def uptoBulkEntries {H : Type} : List (Lit × DataW H) → Nat
  | [] => 0
  | x :: r => uptoBulkEntry x + uptoBulkEntries r
def uptoBulkEntry {H : Type} : Lit × DataW H → Nat
  | (.string bytes, d) => bytes.length + uptoBulk d + 1
  | (_, d) => uptoBulk d + 1
 end
def uptoSmall : (H : Type) → List (DataW H) → Bool := fun _ ds => decide (uptoBulkAll ds ≤ 1048576)
def OpenSpec.upto (s : _root_.Go.ChangeSpec) : _root_.Go.OpenSpec := { _root_.Go.OpenSpec.ofChange s with cond := some uptoSmall }

/-- 'laws.FnExactIsExtension', WHERE WHAT IT READS IS OF BULK AT MOST 1048576: true; the input reads as it did. -/
def fnExactIsExtensionUptoRow : OpenClaim := { program := "ytckffliiidgilaadoor", sum := "830f919481f0dfaf8d2d59d2ee49f3049fdd4bde945fdc79e0ab94b56acd73d9", func := "loop.example/g01362/laws.FnExactIsExtension", spec := "fnExactIsExtension", inPlace := ["internal/reflectlite.TypeOf"], unfollowed := true, recurses := true, named := ["loop.example/g01362/impl.errNoSizes"], ifaces := true, apart := false, laid := [("loop.example/g01362/impl.errNoSizes", laid_loop_example_g01362_impl_errNoSizes)], narrowed := true }
def FnExactIsExtensionUptoSaid : Prop := fnExactIsExtensionUptoRow.holds Tryd.pinned (OpenSpec.upto fnExactIsExtensionSpec)

/-- 'laws.FnExactCountExtensions', WHERE WHAT IT READS IS OF BULK AT MOST 1048576: true; the input reads as it did. -/
def fnExactCountExtensionsUptoRow : OpenClaim := { program := "ytckffliiidgilaadoor", sum := "830f919481f0dfaf8d2d59d2ee49f3049fdd4bde945fdc79e0ab94b56acd73d9", func := "loop.example/g01362/laws.FnExactCountExtensions", spec := "fnExactCountExtensions", inPlace := ["internal/reflectlite.TypeOf"], unfollowed := true, recurses := true, named := ["loop.example/g01362/impl.errNoSizes"], ifaces := true, apart := false, laid := [("loop.example/g01362/impl.errNoSizes", laid_loop_example_g01362_impl_errNoSizes)], narrowed := true }
def FnExactCountExtensionsUptoSaid : Prop := fnExactCountExtensionsUptoRow.holds Tryd.pinned (OpenSpec.upto fnExactCountExtensionsSpec)

/-- 'laws.FnExactFirstExtension', WHERE WHAT IT READS IS OF BULK AT MOST 1048576: true; the input reads as it did. -/
def fnExactFirstExtensionUptoRow : OpenClaim := { program := "ytckffliiidgilaadoor", sum := "830f919481f0dfaf8d2d59d2ee49f3049fdd4bde945fdc79e0ab94b56acd73d9", func := "loop.example/g01362/laws.FnExactFirstExtension", spec := "fnExactFirstExtension", inPlace := ["internal/reflectlite.TypeOf"], unfollowed := true, recurses := true, named := ["loop.example/g01362/impl.errNoSizes"], ifaces := true, apart := false, laid := [("loop.example/g01362/impl.errNoSizes", laid_loop_example_g01362_impl_errNoSizes)], narrowed := true }
def FnExactFirstExtensionUptoSaid : Prop := fnExactFirstExtensionUptoRow.holds Tryd.pinned (OpenSpec.upto fnExactFirstExtensionSpec)

/-- 'laws.FnExactExtensionList', WHERE WHAT IT READS IS OF BULK AT MOST 1048576: true; the input reads as it did. -/
def fnExactExtensionListUptoRow : OpenClaim := { program := "ytckffliiidgilaadoor", sum := "830f919481f0dfaf8d2d59d2ee49f3049fdd4bde945fdc79e0ab94b56acd73d9", func := "loop.example/g01362/laws.FnExactExtensionList", spec := "fnExactExtensionList", inPlace := ["internal/reflectlite.TypeOf"], unfollowed := true, recurses := true, named := ["loop.example/g01362/impl.errNoSizes"], ifaces := true, apart := false, laid := [("loop.example/g01362/impl.errNoSizes", laid_loop_example_g01362_impl_errNoSizes)], narrowed := true }
def FnExactExtensionListUptoSaid : Prop := fnExactExtensionListUptoRow.holds Tryd.pinned (OpenSpec.upto fnExactExtensionListSpec)

/-- 'laws.FnExactExtensionsByDegree', WHERE WHAT IT READS IS OF BULK AT MOST 1048576: true; the input reads as it did. -/
def fnExactExtensionsByDegreeUptoRow : OpenClaim := { program := "ytckffliiidgilaadoor", sum := "830f919481f0dfaf8d2d59d2ee49f3049fdd4bde945fdc79e0ab94b56acd73d9", func := "loop.example/g01362/laws.FnExactExtensionsByDegree", spec := "fnExactExtensionsByDegree", inPlace := ["internal/reflectlite.TypeOf"], unfollowed := true, recurses := true, named := ["loop.example/g01362/impl.errNoSizes"], ifaces := true, apart := false, laid := [("loop.example/g01362/impl.errNoSizes", laid_loop_example_g01362_impl_errNoSizes)], narrowed := true }
def FnExactExtensionsByDegreeUptoSaid : Prop := fnExactExtensionsByDegreeUptoRow.holds Tryd.pinned (OpenSpec.upto fnExactExtensionsByDegreeSpec)

/-- 'laws.FnExactIsClosed', WHERE WHAT IT READS IS OF BULK AT MOST 1048576: true; the input reads as it did. -/
def fnExactIsClosedUptoRow : OpenClaim := { program := "ytckffliiidgilaadoor", sum := "830f919481f0dfaf8d2d59d2ee49f3049fdd4bde945fdc79e0ab94b56acd73d9", func := "loop.example/g01362/laws.FnExactIsClosed", spec := "fnExactIsClosed", inPlace := ["internal/reflectlite.TypeOf"], unfollowed := true, recurses := true, named := ["loop.example/g01362/impl.errNoSizes"], ifaces := true, apart := false, laid := [("loop.example/g01362/impl.errNoSizes", laid_loop_example_g01362_impl_errNoSizes)], narrowed := true }
def FnExactIsClosedUptoSaid : Prop := fnExactIsClosedUptoRow.holds Tryd.pinned (OpenSpec.upto fnExactIsClosedSpec)

/-- 'laws.FnExactCountAvoiding', WHERE WHAT IT READS IS OF BULK AT MOST 1048576: true; the input reads as it did. -/
def fnExactCountAvoidingUptoRow : OpenClaim := { program := "ytckffliiidgilaadoor", sum := "830f919481f0dfaf8d2d59d2ee49f3049fdd4bde945fdc79e0ab94b56acd73d9", func := "loop.example/g01362/laws.FnExactCountAvoiding", spec := "fnExactCountAvoiding", inPlace := ["internal/reflectlite.TypeOf"], unfollowed := true, recurses := true, named := ["loop.example/g01362/impl.errNoSizes"], ifaces := true, apart := false, laid := [("loop.example/g01362/impl.errNoSizes", laid_loop_example_g01362_impl_errNoSizes)], narrowed := true }
def FnExactCountAvoidingUptoSaid : Prop := fnExactCountAvoidingUptoRow.holds Tryd.pinned (OpenSpec.upto fnExactCountAvoidingSpec)

/-- 'laws.FnExactFirstAvoiding', WHERE WHAT IT READS IS OF BULK AT MOST 1048576: true; the input reads as it did. -/
def fnExactFirstAvoidingUptoRow : OpenClaim := { program := "ytckffliiidgilaadoor", sum := "830f919481f0dfaf8d2d59d2ee49f3049fdd4bde945fdc79e0ab94b56acd73d9", func := "loop.example/g01362/laws.FnExactFirstAvoiding", spec := "fnExactFirstAvoiding", inPlace := ["internal/reflectlite.TypeOf"], unfollowed := true, recurses := true, named := ["loop.example/g01362/impl.errNoSizes"], ifaces := true, apart := false, laid := [("loop.example/g01362/impl.errNoSizes", laid_loop_example_g01362_impl_errNoSizes)], narrowed := true }
def FnExactFirstAvoidingUptoSaid : Prop := fnExactFirstAvoidingUptoRow.holds Tryd.pinned (OpenSpec.upto fnExactFirstAvoidingSpec)

/-- 'laws.FnExactFreeChanges', WHERE WHAT IT READS IS OF BULK AT MOST 1048576: true; the input reads as it did. -/
def fnExactFreeChangesUptoRow : OpenClaim := { program := "ytckffliiidgilaadoor", sum := "830f919481f0dfaf8d2d59d2ee49f3049fdd4bde945fdc79e0ab94b56acd73d9", func := "loop.example/g01362/laws.FnExactFreeChanges", spec := "fnExactFreeChanges", inPlace := ["internal/reflectlite.TypeOf"], unfollowed := true, recurses := true, named := ["loop.example/g01362/impl.errNoSizes"], ifaces := true, apart := false, laid := [("loop.example/g01362/impl.errNoSizes", laid_loop_example_g01362_impl_errNoSizes)], narrowed := true }
def FnExactFreeChangesUptoSaid : Prop := fnExactFreeChangesUptoRow.holds Tryd.pinned (OpenSpec.upto fnExactFreeChangesSpec)

/-- 'laws.FnExactLongestBeginning', WHERE WHAT IT READS IS OF BULK AT MOST 1048576: true; the input reads as it did. -/
def fnExactLongestBeginningUptoRow : OpenClaim := { program := "ytckffliiidgilaadoor", sum := "830f919481f0dfaf8d2d59d2ee49f3049fdd4bde945fdc79e0ab94b56acd73d9", func := "loop.example/g01362/laws.FnExactLongestBeginning", spec := "fnExactLongestBeginning", inPlace := ["internal/reflectlite.TypeOf"], unfollowed := true, recurses := true, named := ["loop.example/g01362/impl.errNoSizes"], ifaces := true, apart := false, laid := [("loop.example/g01362/impl.errNoSizes", laid_loop_example_g01362_impl_errNoSizes)], narrowed := true }
def FnExactLongestBeginningUptoSaid : Prop := fnExactLongestBeginningUptoRow.holds Tryd.pinned (OpenSpec.upto fnExactLongestBeginningSpec)

end Rows
end Go.Proofs.YtckffliiidgilaaDoor
