/-
  NARROWER THAN 'FOR EVERY INPUT', by the rows' own cells (each row's printed sentence says how): FnExactFirstOfSizes: laid · FnExactGreatestClique: laid · FnExactCliqueList: laid · FnExactFullCliques: laid · FnExactGreatestStar: laid · FnExactGreatestDouble: laid · FnExactGreatestBook: laid · FnExactComponentsOf: laid · FnExactConnectedColours: laid · FnExactSidesOf: laid.
  DERIVED. THE GIVEN ROWS OF THIS SEAT. 10 by the template 'for every input the law returns true; each argument reads behind the call as it read before'; 0 by the template 'total and deterministic' (their statements: YtkiocedhibeieaaDoorTotals.lean).
  GIVEN WITH THE SEED: the statements are not yours to turn. If you find one false, say at which input.
  Laid BY PROGRAM, IN A SANDBOX (cutbox-rows.mjs): the forced cells as the released guide's own fill.sh prints them over the translation baaad59bc32ab900… (all of the seat's roots in one cut). By AI agents, Wed Nov 11 2026. No macro, syntax, notation, axiom, sorry.
-/
import Derived.Test.YtkiocedhibeieaaDoorChecked
import GoSem.Claim
import GoSem.ClaimJoined
import GoSem.ClaimMapViews
import Derived.JoinedTies
import Derived.KernelRfl
namespace Go.Proofs.YtkiocedhibeieaaDoor
/- THE CELL 'sum', in the pinned program and in every row, IS THE sha256 OF THE DUMP (.gsa) THAT YtkiocedhibeieaaDoorProg.lean LOADS. Nothing in Lean hashes anything: it is a label: what it is worth is what the hold of that sum in a sandbox is worth. -/
noncomputable def Tryd.pinned : Pinned := { name := "ytkiocedhibeieaadoor", sum := "baaad59bc32ab9000269c2afdcba248f74f9103bd61700ee4e9dfb7f994c18a1", checked := Tryd.checked }
namespace Rows
def none {H : Type} : Left H := { results := [], args := [] }

/- WHAT THE LISTED PACKAGE-LEVEL VARIABLES READ AS WHEN THE CALL BEGINS. Each datum BY PROGRAM (the guide's laid-datum.mjs) off the statement by which the dump's own 'gosem.cut.vars' lays the variable. In a bare row this is a premise. The card (YtkiocedhibeieaaDoorCards.lean) ties it to the program's text. -/
def laid_math_bits_deBruijn32tab {H : Type} : DataW H := .agg [.lit (.int .u8 0), .lit (.int .u8 1), .lit (.int .u8 28), .lit (.int .u8 2), .lit (.int .u8 29), .lit (.int .u8 14), .lit (.int .u8 24), .lit (.int .u8 3), .lit (.int .u8 30), .lit (.int .u8 22), .lit (.int .u8 20), .lit (.int .u8 15), .lit (.int .u8 25), .lit (.int .u8 17), .lit (.int .u8 4), .lit (.int .u8 8), .lit (.int .u8 31), .lit (.int .u8 27), .lit (.int .u8 13), .lit (.int .u8 23), .lit (.int .u8 21), .lit (.int .u8 19), .lit (.int .u8 16), .lit (.int .u8 7), .lit (.int .u8 26), .lit (.int .u8 12), .lit (.int .u8 18), .lit (.int .u8 6), .lit (.int .u8 11), .lit (.int .u8 5), .lit (.int .u8 10), .lit (.int .u8 9)]

/-- 'laws.FnExactFirstOfSizes': WHATEVER THE INPUT: true; the input reads as it did. -/
def fnExactFirstOfSizesSpec : ChangeSpec := { name := "fnExactFirstOfSizes", fn := fun _ => fun
  | [d1, d2] => { results := [.lit (.bool true)], args := [d1, d2] }
  | _ => none }
def fnExactFirstOfSizesRow : OpenClaim := { program := "ytkiocedhibeieaadoor", sum := "baaad59bc32ab9000269c2afdcba248f74f9103bd61700ee4e9dfb7f994c18a1", func := "loop.example/g01362/laws.FnExactFirstOfSizes", spec := "fnExactFirstOfSizes", unfollowed := true, recurses := true, named := ["math/bits.deBruijn32tab"], apart := false, laid := [("math/bits.deBruijn32tab", laid_math_bits_deBruijn32tab)] }
def FnExactFirstOfSizesSaid : Prop := fnExactFirstOfSizesRow.holds Tryd.pinned (OpenSpec.ofChange fnExactFirstOfSizesSpec)

/-- ITS FALSE NEIGHBOUR: 'it returns false'. Refute it at one input. -/
def fnExactFirstOfSizesWrong : ChangeSpec := { name := "fnExactFirstOfSizes", fn := fun _ => fun
  | [d1, d2] => { results := [.lit (.bool false)], args := [d1, d2] }
  | _ => none }
def FnExactFirstOfSizesWrongFalsely : Prop := fnExactFirstOfSizesRow.holds Tryd.pinned (OpenSpec.ofChange fnExactFirstOfSizesWrong)

/-- 'laws.FnExactGreatestClique': WHATEVER THE INPUT: true; the input reads as it did. -/
def fnExactGreatestCliqueSpec : ChangeSpec := { name := "fnExactGreatestClique", fn := fun _ => fun
  | [d1, d2] => { results := [.lit (.bool true)], args := [d1, d2] }
  | _ => none }
def fnExactGreatestCliqueRow : OpenClaim := { program := "ytkiocedhibeieaadoor", sum := "baaad59bc32ab9000269c2afdcba248f74f9103bd61700ee4e9dfb7f994c18a1", func := "loop.example/g01362/laws.FnExactGreatestClique", spec := "fnExactGreatestClique", unfollowed := true, recurses := true, named := ["math/bits.deBruijn32tab"], apart := false, laid := [("math/bits.deBruijn32tab", laid_math_bits_deBruijn32tab)] }
def FnExactGreatestCliqueSaid : Prop := fnExactGreatestCliqueRow.holds Tryd.pinned (OpenSpec.ofChange fnExactGreatestCliqueSpec)

/-- ITS FALSE NEIGHBOUR: 'it returns false'. Refute it at one input. -/
def fnExactGreatestCliqueWrong : ChangeSpec := { name := "fnExactGreatestClique", fn := fun _ => fun
  | [d1, d2] => { results := [.lit (.bool false)], args := [d1, d2] }
  | _ => none }
def FnExactGreatestCliqueWrongFalsely : Prop := fnExactGreatestCliqueRow.holds Tryd.pinned (OpenSpec.ofChange fnExactGreatestCliqueWrong)

/-- 'laws.FnExactCliqueList': WHATEVER THE INPUT: true; the input reads as it did. -/
def fnExactCliqueListSpec : ChangeSpec := { name := "fnExactCliqueList", fn := fun _ => fun
  | [d1, d2, d3] => { results := [.lit (.bool true)], args := [d1, d2, d3] }
  | _ => none }
def fnExactCliqueListRow : OpenClaim := { program := "ytkiocedhibeieaadoor", sum := "baaad59bc32ab9000269c2afdcba248f74f9103bd61700ee4e9dfb7f994c18a1", func := "loop.example/g01362/laws.FnExactCliqueList", spec := "fnExactCliqueList", unfollowed := true, recurses := true, named := ["math/bits.deBruijn32tab"], apart := false, laid := [("math/bits.deBruijn32tab", laid_math_bits_deBruijn32tab)] }
def FnExactCliqueListSaid : Prop := fnExactCliqueListRow.holds Tryd.pinned (OpenSpec.ofChange fnExactCliqueListSpec)

/-- ITS FALSE NEIGHBOUR: 'it returns false'. Refute it at one input. -/
def fnExactCliqueListWrong : ChangeSpec := { name := "fnExactCliqueList", fn := fun _ => fun
  | [d1, d2, d3] => { results := [.lit (.bool false)], args := [d1, d2, d3] }
  | _ => none }
def FnExactCliqueListWrongFalsely : Prop := fnExactCliqueListRow.holds Tryd.pinned (OpenSpec.ofChange fnExactCliqueListWrong)

/-- 'laws.FnExactFullCliques': WHATEVER THE INPUT: true; the input reads as it did. -/
def fnExactFullCliquesSpec : ChangeSpec := { name := "fnExactFullCliques", fn := fun _ => fun
  | [d1, d2] => { results := [.lit (.bool true)], args := [d1, d2] }
  | _ => none }
def fnExactFullCliquesRow : OpenClaim := { program := "ytkiocedhibeieaadoor", sum := "baaad59bc32ab9000269c2afdcba248f74f9103bd61700ee4e9dfb7f994c18a1", func := "loop.example/g01362/laws.FnExactFullCliques", spec := "fnExactFullCliques", unfollowed := true, recurses := true, named := ["math/bits.deBruijn32tab"], apart := false, laid := [("math/bits.deBruijn32tab", laid_math_bits_deBruijn32tab)] }
def FnExactFullCliquesSaid : Prop := fnExactFullCliquesRow.holds Tryd.pinned (OpenSpec.ofChange fnExactFullCliquesSpec)

/-- ITS FALSE NEIGHBOUR: 'it returns false'. Refute it at one input. -/
def fnExactFullCliquesWrong : ChangeSpec := { name := "fnExactFullCliques", fn := fun _ => fun
  | [d1, d2] => { results := [.lit (.bool false)], args := [d1, d2] }
  | _ => none }
def FnExactFullCliquesWrongFalsely : Prop := fnExactFullCliquesRow.holds Tryd.pinned (OpenSpec.ofChange fnExactFullCliquesWrong)

/-- 'laws.FnExactGreatestStar': WHATEVER THE INPUT: true; the input reads as it did. -/
def fnExactGreatestStarSpec : ChangeSpec := { name := "fnExactGreatestStar", fn := fun _ => fun
  | [d1, d2] => { results := [.lit (.bool true)], args := [d1, d2] }
  | _ => none }
def fnExactGreatestStarRow : OpenClaim := { program := "ytkiocedhibeieaadoor", sum := "baaad59bc32ab9000269c2afdcba248f74f9103bd61700ee4e9dfb7f994c18a1", func := "loop.example/g01362/laws.FnExactGreatestStar", spec := "fnExactGreatestStar", unfollowed := true, recurses := true, named := ["math/bits.deBruijn32tab"], apart := false, laid := [("math/bits.deBruijn32tab", laid_math_bits_deBruijn32tab)] }
def FnExactGreatestStarSaid : Prop := fnExactGreatestStarRow.holds Tryd.pinned (OpenSpec.ofChange fnExactGreatestStarSpec)

/-- ITS FALSE NEIGHBOUR: 'it returns false'. Refute it at one input. -/
def fnExactGreatestStarWrong : ChangeSpec := { name := "fnExactGreatestStar", fn := fun _ => fun
  | [d1, d2] => { results := [.lit (.bool false)], args := [d1, d2] }
  | _ => none }
def FnExactGreatestStarWrongFalsely : Prop := fnExactGreatestStarRow.holds Tryd.pinned (OpenSpec.ofChange fnExactGreatestStarWrong)

/-- 'laws.FnExactGreatestDouble': WHATEVER THE INPUT: true; the input reads as it did. -/
def fnExactGreatestDoubleSpec : ChangeSpec := { name := "fnExactGreatestDouble", fn := fun _ => fun
  | [d1, d2] => { results := [.lit (.bool true)], args := [d1, d2] }
  | _ => none }
def fnExactGreatestDoubleRow : OpenClaim := { program := "ytkiocedhibeieaadoor", sum := "baaad59bc32ab9000269c2afdcba248f74f9103bd61700ee4e9dfb7f994c18a1", func := "loop.example/g01362/laws.FnExactGreatestDouble", spec := "fnExactGreatestDouble", unfollowed := true, recurses := true, named := ["math/bits.deBruijn32tab"], apart := false, laid := [("math/bits.deBruijn32tab", laid_math_bits_deBruijn32tab)] }
def FnExactGreatestDoubleSaid : Prop := fnExactGreatestDoubleRow.holds Tryd.pinned (OpenSpec.ofChange fnExactGreatestDoubleSpec)

/-- ITS FALSE NEIGHBOUR: 'it returns false'. Refute it at one input. -/
def fnExactGreatestDoubleWrong : ChangeSpec := { name := "fnExactGreatestDouble", fn := fun _ => fun
  | [d1, d2] => { results := [.lit (.bool false)], args := [d1, d2] }
  | _ => none }
def FnExactGreatestDoubleWrongFalsely : Prop := fnExactGreatestDoubleRow.holds Tryd.pinned (OpenSpec.ofChange fnExactGreatestDoubleWrong)

/-- 'laws.FnExactGreatestBook': WHATEVER THE INPUT: true; the input reads as it did. -/
def fnExactGreatestBookSpec : ChangeSpec := { name := "fnExactGreatestBook", fn := fun _ => fun
  | [d1, d2] => { results := [.lit (.bool true)], args := [d1, d2] }
  | _ => none }
def fnExactGreatestBookRow : OpenClaim := { program := "ytkiocedhibeieaadoor", sum := "baaad59bc32ab9000269c2afdcba248f74f9103bd61700ee4e9dfb7f994c18a1", func := "loop.example/g01362/laws.FnExactGreatestBook", spec := "fnExactGreatestBook", unfollowed := true, recurses := true, named := ["math/bits.deBruijn32tab"], apart := false, laid := [("math/bits.deBruijn32tab", laid_math_bits_deBruijn32tab)] }
def FnExactGreatestBookSaid : Prop := fnExactGreatestBookRow.holds Tryd.pinned (OpenSpec.ofChange fnExactGreatestBookSpec)

/-- ITS FALSE NEIGHBOUR: 'it returns false'. Refute it at one input. -/
def fnExactGreatestBookWrong : ChangeSpec := { name := "fnExactGreatestBook", fn := fun _ => fun
  | [d1, d2] => { results := [.lit (.bool false)], args := [d1, d2] }
  | _ => none }
def FnExactGreatestBookWrongFalsely : Prop := fnExactGreatestBookRow.holds Tryd.pinned (OpenSpec.ofChange fnExactGreatestBookWrong)

/-- 'laws.FnExactComponentsOf': WHATEVER THE INPUT: true; the input reads as it did. -/
def fnExactComponentsOfSpec : ChangeSpec := { name := "fnExactComponentsOf", fn := fun _ => fun
  | [d1, d2] => { results := [.lit (.bool true)], args := [d1, d2] }
  | _ => none }
def fnExactComponentsOfRow : OpenClaim := { program := "ytkiocedhibeieaadoor", sum := "baaad59bc32ab9000269c2afdcba248f74f9103bd61700ee4e9dfb7f994c18a1", func := "loop.example/g01362/laws.FnExactComponentsOf", spec := "fnExactComponentsOf", unfollowed := true, recurses := true, named := ["math/bits.deBruijn32tab"], apart := false, laid := [("math/bits.deBruijn32tab", laid_math_bits_deBruijn32tab)] }
def FnExactComponentsOfSaid : Prop := fnExactComponentsOfRow.holds Tryd.pinned (OpenSpec.ofChange fnExactComponentsOfSpec)

/-- ITS FALSE NEIGHBOUR: 'it returns false'. Refute it at one input. -/
def fnExactComponentsOfWrong : ChangeSpec := { name := "fnExactComponentsOf", fn := fun _ => fun
  | [d1, d2] => { results := [.lit (.bool false)], args := [d1, d2] }
  | _ => none }
def FnExactComponentsOfWrongFalsely : Prop := fnExactComponentsOfRow.holds Tryd.pinned (OpenSpec.ofChange fnExactComponentsOfWrong)

/-- 'laws.FnExactConnectedColours': WHATEVER THE INPUT: true; the input reads as it did. -/
def fnExactConnectedColoursSpec : ChangeSpec := { name := "fnExactConnectedColours", fn := fun _ => fun
  | [d] => { results := [.lit (.bool true)], args := [d] }
  | _ => none }
def fnExactConnectedColoursRow : OpenClaim := { program := "ytkiocedhibeieaadoor", sum := "baaad59bc32ab9000269c2afdcba248f74f9103bd61700ee4e9dfb7f994c18a1", func := "loop.example/g01362/laws.FnExactConnectedColours", spec := "fnExactConnectedColours", unfollowed := true, recurses := true, named := ["math/bits.deBruijn32tab"], apart := false, laid := [("math/bits.deBruijn32tab", laid_math_bits_deBruijn32tab)] }
def FnExactConnectedColoursSaid : Prop := fnExactConnectedColoursRow.holds Tryd.pinned (OpenSpec.ofChange fnExactConnectedColoursSpec)

/-- ITS FALSE NEIGHBOUR: 'it returns false'. Refute it at one input. -/
def fnExactConnectedColoursWrong : ChangeSpec := { name := "fnExactConnectedColours", fn := fun _ => fun
  | [d] => { results := [.lit (.bool false)], args := [d] }
  | _ => none }
def FnExactConnectedColoursWrongFalsely : Prop := fnExactConnectedColoursRow.holds Tryd.pinned (OpenSpec.ofChange fnExactConnectedColoursWrong)

/-- 'laws.FnExactSidesOf': WHATEVER THE INPUT: true; the input reads as it did. -/
def fnExactSidesOfSpec : ChangeSpec := { name := "fnExactSidesOf", fn := fun _ => fun
  | [d1, d2] => { results := [.lit (.bool true)], args := [d1, d2] }
  | _ => none }
def fnExactSidesOfRow : OpenClaim := { program := "ytkiocedhibeieaadoor", sum := "baaad59bc32ab9000269c2afdcba248f74f9103bd61700ee4e9dfb7f994c18a1", func := "loop.example/g01362/laws.FnExactSidesOf", spec := "fnExactSidesOf", unfollowed := true, recurses := true, named := ["math/bits.deBruijn32tab"], apart := false, laid := [("math/bits.deBruijn32tab", laid_math_bits_deBruijn32tab)] }
def FnExactSidesOfSaid : Prop := fnExactSidesOfRow.holds Tryd.pinned (OpenSpec.ofChange fnExactSidesOfSpec)

/-- ITS FALSE NEIGHBOUR: 'it returns false'. Refute it at one input. -/
def fnExactSidesOfWrong : ChangeSpec := { name := "fnExactSidesOf", fn := fun _ => fun
  | [d1, d2] => { results := [.lit (.bool false)], args := [d1, d2] }
  | _ => none }
def FnExactSidesOfWrongFalsely : Prop := fnExactSidesOfRow.holds Tryd.pinned (OpenSpec.ofChange fnExactSidesOfWrong)

/- THE SECOND FORM. 'bulk': how many values and letters a reading holds, each counted each time it is reached (what is shared counts as often as it is met; a slice's spare places count too). A statement '..UptoSaid' is the law's where the arguments, and the package variables that the reading takes, are together of bulk at most 1048576: NARROWER than '..Said'. Prove '..Said' where nothing that the law and all that it calls make is longer than what came in: it says more and counts as full. Else prove '..UptoSaid'. A law counts once. -/
mutual
def uptoBulk {H : Type} : DataW H → Nat
  | .lit (.string bytes) => bytes.length + 1
  | .lit _ => 1
  | .nil => 1
  | .ptr d => uptoBulk d + 1
  | .slice elems spare => uptoBulkAll elems + uptoBulkAll spare + 1
  | .agg parts => uptoBulkAll parts + 1
  | .iface _ d => uptoBulk d + 1
  | .map entries => uptoBulkEntries entries + 1
  | .held _ => 1
def uptoBulkAll {H : Type} : List (DataW H) → Nat
  | [] => 0
  | d :: r => uptoBulk d + uptoBulkAll r
def uptoBulkEntries {H : Type} : List (Lit × DataW H) → Nat
  | [] => 0
  | x :: r => uptoBulkEntry x + uptoBulkEntries r
def uptoBulkEntry {H : Type} : Lit × DataW H → Nat
  | (.string bytes, d) => bytes.length + uptoBulk d + 1
  | (_, d) => uptoBulk d + 1
 end
def uptoSmall : (H : Type) → List (DataW H) → Bool := fun _ ds => decide (uptoBulkAll ds ≤ 1048576)
def OpenSpec.upto (s : _root_.Go.ChangeSpec) : _root_.Go.OpenSpec := { _root_.Go.OpenSpec.ofChange s with cond := some uptoSmall }

/-- 'laws.FnExactFirstOfSizes', WHERE WHAT IT READS IS OF BULK AT MOST 1048576: true; the input reads as it did. -/
def fnExactFirstOfSizesUptoRow : OpenClaim := { program := "ytkiocedhibeieaadoor", sum := "baaad59bc32ab9000269c2afdcba248f74f9103bd61700ee4e9dfb7f994c18a1", func := "loop.example/g01362/laws.FnExactFirstOfSizes", spec := "fnExactFirstOfSizes", unfollowed := true, recurses := true, named := ["math/bits.deBruijn32tab"], apart := false, laid := [("math/bits.deBruijn32tab", laid_math_bits_deBruijn32tab)], narrowed := true }
def FnExactFirstOfSizesUptoSaid : Prop := fnExactFirstOfSizesUptoRow.holds Tryd.pinned (OpenSpec.upto fnExactFirstOfSizesSpec)

/-- 'laws.FnExactGreatestClique', WHERE WHAT IT READS IS OF BULK AT MOST 1048576: true; the input reads as it did. -/
def fnExactGreatestCliqueUptoRow : OpenClaim := { program := "ytkiocedhibeieaadoor", sum := "baaad59bc32ab9000269c2afdcba248f74f9103bd61700ee4e9dfb7f994c18a1", func := "loop.example/g01362/laws.FnExactGreatestClique", spec := "fnExactGreatestClique", unfollowed := true, recurses := true, named := ["math/bits.deBruijn32tab"], apart := false, laid := [("math/bits.deBruijn32tab", laid_math_bits_deBruijn32tab)], narrowed := true }
def FnExactGreatestCliqueUptoSaid : Prop := fnExactGreatestCliqueUptoRow.holds Tryd.pinned (OpenSpec.upto fnExactGreatestCliqueSpec)

/-- 'laws.FnExactCliqueList', WHERE WHAT IT READS IS OF BULK AT MOST 1048576: true; the input reads as it did. -/
def fnExactCliqueListUptoRow : OpenClaim := { program := "ytkiocedhibeieaadoor", sum := "baaad59bc32ab9000269c2afdcba248f74f9103bd61700ee4e9dfb7f994c18a1", func := "loop.example/g01362/laws.FnExactCliqueList", spec := "fnExactCliqueList", unfollowed := true, recurses := true, named := ["math/bits.deBruijn32tab"], apart := false, laid := [("math/bits.deBruijn32tab", laid_math_bits_deBruijn32tab)], narrowed := true }
def FnExactCliqueListUptoSaid : Prop := fnExactCliqueListUptoRow.holds Tryd.pinned (OpenSpec.upto fnExactCliqueListSpec)

/-- 'laws.FnExactFullCliques', WHERE WHAT IT READS IS OF BULK AT MOST 1048576: true; the input reads as it did. -/
def fnExactFullCliquesUptoRow : OpenClaim := { program := "ytkiocedhibeieaadoor", sum := "baaad59bc32ab9000269c2afdcba248f74f9103bd61700ee4e9dfb7f994c18a1", func := "loop.example/g01362/laws.FnExactFullCliques", spec := "fnExactFullCliques", unfollowed := true, recurses := true, named := ["math/bits.deBruijn32tab"], apart := false, laid := [("math/bits.deBruijn32tab", laid_math_bits_deBruijn32tab)], narrowed := true }
def FnExactFullCliquesUptoSaid : Prop := fnExactFullCliquesUptoRow.holds Tryd.pinned (OpenSpec.upto fnExactFullCliquesSpec)

/-- 'laws.FnExactGreatestStar', WHERE WHAT IT READS IS OF BULK AT MOST 1048576: true; the input reads as it did. -/
def fnExactGreatestStarUptoRow : OpenClaim := { program := "ytkiocedhibeieaadoor", sum := "baaad59bc32ab9000269c2afdcba248f74f9103bd61700ee4e9dfb7f994c18a1", func := "loop.example/g01362/laws.FnExactGreatestStar", spec := "fnExactGreatestStar", unfollowed := true, recurses := true, named := ["math/bits.deBruijn32tab"], apart := false, laid := [("math/bits.deBruijn32tab", laid_math_bits_deBruijn32tab)], narrowed := true }
def FnExactGreatestStarUptoSaid : Prop := fnExactGreatestStarUptoRow.holds Tryd.pinned (OpenSpec.upto fnExactGreatestStarSpec)

/-- 'laws.FnExactGreatestDouble', WHERE WHAT IT READS IS OF BULK AT MOST 1048576: true; the input reads as it did. -/
def fnExactGreatestDoubleUptoRow : OpenClaim := { program := "ytkiocedhibeieaadoor", sum := "baaad59bc32ab9000269c2afdcba248f74f9103bd61700ee4e9dfb7f994c18a1", func := "loop.example/g01362/laws.FnExactGreatestDouble", spec := "fnExactGreatestDouble", unfollowed := true, recurses := true, named := ["math/bits.deBruijn32tab"], apart := false, laid := [("math/bits.deBruijn32tab", laid_math_bits_deBruijn32tab)], narrowed := true }
def FnExactGreatestDoubleUptoSaid : Prop := fnExactGreatestDoubleUptoRow.holds Tryd.pinned (OpenSpec.upto fnExactGreatestDoubleSpec)

/-- 'laws.FnExactGreatestBook', WHERE WHAT IT READS IS OF BULK AT MOST 1048576: true; the input reads as it did. -/
def fnExactGreatestBookUptoRow : OpenClaim := { program := "ytkiocedhibeieaadoor", sum := "baaad59bc32ab9000269c2afdcba248f74f9103bd61700ee4e9dfb7f994c18a1", func := "loop.example/g01362/laws.FnExactGreatestBook", spec := "fnExactGreatestBook", unfollowed := true, recurses := true, named := ["math/bits.deBruijn32tab"], apart := false, laid := [("math/bits.deBruijn32tab", laid_math_bits_deBruijn32tab)], narrowed := true }
def FnExactGreatestBookUptoSaid : Prop := fnExactGreatestBookUptoRow.holds Tryd.pinned (OpenSpec.upto fnExactGreatestBookSpec)

/-- 'laws.FnExactComponentsOf', WHERE WHAT IT READS IS OF BULK AT MOST 1048576: true; the input reads as it did. -/
def fnExactComponentsOfUptoRow : OpenClaim := { program := "ytkiocedhibeieaadoor", sum := "baaad59bc32ab9000269c2afdcba248f74f9103bd61700ee4e9dfb7f994c18a1", func := "loop.example/g01362/laws.FnExactComponentsOf", spec := "fnExactComponentsOf", unfollowed := true, recurses := true, named := ["math/bits.deBruijn32tab"], apart := false, laid := [("math/bits.deBruijn32tab", laid_math_bits_deBruijn32tab)], narrowed := true }
def FnExactComponentsOfUptoSaid : Prop := fnExactComponentsOfUptoRow.holds Tryd.pinned (OpenSpec.upto fnExactComponentsOfSpec)

/-- 'laws.FnExactConnectedColours', WHERE WHAT IT READS IS OF BULK AT MOST 1048576: true; the input reads as it did. -/
def fnExactConnectedColoursUptoRow : OpenClaim := { program := "ytkiocedhibeieaadoor", sum := "baaad59bc32ab9000269c2afdcba248f74f9103bd61700ee4e9dfb7f994c18a1", func := "loop.example/g01362/laws.FnExactConnectedColours", spec := "fnExactConnectedColours", unfollowed := true, recurses := true, named := ["math/bits.deBruijn32tab"], apart := false, laid := [("math/bits.deBruijn32tab", laid_math_bits_deBruijn32tab)], narrowed := true }
def FnExactConnectedColoursUptoSaid : Prop := fnExactConnectedColoursUptoRow.holds Tryd.pinned (OpenSpec.upto fnExactConnectedColoursSpec)

/-- 'laws.FnExactSidesOf', WHERE WHAT IT READS IS OF BULK AT MOST 1048576: true; the input reads as it did. -/
def fnExactSidesOfUptoRow : OpenClaim := { program := "ytkiocedhibeieaadoor", sum := "baaad59bc32ab9000269c2afdcba248f74f9103bd61700ee4e9dfb7f994c18a1", func := "loop.example/g01362/laws.FnExactSidesOf", spec := "fnExactSidesOf", unfollowed := true, recurses := true, named := ["math/bits.deBruijn32tab"], apart := false, laid := [("math/bits.deBruijn32tab", laid_math_bits_deBruijn32tab)], narrowed := true }
def FnExactSidesOfUptoSaid : Prop := fnExactSidesOfUptoRow.holds Tryd.pinned (OpenSpec.upto fnExactSidesOfSpec)

end Rows
end Go.Proofs.YtkiocedhibeieaaDoor
