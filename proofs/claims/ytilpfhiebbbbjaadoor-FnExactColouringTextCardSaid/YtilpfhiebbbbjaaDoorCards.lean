/-
  DERIVED. GIVEN WITH THE SEED: THE CARDS: each row of YtilpfhiebbbbjaaDoorRows.lean that lists a variable, with what it lists TIED to the program's text (the seventh form; the later family's looks); each row that meets fmt, with fmt's text TOLD by the authors' own Lean function (tested against real Go, not proved from fmt's source: count such statements apart). THE CARD IS WHAT COUNTS. Prove the row's statement (the work); the ties are given (YtilpfhiebbbbjaaDoorTie.lean); close each card by the builder's one call (the guide's Derived/Test/ToyasCard.lean, 'card_holds'). Laid BY PROGRAM, IN A SANDBOX (cutbox-door.mjs). By AI agents, Wed Nov 11 2026. No macro, syntax, notation, axiom, sorry.
-/
import Derived.Test.YtilpfhiebbbbjaaDoorRows
import GoSem.ClaimSeven
namespace Go.Proofs.YtilpfhiebbbbjaaDoor
namespace Rows

/-- THE TIED CARD OF 'laws.FnExactColouringText'. -/
def fnExactColouringTextCard : Claim7 := { stood := { row := fnExactColouringTextRow, standIns := [], harness := (true, "0e3680b61f3422986aab2a548c524c6c1e802b29309bfd2c757a872d4f3dd38d"), looks := false }, kinds := [], alts := [], laidByText := true, laidKinds := [.data, .data, .data], laidTests := true, laidLooks := .later }
def FnExactColouringTextCardSaid : Prop := Claim7.holds Tryd.pinned (.plain (OpenSpec.ofChange fnExactColouringTextSpec)) fnExactColouringTextCard

/-- THE SECOND FORM's CARD OF 'laws.FnExactColouringText'. -/
def fnExactColouringTextUptoCard : Claim7 := { stood := { row := fnExactColouringTextUptoRow, standIns := [], harness := (true, "0e3680b61f3422986aab2a548c524c6c1e802b29309bfd2c757a872d4f3dd38d"), looks := false }, kinds := [], alts := [], laidByText := true, laidKinds := [.data, .data, .data], laidTests := true, laidLooks := .later }
def FnExactColouringTextUptoCardSaid : Prop := Claim7.holds Tryd.pinned (.plain (OpenSpec.upto fnExactColouringTextSpec)) fnExactColouringTextUptoCard
end Rows
end Go.Proofs.YtilpfhiebbbbjaaDoor
