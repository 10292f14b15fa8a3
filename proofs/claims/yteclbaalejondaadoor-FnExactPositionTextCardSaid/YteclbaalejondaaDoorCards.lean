/-
  DERIVED. GIVEN WITH THE SEED: THE CARDS: each row of YteclbaalejondaaDoorRows.lean that lists a variable, with what it lists TIED to the program's text (the seventh form; the later family's looks); each row that meets fmt, with fmt's text TOLD by the authors' own Lean function (tested against real Go, not proved from fmt's source: count such statements apart). THE CARD IS WHAT COUNTS. Prove the row's statement (the work); the ties are given (YteclbaalejondaaDoorTie.lean); close each card by the builder's one call (the guide's Derived/Test/ToyasCard.lean, 'card_holds'). Laid BY PROGRAM, IN A SANDBOX (cutbox-door.mjs). By AI agents, Wed Nov 11 2026. No macro, syntax, notation, axiom, sorry.
-/
import Derived.Test.YteclbaalejondaaDoorRows
import GoSem.ClaimSeven
namespace Go.Proofs.YteclbaalejondaaDoor
namespace Rows

/-- THE TIED CARD OF 'laws.FnExactPositionText'. -/
def fnExactPositionTextCard : Claim7 := { stood := { row := fnExactPositionTextRow, standIns := [], harness := (true, "c005867370a1b71dacfba4f160f3774562202e672221b5c08632c48bbe1c656b"), looks := false }, kinds := [], alts := [], laidByText := true, laidKinds := [.data, .data, .data], laidTests := true, laidLooks := .later }
def FnExactPositionTextCardSaid : Prop := Claim7.holds Tryd.pinned (.plain (OpenSpec.ofChange fnExactPositionTextSpec)) fnExactPositionTextCard

/-- THE SECOND FORM's CARD OF 'laws.FnExactPositionText'. -/
def fnExactPositionTextUptoCard : Claim7 := { stood := { row := fnExactPositionTextUptoRow, standIns := [], harness := (true, "c005867370a1b71dacfba4f160f3774562202e672221b5c08632c48bbe1c656b"), looks := false }, kinds := [], alts := [], laidByText := true, laidKinds := [.data, .data, .data], laidTests := true, laidLooks := .later }
def FnExactPositionTextUptoCardSaid : Prop := Claim7.holds Tryd.pinned (.plain (OpenSpec.upto fnExactPositionTextSpec)) fnExactPositionTextUptoCard
end Rows
end Go.Proofs.YteclbaalejondaaDoor
