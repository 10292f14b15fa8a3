/-
  DERIVED. GIVEN WITH THE SEED: THE CARDS: each row of YtlnelmickndoaaaDoorRows.lean that lists a variable, with what it lists TIED to the program's text (the seventh form; the later family's looks); each row that meets fmt, with fmt's text TOLD by the authors' own Lean function (tested against real Go, not proved from fmt's source: count such statements apart). THE CARD IS WHAT COUNTS. Prove the row's statement (the work); the ties are given (YtlnelmickndoaaaDoorTie.lean); close each card by the builder's one call (the guide's Derived/Test/ToyasCard.lean, 'card_holds'). Laid BY PROGRAM, IN A SANDBOX (cutbox-door.mjs). By AI agents, Wed Nov 11 2026. No macro, syntax, notation, axiom, sorry.
-/
import Derived.Test.YtlnelmickndoaaaDoorRows
import GoSem.ClaimSeven
namespace Go.Proofs.YtlnelmickndoaaaDoor
namespace Rows

/-- THE TIED CARD OF 'laws.FnExactCupNumber'. -/
def fnExactCupNumberCard : Claim7 := { stood := { row := fnExactCupNumberRow, standIns := [], harness := (true, "c11c4b6dbabb9ca66b41ec6f199c0a8bb1041922131cb18232dd08a08e44c63d"), looks := true }, kinds := [], alts := [], laidByText := true, laidKinds := [.sentinel], laidTests := true, laidLooks := .later }
def FnExactCupNumberCardSaid : Prop := Claim7.holds Tryd.pinned (.plain (OpenSpec.ofChange fnExactCupNumberSpec)) fnExactCupNumberCard

/-- THE SECOND FORM's CARD OF 'laws.FnExactCupNumber'. -/
def fnExactCupNumberUptoCard : Claim7 := { stood := { row := fnExactCupNumberUptoRow, standIns := [], harness := (true, "c11c4b6dbabb9ca66b41ec6f199c0a8bb1041922131cb18232dd08a08e44c63d"), looks := true }, kinds := [], alts := [], laidByText := true, laidKinds := [.sentinel], laidTests := true, laidLooks := .later }
def FnExactCupNumberUptoCardSaid : Prop := Claim7.holds Tryd.pinned (.plain (OpenSpec.upto fnExactCupNumberSpec)) fnExactCupNumberUptoCard
end Rows
end Go.Proofs.YtlnelmickndoaaaDoor
