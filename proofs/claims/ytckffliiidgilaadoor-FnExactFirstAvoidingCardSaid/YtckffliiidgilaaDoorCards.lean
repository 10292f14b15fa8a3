/-
  DERIVED. GIVEN WITH THE SEED: THE CARDS: each row of YtckffliiidgilaaDoorRows.lean that lists a variable, with what it lists TIED to the program's text (the seventh form; the later family's looks); each row that meets fmt, with fmt's text TOLD by the authors' own Lean function (tested against real Go, not proved from fmt's source: count such statements apart). THE CARD IS WHAT COUNTS. Prove the row's statement (the work); the ties are given (YtckffliiidgilaaDoorTie.lean); close each card by the builder's one call (the guide's Derived/Test/ToyasCard.lean, 'card_holds'). Laid BY PROGRAM, IN A SANDBOX (cutbox-door.mjs). By AI agents, Wed Nov 11 2026. No macro, syntax, notation, axiom, sorry.
-/
import Derived.Test.YtckffliiidgilaaDoorRows
import GoSem.ClaimSeven
namespace Go.Proofs.YtckffliiidgilaaDoor
namespace Rows

/-- THE TIED CARD OF 'laws.FnExactIsExtension'. -/
def fnExactIsExtensionCard : Claim7 := { stood := { row := fnExactIsExtensionRow, standIns := [], harness := (true, "861027a1455cdc93571beffe4bbc87a0452a2aa17f530f09deaa8df58fc31f7f"), looks := true }, kinds := [], alts := [], laidByText := true, laidKinds := [.sentinel], laidTests := true, laidLooks := .later }
def FnExactIsExtensionCardSaid : Prop := Claim7.holds Tryd.pinned (.plain (OpenSpec.ofChange fnExactIsExtensionSpec)) fnExactIsExtensionCard

/-- THE TIED CARD OF 'laws.FnExactCountExtensions'. -/
def fnExactCountExtensionsCard : Claim7 := { stood := { row := fnExactCountExtensionsRow, standIns := [], harness := (true, "861027a1455cdc93571beffe4bbc87a0452a2aa17f530f09deaa8df58fc31f7f"), looks := true }, kinds := [], alts := [], laidByText := true, laidKinds := [.sentinel], laidTests := true, laidLooks := .later }
def FnExactCountExtensionsCardSaid : Prop := Claim7.holds Tryd.pinned (.plain (OpenSpec.ofChange fnExactCountExtensionsSpec)) fnExactCountExtensionsCard

/-- THE TIED CARD OF 'laws.FnExactFirstExtension'. -/
def fnExactFirstExtensionCard : Claim7 := { stood := { row := fnExactFirstExtensionRow, standIns := [], harness := (true, "861027a1455cdc93571beffe4bbc87a0452a2aa17f530f09deaa8df58fc31f7f"), looks := true }, kinds := [], alts := [], laidByText := true, laidKinds := [.sentinel], laidTests := true, laidLooks := .later }
def FnExactFirstExtensionCardSaid : Prop := Claim7.holds Tryd.pinned (.plain (OpenSpec.ofChange fnExactFirstExtensionSpec)) fnExactFirstExtensionCard

/-- THE TIED CARD OF 'laws.FnExactExtensionList'. -/
def fnExactExtensionListCard : Claim7 := { stood := { row := fnExactExtensionListRow, standIns := [], harness := (true, "861027a1455cdc93571beffe4bbc87a0452a2aa17f530f09deaa8df58fc31f7f"), looks := true }, kinds := [], alts := [], laidByText := true, laidKinds := [.sentinel], laidTests := true, laidLooks := .later }
def FnExactExtensionListCardSaid : Prop := Claim7.holds Tryd.pinned (.plain (OpenSpec.ofChange fnExactExtensionListSpec)) fnExactExtensionListCard

/-- THE TIED CARD OF 'laws.FnExactExtensionsByDegree'. -/
def fnExactExtensionsByDegreeCard : Claim7 := { stood := { row := fnExactExtensionsByDegreeRow, standIns := [], harness := (true, "861027a1455cdc93571beffe4bbc87a0452a2aa17f530f09deaa8df58fc31f7f"), looks := true }, kinds := [], alts := [], laidByText := true, laidKinds := [.sentinel], laidTests := true, laidLooks := .later }
def FnExactExtensionsByDegreeCardSaid : Prop := Claim7.holds Tryd.pinned (.plain (OpenSpec.ofChange fnExactExtensionsByDegreeSpec)) fnExactExtensionsByDegreeCard

/-- THE TIED CARD OF 'laws.FnExactIsClosed'. -/
def fnExactIsClosedCard : Claim7 := { stood := { row := fnExactIsClosedRow, standIns := [], harness := (true, "861027a1455cdc93571beffe4bbc87a0452a2aa17f530f09deaa8df58fc31f7f"), looks := true }, kinds := [], alts := [], laidByText := true, laidKinds := [.sentinel], laidTests := true, laidLooks := .later }
def FnExactIsClosedCardSaid : Prop := Claim7.holds Tryd.pinned (.plain (OpenSpec.ofChange fnExactIsClosedSpec)) fnExactIsClosedCard

/-- THE TIED CARD OF 'laws.FnExactCountAvoiding'. -/
def fnExactCountAvoidingCard : Claim7 := { stood := { row := fnExactCountAvoidingRow, standIns := [], harness := (true, "861027a1455cdc93571beffe4bbc87a0452a2aa17f530f09deaa8df58fc31f7f"), looks := true }, kinds := [], alts := [], laidByText := true, laidKinds := [.sentinel], laidTests := true, laidLooks := .later }
def FnExactCountAvoidingCardSaid : Prop := Claim7.holds Tryd.pinned (.plain (OpenSpec.ofChange fnExactCountAvoidingSpec)) fnExactCountAvoidingCard

/-- THE TIED CARD OF 'laws.FnExactFirstAvoiding'. -/
def fnExactFirstAvoidingCard : Claim7 := { stood := { row := fnExactFirstAvoidingRow, standIns := [], harness := (true, "861027a1455cdc93571beffe4bbc87a0452a2aa17f530f09deaa8df58fc31f7f"), looks := true }, kinds := [], alts := [], laidByText := true, laidKinds := [.sentinel], laidTests := true, laidLooks := .later }
def FnExactFirstAvoidingCardSaid : Prop := Claim7.holds Tryd.pinned (.plain (OpenSpec.ofChange fnExactFirstAvoidingSpec)) fnExactFirstAvoidingCard

/-- THE TIED CARD OF 'laws.FnExactFreeChanges'. -/
def fnExactFreeChangesCard : Claim7 := { stood := { row := fnExactFreeChangesRow, standIns := [], harness := (true, "861027a1455cdc93571beffe4bbc87a0452a2aa17f530f09deaa8df58fc31f7f"), looks := true }, kinds := [], alts := [], laidByText := true, laidKinds := [.sentinel], laidTests := true, laidLooks := .later }
def FnExactFreeChangesCardSaid : Prop := Claim7.holds Tryd.pinned (.plain (OpenSpec.ofChange fnExactFreeChangesSpec)) fnExactFreeChangesCard

/-- THE TIED CARD OF 'laws.FnExactLongestBeginning'. -/
def fnExactLongestBeginningCard : Claim7 := { stood := { row := fnExactLongestBeginningRow, standIns := [], harness := (true, "861027a1455cdc93571beffe4bbc87a0452a2aa17f530f09deaa8df58fc31f7f"), looks := true }, kinds := [], alts := [], laidByText := true, laidKinds := [.sentinel], laidTests := true, laidLooks := .later }
def FnExactLongestBeginningCardSaid : Prop := Claim7.holds Tryd.pinned (.plain (OpenSpec.ofChange fnExactLongestBeginningSpec)) fnExactLongestBeginningCard

/-- THE SECOND FORM's CARD OF 'laws.FnExactIsExtension'. -/
def fnExactIsExtensionUptoCard : Claim7 := { stood := { row := fnExactIsExtensionUptoRow, standIns := [], harness := (true, "861027a1455cdc93571beffe4bbc87a0452a2aa17f530f09deaa8df58fc31f7f"), looks := true }, kinds := [], alts := [], laidByText := true, laidKinds := [.sentinel], laidTests := true, laidLooks := .later }
def FnExactIsExtensionUptoCardSaid : Prop := Claim7.holds Tryd.pinned (.plain (OpenSpec.upto fnExactIsExtensionSpec)) fnExactIsExtensionUptoCard

/-- THE SECOND FORM's CARD OF 'laws.FnExactCountExtensions'. -/
def fnExactCountExtensionsUptoCard : Claim7 := { stood := { row := fnExactCountExtensionsUptoRow, standIns := [], harness := (true, "861027a1455cdc93571beffe4bbc87a0452a2aa17f530f09deaa8df58fc31f7f"), looks := true }, kinds := [], alts := [], laidByText := true, laidKinds := [.sentinel], laidTests := true, laidLooks := .later }
def FnExactCountExtensionsUptoCardSaid : Prop := Claim7.holds Tryd.pinned (.plain (OpenSpec.upto fnExactCountExtensionsSpec)) fnExactCountExtensionsUptoCard

/-- THE SECOND FORM's CARD OF 'laws.FnExactFirstExtension'. -/
def fnExactFirstExtensionUptoCard : Claim7 := { stood := { row := fnExactFirstExtensionUptoRow, standIns := [], harness := (true, "861027a1455cdc93571beffe4bbc87a0452a2aa17f530f09deaa8df58fc31f7f"), looks := true }, kinds := [], alts := [], laidByText := true, laidKinds := [.sentinel], laidTests := true, laidLooks := .later }
def FnExactFirstExtensionUptoCardSaid : Prop := Claim7.holds Tryd.pinned (.plain (OpenSpec.upto fnExactFirstExtensionSpec)) fnExactFirstExtensionUptoCard

/-- THE SECOND FORM's CARD OF 'laws.FnExactExtensionList'. -/
def fnExactExtensionListUptoCard : Claim7 := { stood := { row := fnExactExtensionListUptoRow, standIns := [], harness := (true, "861027a1455cdc93571beffe4bbc87a0452a2aa17f530f09deaa8df58fc31f7f"), looks := true }, kinds := [], alts := [], laidByText := true, laidKinds := [.sentinel], laidTests := true, laidLooks := .later }
def FnExactExtensionListUptoCardSaid : Prop := Claim7.holds Tryd.pinned (.plain (OpenSpec.upto fnExactExtensionListSpec)) fnExactExtensionListUptoCard

/-- THE SECOND FORM's CARD OF 'laws.FnExactExtensionsByDegree'. -/
def fnExactExtensionsByDegreeUptoCard : Claim7 := { stood := { row := fnExactExtensionsByDegreeUptoRow, standIns := [], harness := (true, "861027a1455cdc93571beffe4bbc87a0452a2aa17f530f09deaa8df58fc31f7f"), looks := true }, kinds := [], alts := [], laidByText := true, laidKinds := [.sentinel], laidTests := true, laidLooks := .later }
def FnExactExtensionsByDegreeUptoCardSaid : Prop := Claim7.holds Tryd.pinned (.plain (OpenSpec.upto fnExactExtensionsByDegreeSpec)) fnExactExtensionsByDegreeUptoCard

/-- THE SECOND FORM's CARD OF 'laws.FnExactIsClosed'. -/
def fnExactIsClosedUptoCard : Claim7 := { stood := { row := fnExactIsClosedUptoRow, standIns := [], harness := (true, "861027a1455cdc93571beffe4bbc87a0452a2aa17f530f09deaa8df58fc31f7f"), looks := true }, kinds := [], alts := [], laidByText := true, laidKinds := [.sentinel], laidTests := true, laidLooks := .later }
def FnExactIsClosedUptoCardSaid : Prop := Claim7.holds Tryd.pinned (.plain (OpenSpec.upto fnExactIsClosedSpec)) fnExactIsClosedUptoCard

/-- THE SECOND FORM's CARD OF 'laws.FnExactCountAvoiding'. -/
def fnExactCountAvoidingUptoCard : Claim7 := { stood := { row := fnExactCountAvoidingUptoRow, standIns := [], harness := (true, "861027a1455cdc93571beffe4bbc87a0452a2aa17f530f09deaa8df58fc31f7f"), looks := true }, kinds := [], alts := [], laidByText := true, laidKinds := [.sentinel], laidTests := true, laidLooks := .later }
def FnExactCountAvoidingUptoCardSaid : Prop := Claim7.holds Tryd.pinned (.plain (OpenSpec.upto fnExactCountAvoidingSpec)) fnExactCountAvoidingUptoCard

/-- THE SECOND FORM's CARD OF 'laws.FnExactFirstAvoiding'. -/
def fnExactFirstAvoidingUptoCard : Claim7 := { stood := { row := fnExactFirstAvoidingUptoRow, standIns := [], harness := (true, "861027a1455cdc93571beffe4bbc87a0452a2aa17f530f09deaa8df58fc31f7f"), looks := true }, kinds := [], alts := [], laidByText := true, laidKinds := [.sentinel], laidTests := true, laidLooks := .later }
def FnExactFirstAvoidingUptoCardSaid : Prop := Claim7.holds Tryd.pinned (.plain (OpenSpec.upto fnExactFirstAvoidingSpec)) fnExactFirstAvoidingUptoCard

/-- THE SECOND FORM's CARD OF 'laws.FnExactFreeChanges'. -/
def fnExactFreeChangesUptoCard : Claim7 := { stood := { row := fnExactFreeChangesUptoRow, standIns := [], harness := (true, "861027a1455cdc93571beffe4bbc87a0452a2aa17f530f09deaa8df58fc31f7f"), looks := true }, kinds := [], alts := [], laidByText := true, laidKinds := [.sentinel], laidTests := true, laidLooks := .later }
def FnExactFreeChangesUptoCardSaid : Prop := Claim7.holds Tryd.pinned (.plain (OpenSpec.upto fnExactFreeChangesSpec)) fnExactFreeChangesUptoCard

/-- THE SECOND FORM's CARD OF 'laws.FnExactLongestBeginning'. -/
def fnExactLongestBeginningUptoCard : Claim7 := { stood := { row := fnExactLongestBeginningUptoRow, standIns := [], harness := (true, "861027a1455cdc93571beffe4bbc87a0452a2aa17f530f09deaa8df58fc31f7f"), looks := true }, kinds := [], alts := [], laidByText := true, laidKinds := [.sentinel], laidTests := true, laidLooks := .later }
def FnExactLongestBeginningUptoCardSaid : Prop := Claim7.holds Tryd.pinned (.plain (OpenSpec.upto fnExactLongestBeginningSpec)) fnExactLongestBeginningUptoCard
end Rows
end Go.Proofs.YtckffliiidgilaaDoor
