/-
  DERIVED. GIVEN WITH THE SEED: THE CARDS: each row of YtmeihpakbhfipaaDoorRows.lean that lists a variable, with what it lists TIED to the program's text (the seventh form; the later family's looks); each row that meets fmt, with fmt's text TOLD by the authors' own Lean function (tested against real Go, not proved from fmt's source: count such statements apart). THE CARD IS WHAT COUNTS. Prove the row's statement (the work); the ties are given (YtmeihpakbhfipaaDoorTie.lean); close each card by the builder's one call (the guide's Derived/Test/ToyasCard.lean, 'card_holds'). Laid BY PROGRAM, IN A SANDBOX (cutbox-door.mjs). By AI agents, Wed Nov 11 2026. No macro, syntax, notation, axiom, sorry.
-/
import Derived.Test.YtmeihpakbhfipaaDoorRows
import GoSem.ClaimSeven
namespace Go.Proofs.YtmeihpakbhfipaaDoor
namespace Rows

/-- THE TIED CARD OF 'laws.FnExactUpLengths'. -/
def fnExactUpLengthsCard : Claim7 := { stood := { row := fnExactUpLengthsRow, standIns := [], harness := (true, "e8c00d467c4d6523ddbfd795b87cf30e8d7b145c3e0041720bde60ca9846c329"), looks := false }, kinds := [], alts := [], laidByText := true, laidKinds := [.data], laidTests := true, laidLooks := .later }
def FnExactUpLengthsCardSaid : Prop := Claim7.holds Tryd.pinned (.plain (OpenSpec.ofChange fnExactUpLengthsSpec)) fnExactUpLengthsCard

/-- THE TIED CARD OF 'laws.FnExactIsClosedColour'. -/
def fnExactIsClosedColourCard : Claim7 := { stood := { row := fnExactIsClosedColourRow, standIns := [], harness := (true, "e8c00d467c4d6523ddbfd795b87cf30e8d7b145c3e0041720bde60ca9846c329"), looks := false }, kinds := [], alts := [], laidByText := true, laidKinds := [.data], laidTests := true, laidLooks := .later }
def FnExactIsClosedColourCardSaid : Prop := Claim7.holds Tryd.pinned (.plain (OpenSpec.ofChange fnExactIsClosedColourSpec)) fnExactIsClosedColourCard

/-- THE TIED CARD OF 'laws.FnExactOrderOf'. -/
def fnExactOrderOfCard : Claim7 := { stood := { row := fnExactOrderOfRow, standIns := [], harness := (true, "e8c00d467c4d6523ddbfd795b87cf30e8d7b145c3e0041720bde60ca9846c329"), looks := false }, kinds := [], alts := [], laidByText := true, laidKinds := [.data], laidTests := true, laidLooks := .later }
def FnExactOrderOfCardSaid : Prop := Claim7.holds Tryd.pinned (.plain (OpenSpec.ofChange fnExactOrderOfSpec)) fnExactOrderOfCard

/-- THE TIED CARD OF 'laws.FnExactLongestUp'. -/
def fnExactLongestUpCard : Claim7 := { stood := { row := fnExactLongestUpRow, standIns := [], harness := (true, "e8c00d467c4d6523ddbfd795b87cf30e8d7b145c3e0041720bde60ca9846c329"), looks := false }, kinds := [], alts := [], laidByText := true, laidKinds := [.data], laidTests := true, laidLooks := .later }
def FnExactLongestUpCardSaid : Prop := Claim7.holds Tryd.pinned (.plain (OpenSpec.ofChange fnExactLongestUpSpec)) fnExactLongestUpCard

/-- THE TIED CARD OF 'laws.FnExactLesserPart'. -/
def fnExactLesserPartCard : Claim7 := { stood := { row := fnExactLesserPartRow, standIns := [], harness := (true, "e8c00d467c4d6523ddbfd795b87cf30e8d7b145c3e0041720bde60ca9846c329"), looks := false }, kinds := [], alts := [], laidByText := true, laidKinds := [.data], laidTests := true, laidLooks := .later }
def FnExactLesserPartCardSaid : Prop := Claim7.holds Tryd.pinned (.plain (OpenSpec.ofChange fnExactLesserPartSpec)) fnExactLesserPartCard

/-- THE SECOND FORM's CARD OF 'laws.FnExactUpLengths'. -/
def fnExactUpLengthsUptoCard : Claim7 := { stood := { row := fnExactUpLengthsUptoRow, standIns := [], harness := (true, "e8c00d467c4d6523ddbfd795b87cf30e8d7b145c3e0041720bde60ca9846c329"), looks := false }, kinds := [], alts := [], laidByText := true, laidKinds := [.data], laidTests := true, laidLooks := .later }
def FnExactUpLengthsUptoCardSaid : Prop := Claim7.holds Tryd.pinned (.plain (OpenSpec.upto fnExactUpLengthsSpec)) fnExactUpLengthsUptoCard

/-- THE SECOND FORM's CARD OF 'laws.FnExactIsClosedColour'. -/
def fnExactIsClosedColourUptoCard : Claim7 := { stood := { row := fnExactIsClosedColourUptoRow, standIns := [], harness := (true, "e8c00d467c4d6523ddbfd795b87cf30e8d7b145c3e0041720bde60ca9846c329"), looks := false }, kinds := [], alts := [], laidByText := true, laidKinds := [.data], laidTests := true, laidLooks := .later }
def FnExactIsClosedColourUptoCardSaid : Prop := Claim7.holds Tryd.pinned (.plain (OpenSpec.upto fnExactIsClosedColourSpec)) fnExactIsClosedColourUptoCard

/-- THE SECOND FORM's CARD OF 'laws.FnExactOrderOf'. -/
def fnExactOrderOfUptoCard : Claim7 := { stood := { row := fnExactOrderOfUptoRow, standIns := [], harness := (true, "e8c00d467c4d6523ddbfd795b87cf30e8d7b145c3e0041720bde60ca9846c329"), looks := false }, kinds := [], alts := [], laidByText := true, laidKinds := [.data], laidTests := true, laidLooks := .later }
def FnExactOrderOfUptoCardSaid : Prop := Claim7.holds Tryd.pinned (.plain (OpenSpec.upto fnExactOrderOfSpec)) fnExactOrderOfUptoCard

/-- THE SECOND FORM's CARD OF 'laws.FnExactLongestUp'. -/
def fnExactLongestUpUptoCard : Claim7 := { stood := { row := fnExactLongestUpUptoRow, standIns := [], harness := (true, "e8c00d467c4d6523ddbfd795b87cf30e8d7b145c3e0041720bde60ca9846c329"), looks := false }, kinds := [], alts := [], laidByText := true, laidKinds := [.data], laidTests := true, laidLooks := .later }
def FnExactLongestUpUptoCardSaid : Prop := Claim7.holds Tryd.pinned (.plain (OpenSpec.upto fnExactLongestUpSpec)) fnExactLongestUpUptoCard

/-- THE SECOND FORM's CARD OF 'laws.FnExactLesserPart'. -/
def fnExactLesserPartUptoCard : Claim7 := { stood := { row := fnExactLesserPartUptoRow, standIns := [], harness := (true, "e8c00d467c4d6523ddbfd795b87cf30e8d7b145c3e0041720bde60ca9846c329"), looks := false }, kinds := [], alts := [], laidByText := true, laidKinds := [.data], laidTests := true, laidLooks := .later }
def FnExactLesserPartUptoCardSaid : Prop := Claim7.holds Tryd.pinned (.plain (OpenSpec.upto fnExactLesserPartSpec)) fnExactLesserPartUptoCard
end Rows
end Go.Proofs.YtmeihpakbhfipaaDoor
