/-
  DERIVED. GIVEN WITH THE SEED: THE CARDS: each row of YtblehhiojednhaaDoorRows.lean that lists a variable, with what it lists TIED to the program's text (the seventh form; the later family's looks); each row that meets fmt, with fmt's text TOLD by the authors' own Lean function (tested against real Go, not proved from fmt's source: count such statements apart). THE CARD IS WHAT COUNTS. Prove the row's statement (the work); the ties are given (YtblehhiojednhaaDoorTie.lean); close each card by the builder's one call (the guide's Derived/Test/ToyasCard.lean, 'card_holds'). Laid BY PROGRAM, IN A SANDBOX (cutbox-door.mjs). By AI agents, Wed Nov 11 2026. No macro, syntax, notation, axiom, sorry.
-/
import Derived.Test.YtblehhiojednhaaDoorRows
import GoSem.ClaimSeven
namespace Go.Proofs.YtblehhiojednhaaDoor
namespace Rows

/-- THE TIED CARD OF 'laws.FnExactBinomialBound'. -/
def fnExactBinomialBoundCard : Claim7 := { stood := { row := fnExactBinomialBoundRow, standIns := [], harness := (true, "5476150d1f01d9e0bce2a8406912e7f2bc12ef2a2e9132d9974cfa084d623c40"), looks := true }, kinds := [], alts := [], laidByText := true, laidKinds := [.sentinel], laidTests := true, laidLooks := .later }
def FnExactBinomialBoundCardSaid : Prop := Claim7.holds Tryd.pinned (.plain (OpenSpec.ofChange fnExactBinomialBoundSpec)) fnExactBinomialBoundCard

/-- THE TIED CARD OF 'laws.FnExactNeighbourBound'. -/
def fnExactNeighbourBoundCard : Claim7 := { stood := { row := fnExactNeighbourBoundRow, standIns := [], harness := (true, "5476150d1f01d9e0bce2a8406912e7f2bc12ef2a2e9132d9974cfa084d623c40"), looks := true }, kinds := [], alts := [], laidByText := true, laidKinds := [.sentinel], laidTests := true, laidLooks := .later }
def FnExactNeighbourBoundCardSaid : Prop := Claim7.holds Tryd.pinned (.plain (OpenSpec.ofChange fnExactNeighbourBoundSpec)) fnExactNeighbourBoundCard

/-- THE TIED CARD OF 'laws.FnExactCountingBound'. -/
def fnExactCountingBoundCard : Claim7 := { stood := { row := fnExactCountingBoundRow, standIns := [], harness := (true, "5476150d1f01d9e0bce2a8406912e7f2bc12ef2a2e9132d9974cfa084d623c40"), looks := true }, kinds := [], alts := [], laidByText := true, laidKinds := [.sentinel], laidTests := true, laidLooks := .later }
def FnExactCountingBoundCardSaid : Prop := Claim7.holds Tryd.pinned (.plain (OpenSpec.ofChange fnExactCountingBoundSpec)) fnExactCountingBoundCard

/-- THE TIED CARD OF 'laws.FnExactKnownNumber'. -/
def fnExactKnownNumberCard : Claim7 := { stood := { row := fnExactKnownNumberRow, standIns := [], harness := (true, "5476150d1f01d9e0bce2a8406912e7f2bc12ef2a2e9132d9974cfa084d623c40"), looks := true }, kinds := [], alts := [], laidByText := true, laidKinds := [.sentinel], laidTests := true, laidLooks := .later }
def FnExactKnownNumberCardSaid : Prop := Claim7.holds Tryd.pinned (.plain (OpenSpec.ofChange fnExactKnownNumberSpec)) fnExactKnownNumberCard

/-- THE TIED CARD OF 'laws.FnExactPathNumber'. -/
def fnExactPathNumberCard : Claim7 := { stood := { row := fnExactPathNumberRow, standIns := [], harness := (true, "5476150d1f01d9e0bce2a8406912e7f2bc12ef2a2e9132d9974cfa084d623c40"), looks := true }, kinds := [], alts := [], laidByText := true, laidKinds := [.sentinel], laidTests := true, laidLooks := .later }
def FnExactPathNumberCardSaid : Prop := Claim7.holds Tryd.pinned (.plain (OpenSpec.ofChange fnExactPathNumberSpec)) fnExactPathNumberCard

/-- THE TIED CARD OF 'laws.FnExactStarNumber'. -/
def fnExactStarNumberCard : Claim7 := { stood := { row := fnExactStarNumberRow, standIns := [], harness := (true, "5476150d1f01d9e0bce2a8406912e7f2bc12ef2a2e9132d9974cfa084d623c40"), looks := true }, kinds := [], alts := [], laidByText := true, laidKinds := [.sentinel], laidTests := true, laidLooks := .later }
def FnExactStarNumberCardSaid : Prop := Claim7.holds Tryd.pinned (.plain (OpenSpec.ofChange fnExactStarNumberSpec)) fnExactStarNumberCard

/-- THE TIED CARD OF 'laws.FnExactMatchingNumber'. -/
def fnExactMatchingNumberCard : Claim7 := { stood := { row := fnExactMatchingNumberRow, standIns := [], harness := (true, "5476150d1f01d9e0bce2a8406912e7f2bc12ef2a2e9132d9974cfa084d623c40"), looks := true }, kinds := [], alts := [], laidByText := true, laidKinds := [.sentinel], laidTests := true, laidLooks := .later }
def FnExactMatchingNumberCardSaid : Prop := Claim7.holds Tryd.pinned (.plain (OpenSpec.ofChange fnExactMatchingNumberSpec)) fnExactMatchingNumberCard

/-- THE TIED CARD OF 'laws.FnExactTriangleBound'. -/
def fnExactTriangleBoundCard : Claim7 := { stood := { row := fnExactTriangleBoundRow, standIns := [], harness := (true, "5476150d1f01d9e0bce2a8406912e7f2bc12ef2a2e9132d9974cfa084d623c40"), looks := true }, kinds := [], alts := [], laidByText := true, laidKinds := [.sentinel], laidTests := true, laidLooks := .later }
def FnExactTriangleBoundCardSaid : Prop := Claim7.holds Tryd.pinned (.plain (OpenSpec.ofChange fnExactTriangleBoundSpec)) fnExactTriangleBoundCard

/-- THE SECOND FORM's CARD OF 'laws.FnExactBinomialBound'. -/
def fnExactBinomialBoundUptoCard : Claim7 := { stood := { row := fnExactBinomialBoundUptoRow, standIns := [], harness := (true, "5476150d1f01d9e0bce2a8406912e7f2bc12ef2a2e9132d9974cfa084d623c40"), looks := true }, kinds := [], alts := [], laidByText := true, laidKinds := [.sentinel], laidTests := true, laidLooks := .later }
def FnExactBinomialBoundUptoCardSaid : Prop := Claim7.holds Tryd.pinned (.plain (OpenSpec.upto fnExactBinomialBoundSpec)) fnExactBinomialBoundUptoCard

/-- THE SECOND FORM's CARD OF 'laws.FnExactNeighbourBound'. -/
def fnExactNeighbourBoundUptoCard : Claim7 := { stood := { row := fnExactNeighbourBoundUptoRow, standIns := [], harness := (true, "5476150d1f01d9e0bce2a8406912e7f2bc12ef2a2e9132d9974cfa084d623c40"), looks := true }, kinds := [], alts := [], laidByText := true, laidKinds := [.sentinel], laidTests := true, laidLooks := .later }
def FnExactNeighbourBoundUptoCardSaid : Prop := Claim7.holds Tryd.pinned (.plain (OpenSpec.upto fnExactNeighbourBoundSpec)) fnExactNeighbourBoundUptoCard

/-- THE SECOND FORM's CARD OF 'laws.FnExactCountingBound'. -/
def fnExactCountingBoundUptoCard : Claim7 := { stood := { row := fnExactCountingBoundUptoRow, standIns := [], harness := (true, "5476150d1f01d9e0bce2a8406912e7f2bc12ef2a2e9132d9974cfa084d623c40"), looks := true }, kinds := [], alts := [], laidByText := true, laidKinds := [.sentinel], laidTests := true, laidLooks := .later }
def FnExactCountingBoundUptoCardSaid : Prop := Claim7.holds Tryd.pinned (.plain (OpenSpec.upto fnExactCountingBoundSpec)) fnExactCountingBoundUptoCard

/-- THE SECOND FORM's CARD OF 'laws.FnExactKnownNumber'. -/
def fnExactKnownNumberUptoCard : Claim7 := { stood := { row := fnExactKnownNumberUptoRow, standIns := [], harness := (true, "5476150d1f01d9e0bce2a8406912e7f2bc12ef2a2e9132d9974cfa084d623c40"), looks := true }, kinds := [], alts := [], laidByText := true, laidKinds := [.sentinel], laidTests := true, laidLooks := .later }
def FnExactKnownNumberUptoCardSaid : Prop := Claim7.holds Tryd.pinned (.plain (OpenSpec.upto fnExactKnownNumberSpec)) fnExactKnownNumberUptoCard

/-- THE SECOND FORM's CARD OF 'laws.FnExactPathNumber'. -/
def fnExactPathNumberUptoCard : Claim7 := { stood := { row := fnExactPathNumberUptoRow, standIns := [], harness := (true, "5476150d1f01d9e0bce2a8406912e7f2bc12ef2a2e9132d9974cfa084d623c40"), looks := true }, kinds := [], alts := [], laidByText := true, laidKinds := [.sentinel], laidTests := true, laidLooks := .later }
def FnExactPathNumberUptoCardSaid : Prop := Claim7.holds Tryd.pinned (.plain (OpenSpec.upto fnExactPathNumberSpec)) fnExactPathNumberUptoCard

/-- THE SECOND FORM's CARD OF 'laws.FnExactStarNumber'. -/
def fnExactStarNumberUptoCard : Claim7 := { stood := { row := fnExactStarNumberUptoRow, standIns := [], harness := (true, "5476150d1f01d9e0bce2a8406912e7f2bc12ef2a2e9132d9974cfa084d623c40"), looks := true }, kinds := [], alts := [], laidByText := true, laidKinds := [.sentinel], laidTests := true, laidLooks := .later }
def FnExactStarNumberUptoCardSaid : Prop := Claim7.holds Tryd.pinned (.plain (OpenSpec.upto fnExactStarNumberSpec)) fnExactStarNumberUptoCard

/-- THE SECOND FORM's CARD OF 'laws.FnExactMatchingNumber'. -/
def fnExactMatchingNumberUptoCard : Claim7 := { stood := { row := fnExactMatchingNumberUptoRow, standIns := [], harness := (true, "5476150d1f01d9e0bce2a8406912e7f2bc12ef2a2e9132d9974cfa084d623c40"), looks := true }, kinds := [], alts := [], laidByText := true, laidKinds := [.sentinel], laidTests := true, laidLooks := .later }
def FnExactMatchingNumberUptoCardSaid : Prop := Claim7.holds Tryd.pinned (.plain (OpenSpec.upto fnExactMatchingNumberSpec)) fnExactMatchingNumberUptoCard

/-- THE SECOND FORM's CARD OF 'laws.FnExactTriangleBound'. -/
def fnExactTriangleBoundUptoCard : Claim7 := { stood := { row := fnExactTriangleBoundUptoRow, standIns := [], harness := (true, "5476150d1f01d9e0bce2a8406912e7f2bc12ef2a2e9132d9974cfa084d623c40"), looks := true }, kinds := [], alts := [], laidByText := true, laidKinds := [.sentinel], laidTests := true, laidLooks := .later }
def FnExactTriangleBoundUptoCardSaid : Prop := Claim7.holds Tryd.pinned (.plain (OpenSpec.upto fnExactTriangleBoundSpec)) fnExactTriangleBoundUptoCard
end Rows
end Go.Proofs.YtblehhiojednhaaDoor
