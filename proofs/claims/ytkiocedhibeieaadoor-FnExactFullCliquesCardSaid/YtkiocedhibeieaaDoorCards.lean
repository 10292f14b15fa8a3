/-
  DERIVED. GIVEN WITH THE SEED: THE CARDS: each row of YtkiocedhibeieaaDoorRows.lean that lists a variable, with what it lists TIED to the program's text (the seventh form; the later family's looks); each row that meets fmt, with fmt's text TOLD by the authors' own Lean function (tested against real Go, not proved from fmt's source: count such statements apart). THE CARD IS WHAT COUNTS. Prove the row's statement (the work); the ties are given (YtkiocedhibeieaaDoorTie.lean); close each card by the builder's one call (the guide's Derived/Test/ToyasCard.lean, 'card_holds'). Laid BY PROGRAM, IN A SANDBOX (cutbox-door.mjs). By AI agents, Wed Nov 11 2026. No macro, syntax, notation, axiom, sorry.
-/
import Derived.Test.YtkiocedhibeieaaDoorRows
import GoSem.ClaimSeven
namespace Go.Proofs.YtkiocedhibeieaaDoor
namespace Rows

/-- THE TIED CARD OF 'laws.FnExactFirstOfSizes'. -/
def fnExactFirstOfSizesCard : Claim7 := { stood := { row := fnExactFirstOfSizesRow, standIns := [], harness := (true, "f75301d41d88097ad99f951fe26f44a9c98b775a675105d72c8018541e80eb6d"), looks := false }, kinds := [], alts := [], laidByText := true, laidKinds := [.data], laidTests := true, laidLooks := .later }
def FnExactFirstOfSizesCardSaid : Prop := Claim7.holds Tryd.pinned (.plain (OpenSpec.ofChange fnExactFirstOfSizesSpec)) fnExactFirstOfSizesCard

/-- THE TIED CARD OF 'laws.FnExactGreatestClique'. -/
def fnExactGreatestCliqueCard : Claim7 := { stood := { row := fnExactGreatestCliqueRow, standIns := [], harness := (true, "f75301d41d88097ad99f951fe26f44a9c98b775a675105d72c8018541e80eb6d"), looks := false }, kinds := [], alts := [], laidByText := true, laidKinds := [.data], laidTests := true, laidLooks := .later }
def FnExactGreatestCliqueCardSaid : Prop := Claim7.holds Tryd.pinned (.plain (OpenSpec.ofChange fnExactGreatestCliqueSpec)) fnExactGreatestCliqueCard

/-- THE TIED CARD OF 'laws.FnExactCliqueList'. -/
def fnExactCliqueListCard : Claim7 := { stood := { row := fnExactCliqueListRow, standIns := [], harness := (true, "f75301d41d88097ad99f951fe26f44a9c98b775a675105d72c8018541e80eb6d"), looks := false }, kinds := [], alts := [], laidByText := true, laidKinds := [.data], laidTests := true, laidLooks := .later }
def FnExactCliqueListCardSaid : Prop := Claim7.holds Tryd.pinned (.plain (OpenSpec.ofChange fnExactCliqueListSpec)) fnExactCliqueListCard

/-- THE TIED CARD OF 'laws.FnExactFullCliques'. -/
def fnExactFullCliquesCard : Claim7 := { stood := { row := fnExactFullCliquesRow, standIns := [], harness := (true, "f75301d41d88097ad99f951fe26f44a9c98b775a675105d72c8018541e80eb6d"), looks := false }, kinds := [], alts := [], laidByText := true, laidKinds := [.data], laidTests := true, laidLooks := .later }
def FnExactFullCliquesCardSaid : Prop := Claim7.holds Tryd.pinned (.plain (OpenSpec.ofChange fnExactFullCliquesSpec)) fnExactFullCliquesCard

/-- THE TIED CARD OF 'laws.FnExactGreatestStar'. -/
def fnExactGreatestStarCard : Claim7 := { stood := { row := fnExactGreatestStarRow, standIns := [], harness := (true, "f75301d41d88097ad99f951fe26f44a9c98b775a675105d72c8018541e80eb6d"), looks := false }, kinds := [], alts := [], laidByText := true, laidKinds := [.data], laidTests := true, laidLooks := .later }
def FnExactGreatestStarCardSaid : Prop := Claim7.holds Tryd.pinned (.plain (OpenSpec.ofChange fnExactGreatestStarSpec)) fnExactGreatestStarCard

/-- THE TIED CARD OF 'laws.FnExactGreatestDouble'. -/
def fnExactGreatestDoubleCard : Claim7 := { stood := { row := fnExactGreatestDoubleRow, standIns := [], harness := (true, "f75301d41d88097ad99f951fe26f44a9c98b775a675105d72c8018541e80eb6d"), looks := false }, kinds := [], alts := [], laidByText := true, laidKinds := [.data], laidTests := true, laidLooks := .later }
def FnExactGreatestDoubleCardSaid : Prop := Claim7.holds Tryd.pinned (.plain (OpenSpec.ofChange fnExactGreatestDoubleSpec)) fnExactGreatestDoubleCard

/-- THE TIED CARD OF 'laws.FnExactGreatestBook'. -/
def fnExactGreatestBookCard : Claim7 := { stood := { row := fnExactGreatestBookRow, standIns := [], harness := (true, "f75301d41d88097ad99f951fe26f44a9c98b775a675105d72c8018541e80eb6d"), looks := false }, kinds := [], alts := [], laidByText := true, laidKinds := [.data], laidTests := true, laidLooks := .later }
def FnExactGreatestBookCardSaid : Prop := Claim7.holds Tryd.pinned (.plain (OpenSpec.ofChange fnExactGreatestBookSpec)) fnExactGreatestBookCard

/-- THE TIED CARD OF 'laws.FnExactComponentsOf'. -/
def fnExactComponentsOfCard : Claim7 := { stood := { row := fnExactComponentsOfRow, standIns := [], harness := (true, "f75301d41d88097ad99f951fe26f44a9c98b775a675105d72c8018541e80eb6d"), looks := false }, kinds := [], alts := [], laidByText := true, laidKinds := [.data], laidTests := true, laidLooks := .later }
def FnExactComponentsOfCardSaid : Prop := Claim7.holds Tryd.pinned (.plain (OpenSpec.ofChange fnExactComponentsOfSpec)) fnExactComponentsOfCard

/-- THE TIED CARD OF 'laws.FnExactConnectedColours'. -/
def fnExactConnectedColoursCard : Claim7 := { stood := { row := fnExactConnectedColoursRow, standIns := [], harness := (true, "f75301d41d88097ad99f951fe26f44a9c98b775a675105d72c8018541e80eb6d"), looks := false }, kinds := [], alts := [], laidByText := true, laidKinds := [.data], laidTests := true, laidLooks := .later }
def FnExactConnectedColoursCardSaid : Prop := Claim7.holds Tryd.pinned (.plain (OpenSpec.ofChange fnExactConnectedColoursSpec)) fnExactConnectedColoursCard

/-- THE TIED CARD OF 'laws.FnExactSidesOf'. -/
def fnExactSidesOfCard : Claim7 := { stood := { row := fnExactSidesOfRow, standIns := [], harness := (true, "f75301d41d88097ad99f951fe26f44a9c98b775a675105d72c8018541e80eb6d"), looks := false }, kinds := [], alts := [], laidByText := true, laidKinds := [.data], laidTests := true, laidLooks := .later }
def FnExactSidesOfCardSaid : Prop := Claim7.holds Tryd.pinned (.plain (OpenSpec.ofChange fnExactSidesOfSpec)) fnExactSidesOfCard

/-- THE SECOND FORM's CARD OF 'laws.FnExactFirstOfSizes'. -/
def fnExactFirstOfSizesUptoCard : Claim7 := { stood := { row := fnExactFirstOfSizesUptoRow, standIns := [], harness := (true, "f75301d41d88097ad99f951fe26f44a9c98b775a675105d72c8018541e80eb6d"), looks := false }, kinds := [], alts := [], laidByText := true, laidKinds := [.data], laidTests := true, laidLooks := .later }
def FnExactFirstOfSizesUptoCardSaid : Prop := Claim7.holds Tryd.pinned (.plain (OpenSpec.upto fnExactFirstOfSizesSpec)) fnExactFirstOfSizesUptoCard

/-- THE SECOND FORM's CARD OF 'laws.FnExactGreatestClique'. -/
def fnExactGreatestCliqueUptoCard : Claim7 := { stood := { row := fnExactGreatestCliqueUptoRow, standIns := [], harness := (true, "f75301d41d88097ad99f951fe26f44a9c98b775a675105d72c8018541e80eb6d"), looks := false }, kinds := [], alts := [], laidByText := true, laidKinds := [.data], laidTests := true, laidLooks := .later }
def FnExactGreatestCliqueUptoCardSaid : Prop := Claim7.holds Tryd.pinned (.plain (OpenSpec.upto fnExactGreatestCliqueSpec)) fnExactGreatestCliqueUptoCard

/-- THE SECOND FORM's CARD OF 'laws.FnExactCliqueList'. -/
def fnExactCliqueListUptoCard : Claim7 := { stood := { row := fnExactCliqueListUptoRow, standIns := [], harness := (true, "f75301d41d88097ad99f951fe26f44a9c98b775a675105d72c8018541e80eb6d"), looks := false }, kinds := [], alts := [], laidByText := true, laidKinds := [.data], laidTests := true, laidLooks := .later }
def FnExactCliqueListUptoCardSaid : Prop := Claim7.holds Tryd.pinned (.plain (OpenSpec.upto fnExactCliqueListSpec)) fnExactCliqueListUptoCard

/-- THE SECOND FORM's CARD OF 'laws.FnExactFullCliques'. -/
def fnExactFullCliquesUptoCard : Claim7 := { stood := { row := fnExactFullCliquesUptoRow, standIns := [], harness := (true, "f75301d41d88097ad99f951fe26f44a9c98b775a675105d72c8018541e80eb6d"), looks := false }, kinds := [], alts := [], laidByText := true, laidKinds := [.data], laidTests := true, laidLooks := .later }
def FnExactFullCliquesUptoCardSaid : Prop := Claim7.holds Tryd.pinned (.plain (OpenSpec.upto fnExactFullCliquesSpec)) fnExactFullCliquesUptoCard

/-- THE SECOND FORM's CARD OF 'laws.FnExactGreatestStar'. -/
def fnExactGreatestStarUptoCard : Claim7 := { stood := { row := fnExactGreatestStarUptoRow, standIns := [], harness := (true, "f75301d41d88097ad99f951fe26f44a9c98b775a675105d72c8018541e80eb6d"), looks := false }, kinds := [], alts := [], laidByText := true, laidKinds := [.data], laidTests := true, laidLooks := .later }
def FnExactGreatestStarUptoCardSaid : Prop := Claim7.holds Tryd.pinned (.plain (OpenSpec.upto fnExactGreatestStarSpec)) fnExactGreatestStarUptoCard

/-- THE SECOND FORM's CARD OF 'laws.FnExactGreatestDouble'. -/
def fnExactGreatestDoubleUptoCard : Claim7 := { stood := { row := fnExactGreatestDoubleUptoRow, standIns := [], harness := (true, "f75301d41d88097ad99f951fe26f44a9c98b775a675105d72c8018541e80eb6d"), looks := false }, kinds := [], alts := [], laidByText := true, laidKinds := [.data], laidTests := true, laidLooks := .later }
def FnExactGreatestDoubleUptoCardSaid : Prop := Claim7.holds Tryd.pinned (.plain (OpenSpec.upto fnExactGreatestDoubleSpec)) fnExactGreatestDoubleUptoCard

/-- THE SECOND FORM's CARD OF 'laws.FnExactGreatestBook'. -/
def fnExactGreatestBookUptoCard : Claim7 := { stood := { row := fnExactGreatestBookUptoRow, standIns := [], harness := (true, "f75301d41d88097ad99f951fe26f44a9c98b775a675105d72c8018541e80eb6d"), looks := false }, kinds := [], alts := [], laidByText := true, laidKinds := [.data], laidTests := true, laidLooks := .later }
def FnExactGreatestBookUptoCardSaid : Prop := Claim7.holds Tryd.pinned (.plain (OpenSpec.upto fnExactGreatestBookSpec)) fnExactGreatestBookUptoCard

/-- THE SECOND FORM's CARD OF 'laws.FnExactComponentsOf'. -/
def fnExactComponentsOfUptoCard : Claim7 := { stood := { row := fnExactComponentsOfUptoRow, standIns := [], harness := (true, "f75301d41d88097ad99f951fe26f44a9c98b775a675105d72c8018541e80eb6d"), looks := false }, kinds := [], alts := [], laidByText := true, laidKinds := [.data], laidTests := true, laidLooks := .later }
def FnExactComponentsOfUptoCardSaid : Prop := Claim7.holds Tryd.pinned (.plain (OpenSpec.upto fnExactComponentsOfSpec)) fnExactComponentsOfUptoCard

/-- THE SECOND FORM's CARD OF 'laws.FnExactConnectedColours'. -/
def fnExactConnectedColoursUptoCard : Claim7 := { stood := { row := fnExactConnectedColoursUptoRow, standIns := [], harness := (true, "f75301d41d88097ad99f951fe26f44a9c98b775a675105d72c8018541e80eb6d"), looks := false }, kinds := [], alts := [], laidByText := true, laidKinds := [.data], laidTests := true, laidLooks := .later }
def FnExactConnectedColoursUptoCardSaid : Prop := Claim7.holds Tryd.pinned (.plain (OpenSpec.upto fnExactConnectedColoursSpec)) fnExactConnectedColoursUptoCard

/-- THE SECOND FORM's CARD OF 'laws.FnExactSidesOf'. -/
def fnExactSidesOfUptoCard : Claim7 := { stood := { row := fnExactSidesOfUptoRow, standIns := [], harness := (true, "f75301d41d88097ad99f951fe26f44a9c98b775a675105d72c8018541e80eb6d"), looks := false }, kinds := [], alts := [], laidByText := true, laidKinds := [.data], laidTests := true, laidLooks := .later }
def FnExactSidesOfUptoCardSaid : Prop := Claim7.holds Tryd.pinned (.plain (OpenSpec.upto fnExactSidesOfSpec)) fnExactSidesOfUptoCard
end Rows
end Go.Proofs.YtkiocedhibeieaaDoor
