/-
  DERIVED. GIVEN WITH THE SEED: THE CARDS: each row of YteikiifjiapjaacDoorRows.lean that lists a variable, with what it lists TIED to the program's text (the seventh form; the later family's looks); each row that meets fmt, with fmt's text TOLD by the authors' own Lean function (tested against real Go, not proved from fmt's source: count such statements apart). THE CARD IS WHAT COUNTS. Prove the row's statement (the work); the ties are given (YteikiifjiapjaacDoorTie.lean); close each card by the builder's one call (the guide's Derived/Test/ToyasCard.lean, 'card_holds'). Laid BY PROGRAM, IN A SANDBOX (cutbox-door.mjs). By AI agents, Wed Nov 11 2026. No macro, syntax, notation, axiom, sorry.
-/
import Derived.Test.YteikiifjiapjaacDoorRows
import GoSem.ClaimSeven
namespace Go.Proofs.YteikiifjiapjaacDoor
namespace Rows

/-- THE TIED CARD OF 'laws.FnExactQuotientOf'. -/
def fnExactQuotientOfCard : Claim7 := { stood := { row := fnExactQuotientOfRow, standIns := [], harness := (true, "a4a093fa084a967d3f58f21798a63920de7fda1dc06eb407fff873b5f2688603"), looks := true }, kinds := [], alts := [], goes := true, laidByText := true, laidKinds := [.data, .data], laidTests := true, laidLooks := .later }
def FnExactQuotientOfCardSaid : Prop := Claim7.holds Tryd.pinned (.plain (OpenSpec.ofChange fnExactQuotientOfSpec)) fnExactQuotientOfCard

/-- THE TIED CARD OF 'laws.FnExactColorByOrder'. -/
def fnExactColorByOrderCard : Claim7 := { stood := { row := fnExactColorByOrderRow, standIns := [], harness := (true, "a4a093fa084a967d3f58f21798a63920de7fda1dc06eb407fff873b5f2688603"), looks := true }, kinds := [], alts := [], goes := true, laidByText := true, laidKinds := [.data, .data], laidTests := true, laidLooks := .later }
def FnExactColorByOrderCardSaid : Prop := Claim7.holds Tryd.pinned (.plain (OpenSpec.ofChange fnExactColorByOrderSpec)) fnExactColorByOrderCard

/-- THE TIED CARD OF 'laws.FnExactSidesOf'. -/
def fnExactSidesOfCard : Claim7 := { stood := { row := fnExactSidesOfRow, standIns := [], harness := (true, "a4a093fa084a967d3f58f21798a63920de7fda1dc06eb407fff873b5f2688603"), looks := true }, kinds := [], alts := [], goes := true, laidByText := true, laidKinds := [.data, .data], laidTests := true, laidLooks := .later }
def FnExactSidesOfCardSaid : Prop := Claim7.holds Tryd.pinned (.plain (OpenSpec.ofChange fnExactSidesOfSpec)) fnExactSidesOfCard

/-- THE TIED CARD OF 'laws.FnExactIsBipartite'. -/
def fnExactIsBipartiteCard : Claim7 := { stood := { row := fnExactIsBipartiteRow, standIns := [], harness := (true, "a4a093fa084a967d3f58f21798a63920de7fda1dc06eb407fff873b5f2688603"), looks := true }, kinds := [], alts := [], goes := true, laidByText := true, laidKinds := [.data, .data], laidTests := true, laidLooks := .later }
def FnExactIsBipartiteCardSaid : Prop := Claim7.holds Tryd.pinned (.plain (OpenSpec.ofChange fnExactIsBipartiteSpec)) fnExactIsBipartiteCard

/-- THE TIED CARD OF 'laws.FnExactAvoidingPath'. -/
def fnExactAvoidingPathCard : Claim7 := { stood := { row := fnExactAvoidingPathRow, standIns := [], harness := (true, "a4a093fa084a967d3f58f21798a63920de7fda1dc06eb407fff873b5f2688603"), looks := true }, kinds := [], alts := [], goes := true, laidByText := true, laidKinds := [.data, .data], laidTests := true, laidLooks := .later }
def FnExactAvoidingPathCardSaid : Prop := Claim7.holds Tryd.pinned (.plain (OpenSpec.ofChange fnExactAvoidingPathSpec)) fnExactAvoidingPathCard

/-- THE TIED CARD OF 'laws.FnExactTriplePaths'. -/
def fnExactTriplePathsCard : Claim7 := { stood := { row := fnExactTriplePathsRow, standIns := [], harness := (true, "a4a093fa084a967d3f58f21798a63920de7fda1dc06eb407fff873b5f2688603"), looks := true }, kinds := [], alts := [], goes := true, laidByText := true, laidKinds := [.data, .data], laidTests := true, laidLooks := .later }
def FnExactTriplePathsCardSaid : Prop := Claim7.holds Tryd.pinned (.plain (OpenSpec.ofChange fnExactTriplePathsSpec)) fnExactTriplePathsCard

/-- THE TIED CARD OF 'laws.FnExactIsTriple'. -/
def fnExactIsTripleCard : Claim7 := { stood := { row := fnExactIsTripleRow, standIns := [], harness := (true, "a4a093fa084a967d3f58f21798a63920de7fda1dc06eb407fff873b5f2688603"), looks := true }, kinds := [], alts := [], goes := true, laidByText := true, laidKinds := [.data, .data], laidTests := true, laidLooks := .later }
def FnExactIsTripleCardSaid : Prop := Claim7.holds Tryd.pinned (.plain (OpenSpec.ofChange fnExactIsTripleSpec)) fnExactIsTripleCard

/-- THE TIED CARD OF 'laws.FnExactIsIntervalObstacle'. -/
def fnExactIsIntervalObstacleCard : Claim7 := { stood := { row := fnExactIsIntervalObstacleRow, standIns := [], harness := (true, "a4a093fa084a967d3f58f21798a63920de7fda1dc06eb407fff873b5f2688603"), looks := true }, kinds := [], alts := [], goes := true, laidByText := true, laidKinds := [.data, .data], laidTests := true, laidLooks := .later }
def FnExactIsIntervalObstacleCardSaid : Prop := Claim7.holds Tryd.pinned (.plain (OpenSpec.ofChange fnExactIsIntervalObstacleSpec)) fnExactIsIntervalObstacleCard

/-- THE TIED CARD OF 'laws.FnExactIsProperObstacle'. -/
def fnExactIsProperObstacleCard : Claim7 := { stood := { row := fnExactIsProperObstacleRow, standIns := [], harness := (true, "a4a093fa084a967d3f58f21798a63920de7fda1dc06eb407fff873b5f2688603"), looks := true }, kinds := [], alts := [], goes := true, laidByText := true, laidKinds := [.data, .data], laidTests := true, laidLooks := .later }
def FnExactIsProperObstacleCardSaid : Prop := Claim7.holds Tryd.pinned (.plain (OpenSpec.ofChange fnExactIsProperObstacleSpec)) fnExactIsProperObstacleCard

/-- THE TIED CARD OF 'laws.FnExactFindTriple'. -/
def fnExactFindTripleCard : Claim7 := { stood := { row := fnExactFindTripleRow, standIns := [], harness := (true, "a4a093fa084a967d3f58f21798a63920de7fda1dc06eb407fff873b5f2688603"), looks := true }, kinds := [], alts := [], goes := true, laidByText := true, laidKinds := [.data, .data, .handle], laidTests := true, laidLooks := .later }
def FnExactFindTripleCardSaid : Prop := Claim7.holds Tryd.pinned (.plain (OpenSpec.ofChange fnExactFindTripleSpec)) fnExactFindTripleCard

/-- THE TIED CARD OF 'laws.FnExactIntervalObstacle'. -/
def fnExactIntervalObstacleCard : Claim7 := { stood := { row := fnExactIntervalObstacleRow, standIns := [], harness := (true, "a4a093fa084a967d3f58f21798a63920de7fda1dc06eb407fff873b5f2688603"), looks := true }, kinds := [], alts := [], goes := true, laidByText := true, laidKinds := [.data, .data, .handle], laidTests := true, laidLooks := .later }
def FnExactIntervalObstacleCardSaid : Prop := Claim7.holds Tryd.pinned (.plain (OpenSpec.ofChange fnExactIntervalObstacleSpec)) fnExactIntervalObstacleCard

/-- THE TIED CARD OF 'laws.FnExactProperObstacle'. -/
def fnExactProperObstacleCard : Claim7 := { stood := { row := fnExactProperObstacleRow, standIns := [], harness := (true, "a4a093fa084a967d3f58f21798a63920de7fda1dc06eb407fff873b5f2688603"), looks := true }, kinds := [], alts := [], goes := true, laidByText := true, laidKinds := [.data, .data, .handle], laidTests := true, laidLooks := .later }
def FnExactProperObstacleCardSaid : Prop := Claim7.holds Tryd.pinned (.plain (OpenSpec.ofChange fnExactProperObstacleSpec)) fnExactProperObstacleCard

/-- THE TIED CARD OF 'laws.FnExactMatchingOf'. -/
def fnExactMatchingOfCard : Claim7 := { stood := { row := fnExactMatchingOfRow, standIns := [], harness := (true, "a4a093fa084a967d3f58f21798a63920de7fda1dc06eb407fff873b5f2688603"), looks := true }, kinds := [], alts := [], goes := true, laidByText := true, laidKinds := [.data, .data], laidTests := true, laidLooks := .later }
def FnExactMatchingOfCardSaid : Prop := Claim7.holds Tryd.pinned (.plain (OpenSpec.ofChange fnExactMatchingOfSpec)) fnExactMatchingOfCard

/-- THE SECOND FORM's CARD OF 'laws.FnExactQuotientOf'. -/
def fnExactQuotientOfUptoCard : Claim7 := { stood := { row := fnExactQuotientOfUptoRow, standIns := [], harness := (true, "a4a093fa084a967d3f58f21798a63920de7fda1dc06eb407fff873b5f2688603"), looks := true }, kinds := [], alts := [], goes := true, laidByText := true, laidKinds := [.data, .data], laidTests := true, laidLooks := .later }
def FnExactQuotientOfUptoCardSaid : Prop := Claim7.holds Tryd.pinned (.plain (OpenSpec.upto fnExactQuotientOfSpec)) fnExactQuotientOfUptoCard

/-- THE SECOND FORM's CARD OF 'laws.FnExactColorByOrder'. -/
def fnExactColorByOrderUptoCard : Claim7 := { stood := { row := fnExactColorByOrderUptoRow, standIns := [], harness := (true, "a4a093fa084a967d3f58f21798a63920de7fda1dc06eb407fff873b5f2688603"), looks := true }, kinds := [], alts := [], goes := true, laidByText := true, laidKinds := [.data, .data], laidTests := true, laidLooks := .later }
def FnExactColorByOrderUptoCardSaid : Prop := Claim7.holds Tryd.pinned (.plain (OpenSpec.upto fnExactColorByOrderSpec)) fnExactColorByOrderUptoCard

/-- THE SECOND FORM's CARD OF 'laws.FnExactSidesOf'. -/
def fnExactSidesOfUptoCard : Claim7 := { stood := { row := fnExactSidesOfUptoRow, standIns := [], harness := (true, "a4a093fa084a967d3f58f21798a63920de7fda1dc06eb407fff873b5f2688603"), looks := true }, kinds := [], alts := [], goes := true, laidByText := true, laidKinds := [.data, .data], laidTests := true, laidLooks := .later }
def FnExactSidesOfUptoCardSaid : Prop := Claim7.holds Tryd.pinned (.plain (OpenSpec.upto fnExactSidesOfSpec)) fnExactSidesOfUptoCard

/-- THE SECOND FORM's CARD OF 'laws.FnExactIsBipartite'. -/
def fnExactIsBipartiteUptoCard : Claim7 := { stood := { row := fnExactIsBipartiteUptoRow, standIns := [], harness := (true, "a4a093fa084a967d3f58f21798a63920de7fda1dc06eb407fff873b5f2688603"), looks := true }, kinds := [], alts := [], goes := true, laidByText := true, laidKinds := [.data, .data], laidTests := true, laidLooks := .later }
def FnExactIsBipartiteUptoCardSaid : Prop := Claim7.holds Tryd.pinned (.plain (OpenSpec.upto fnExactIsBipartiteSpec)) fnExactIsBipartiteUptoCard

/-- THE SECOND FORM's CARD OF 'laws.FnExactAvoidingPath'. -/
def fnExactAvoidingPathUptoCard : Claim7 := { stood := { row := fnExactAvoidingPathUptoRow, standIns := [], harness := (true, "a4a093fa084a967d3f58f21798a63920de7fda1dc06eb407fff873b5f2688603"), looks := true }, kinds := [], alts := [], goes := true, laidByText := true, laidKinds := [.data, .data], laidTests := true, laidLooks := .later }
def FnExactAvoidingPathUptoCardSaid : Prop := Claim7.holds Tryd.pinned (.plain (OpenSpec.upto fnExactAvoidingPathSpec)) fnExactAvoidingPathUptoCard

/-- THE SECOND FORM's CARD OF 'laws.FnExactTriplePaths'. -/
def fnExactTriplePathsUptoCard : Claim7 := { stood := { row := fnExactTriplePathsUptoRow, standIns := [], harness := (true, "a4a093fa084a967d3f58f21798a63920de7fda1dc06eb407fff873b5f2688603"), looks := true }, kinds := [], alts := [], goes := true, laidByText := true, laidKinds := [.data, .data], laidTests := true, laidLooks := .later }
def FnExactTriplePathsUptoCardSaid : Prop := Claim7.holds Tryd.pinned (.plain (OpenSpec.upto fnExactTriplePathsSpec)) fnExactTriplePathsUptoCard

/-- THE SECOND FORM's CARD OF 'laws.FnExactIsTriple'. -/
def fnExactIsTripleUptoCard : Claim7 := { stood := { row := fnExactIsTripleUptoRow, standIns := [], harness := (true, "a4a093fa084a967d3f58f21798a63920de7fda1dc06eb407fff873b5f2688603"), looks := true }, kinds := [], alts := [], goes := true, laidByText := true, laidKinds := [.data, .data], laidTests := true, laidLooks := .later }
def FnExactIsTripleUptoCardSaid : Prop := Claim7.holds Tryd.pinned (.plain (OpenSpec.upto fnExactIsTripleSpec)) fnExactIsTripleUptoCard

/-- THE SECOND FORM's CARD OF 'laws.FnExactIsIntervalObstacle'. -/
def fnExactIsIntervalObstacleUptoCard : Claim7 := { stood := { row := fnExactIsIntervalObstacleUptoRow, standIns := [], harness := (true, "a4a093fa084a967d3f58f21798a63920de7fda1dc06eb407fff873b5f2688603"), looks := true }, kinds := [], alts := [], goes := true, laidByText := true, laidKinds := [.data, .data], laidTests := true, laidLooks := .later }
def FnExactIsIntervalObstacleUptoCardSaid : Prop := Claim7.holds Tryd.pinned (.plain (OpenSpec.upto fnExactIsIntervalObstacleSpec)) fnExactIsIntervalObstacleUptoCard

/-- THE SECOND FORM's CARD OF 'laws.FnExactIsProperObstacle'. -/
def fnExactIsProperObstacleUptoCard : Claim7 := { stood := { row := fnExactIsProperObstacleUptoRow, standIns := [], harness := (true, "a4a093fa084a967d3f58f21798a63920de7fda1dc06eb407fff873b5f2688603"), looks := true }, kinds := [], alts := [], goes := true, laidByText := true, laidKinds := [.data, .data], laidTests := true, laidLooks := .later }
def FnExactIsProperObstacleUptoCardSaid : Prop := Claim7.holds Tryd.pinned (.plain (OpenSpec.upto fnExactIsProperObstacleSpec)) fnExactIsProperObstacleUptoCard

/-- THE SECOND FORM's CARD OF 'laws.FnExactFindTriple'. -/
def fnExactFindTripleUptoCard : Claim7 := { stood := { row := fnExactFindTripleUptoRow, standIns := [], harness := (true, "a4a093fa084a967d3f58f21798a63920de7fda1dc06eb407fff873b5f2688603"), looks := true }, kinds := [], alts := [], goes := true, laidByText := true, laidKinds := [.data, .data, .handle], laidTests := true, laidLooks := .later }
def FnExactFindTripleUptoCardSaid : Prop := Claim7.holds Tryd.pinned (.plain (OpenSpec.upto fnExactFindTripleSpec)) fnExactFindTripleUptoCard

/-- THE SECOND FORM's CARD OF 'laws.FnExactIntervalObstacle'. -/
def fnExactIntervalObstacleUptoCard : Claim7 := { stood := { row := fnExactIntervalObstacleUptoRow, standIns := [], harness := (true, "a4a093fa084a967d3f58f21798a63920de7fda1dc06eb407fff873b5f2688603"), looks := true }, kinds := [], alts := [], goes := true, laidByText := true, laidKinds := [.data, .data, .handle], laidTests := true, laidLooks := .later }
def FnExactIntervalObstacleUptoCardSaid : Prop := Claim7.holds Tryd.pinned (.plain (OpenSpec.upto fnExactIntervalObstacleSpec)) fnExactIntervalObstacleUptoCard

/-- THE SECOND FORM's CARD OF 'laws.FnExactProperObstacle'. -/
def fnExactProperObstacleUptoCard : Claim7 := { stood := { row := fnExactProperObstacleUptoRow, standIns := [], harness := (true, "a4a093fa084a967d3f58f21798a63920de7fda1dc06eb407fff873b5f2688603"), looks := true }, kinds := [], alts := [], goes := true, laidByText := true, laidKinds := [.data, .data, .handle], laidTests := true, laidLooks := .later }
def FnExactProperObstacleUptoCardSaid : Prop := Claim7.holds Tryd.pinned (.plain (OpenSpec.upto fnExactProperObstacleSpec)) fnExactProperObstacleUptoCard

/-- THE SECOND FORM's CARD OF 'laws.FnExactMatchingOf'. -/
def fnExactMatchingOfUptoCard : Claim7 := { stood := { row := fnExactMatchingOfUptoRow, standIns := [], harness := (true, "a4a093fa084a967d3f58f21798a63920de7fda1dc06eb407fff873b5f2688603"), looks := true }, kinds := [], alts := [], goes := true, laidByText := true, laidKinds := [.data, .data], laidTests := true, laidLooks := .later }
def FnExactMatchingOfUptoCardSaid : Prop := Claim7.holds Tryd.pinned (.plain (OpenSpec.upto fnExactMatchingOfSpec)) fnExactMatchingOfUptoCard
end Rows
end Go.Proofs.YteikiifjiapjaacDoor
