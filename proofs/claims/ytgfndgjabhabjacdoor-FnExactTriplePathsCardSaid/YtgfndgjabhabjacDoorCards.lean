/-
  DERIVED. GIVEN WITH THE SEED: THE CARDS: each row of YtgfndgjabhabjacDoorRows.lean that lists a variable, with what it lists TIED to the program's text (the seventh form; the later family's looks); each row that meets fmt, with fmt's text TOLD by the authors' own Lean function (tested against real Go, not proved from fmt's source: count such statements apart). THE CARD IS WHAT COUNTS. Prove the row's statement (the work); the ties are given (YtgfndgjabhabjacDoorTie.lean); close each card by the builder's one call (the guide's Derived/Test/ToyasCard.lean, 'card_holds'). Laid BY PROGRAM, IN A SANDBOX (cutbox-door.mjs). By AI agents, Wed Nov 11 2026. No macro, syntax, notation, axiom, sorry.
-/
import Derived.Test.YtgfndgjabhabjacDoorRows
import GoSem.ClaimSeven
namespace Go.Proofs.YtgfndgjabhabjacDoor
namespace Rows

/-- THE TIED CARD OF 'laws.FnExactTriplePaths'. -/
def fnExactTriplePathsCard : Claim7 := { stood := { row := fnExactTriplePathsRow, standIns := [], harness := (true, "011793fdb6023acca4c94ed861a2c320d196b6bd8f9f79be40344b72e7450fdb"), looks := false }, kinds := [], alts := [], laidByText := true, laidKinds := [.data, .data], laidTests := true, laidLooks := .later }
def FnExactTriplePathsCardSaid : Prop := Claim7.holds Tryd.pinned (.plain (OpenSpec.ofChange fnExactTriplePathsSpec)) fnExactTriplePathsCard

/-- THE TIED CARD OF 'laws.FnExactColorByOrder'. -/
def fnExactColorByOrderCard : Claim7 := { stood := { row := fnExactColorByOrderRow, standIns := [], harness := (true, "011793fdb6023acca4c94ed861a2c320d196b6bd8f9f79be40344b72e7450fdb"), looks := false }, kinds := [], alts := [], laidByText := true, laidKinds := [.data, .data], laidTests := true, laidLooks := .later }
def FnExactColorByOrderCardSaid : Prop := Claim7.holds Tryd.pinned (.plain (OpenSpec.ofChange fnExactColorByOrderSpec)) fnExactColorByOrderCard

/-- THE TIED CARD OF 'laws.FnExactChordalColoring'. -/
def fnExactChordalColoringCard : Claim7 := { stood := { row := fnExactChordalColoringRow, standIns := [], harness := (true, "011793fdb6023acca4c94ed861a2c320d196b6bd8f9f79be40344b72e7450fdb"), looks := false }, kinds := [], alts := [], laidByText := true, laidKinds := [.data, .data], laidTests := true, laidLooks := .later }
def FnExactChordalColoringCardSaid : Prop := Claim7.holds Tryd.pinned (.plain (OpenSpec.ofChange fnExactChordalColoringSpec)) fnExactChordalColoringCard

/-- THE TIED CARD OF 'laws.FnExactQuotientOf'. -/
def fnExactQuotientOfCard : Claim7 := { stood := { row := fnExactQuotientOfRow, standIns := [], harness := (true, "011793fdb6023acca4c94ed861a2c320d196b6bd8f9f79be40344b72e7450fdb"), looks := false }, kinds := [], alts := [], laidByText := true, laidKinds := [.data, .data], laidTests := true, laidLooks := .later }
def FnExactQuotientOfCardSaid : Prop := Claim7.holds Tryd.pinned (.plain (OpenSpec.ofChange fnExactQuotientOfSpec)) fnExactQuotientOfCard

/-- THE SECOND FORM's CARD OF 'laws.FnExactTriplePaths'. -/
def fnExactTriplePathsUptoCard : Claim7 := { stood := { row := fnExactTriplePathsUptoRow, standIns := [], harness := (true, "011793fdb6023acca4c94ed861a2c320d196b6bd8f9f79be40344b72e7450fdb"), looks := false }, kinds := [], alts := [], laidByText := true, laidKinds := [.data, .data], laidTests := true, laidLooks := .later }
def FnExactTriplePathsUptoCardSaid : Prop := Claim7.holds Tryd.pinned (.plain (OpenSpec.upto fnExactTriplePathsSpec)) fnExactTriplePathsUptoCard

/-- THE SECOND FORM's CARD OF 'laws.FnExactColorByOrder'. -/
def fnExactColorByOrderUptoCard : Claim7 := { stood := { row := fnExactColorByOrderUptoRow, standIns := [], harness := (true, "011793fdb6023acca4c94ed861a2c320d196b6bd8f9f79be40344b72e7450fdb"), looks := false }, kinds := [], alts := [], laidByText := true, laidKinds := [.data, .data], laidTests := true, laidLooks := .later }
def FnExactColorByOrderUptoCardSaid : Prop := Claim7.holds Tryd.pinned (.plain (OpenSpec.upto fnExactColorByOrderSpec)) fnExactColorByOrderUptoCard

/-- THE SECOND FORM's CARD OF 'laws.FnExactChordalColoring'. -/
def fnExactChordalColoringUptoCard : Claim7 := { stood := { row := fnExactChordalColoringUptoRow, standIns := [], harness := (true, "011793fdb6023acca4c94ed861a2c320d196b6bd8f9f79be40344b72e7450fdb"), looks := false }, kinds := [], alts := [], laidByText := true, laidKinds := [.data, .data], laidTests := true, laidLooks := .later }
def FnExactChordalColoringUptoCardSaid : Prop := Claim7.holds Tryd.pinned (.plain (OpenSpec.upto fnExactChordalColoringSpec)) fnExactChordalColoringUptoCard

/-- THE SECOND FORM's CARD OF 'laws.FnExactQuotientOf'. -/
def fnExactQuotientOfUptoCard : Claim7 := { stood := { row := fnExactQuotientOfUptoRow, standIns := [], harness := (true, "011793fdb6023acca4c94ed861a2c320d196b6bd8f9f79be40344b72e7450fdb"), looks := false }, kinds := [], alts := [], laidByText := true, laidKinds := [.data, .data], laidTests := true, laidLooks := .later }
def FnExactQuotientOfUptoCardSaid : Prop := Claim7.holds Tryd.pinned (.plain (OpenSpec.upto fnExactQuotientOfSpec)) fnExactQuotientOfUptoCard
end Rows
end Go.Proofs.YtgfndgjabhabjacDoor
