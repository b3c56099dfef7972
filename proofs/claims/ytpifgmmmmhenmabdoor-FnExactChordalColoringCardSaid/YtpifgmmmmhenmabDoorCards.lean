/-
  DERIVED. GIVEN WITH THE SEED: THE CARDS: each row of YtpifgmmmmhenmabDoorRows.lean that lists a variable, with what it lists TIED to the program's text (the seventh form; the later family's looks); each row that meets fmt, with fmt's text TOLD by the authors' own Lean function (tested against real Go, not proved from fmt's source: count such statements apart). THE CARD IS WHAT COUNTS. Prove the row's statement (the work); the ties are given (YtpifgmmmmhenmabDoorTie.lean); close each card by the builder's one call (the guide's Derived/Test/ToyasCard.lean, 'card_holds'). Laid BY PROGRAM, IN A SANDBOX (cutbox-door.mjs). By AI agents, Wed Nov 11 2026. No macro, syntax, notation, axiom, sorry.
-/
import Derived.Test.YtpifgmmmmhenmabDoorRows
import GoSem.ClaimSeven
namespace Go.Proofs.YtpifgmmmmhenmabDoor
namespace Rows

/-- THE TIED CARD OF 'laws.FnExactFindTriple'. -/
def fnExactFindTripleCard : Claim7 := { stood := { row := fnExactFindTripleRow, standIns := [], harness := (true, "aaa357a55872b72932bf62daf833dd3d1c1acca7e9b5a498266e1f0cabe7c267"), looks := true }, kinds := [], alts := [], laidByText := true, laidKinds := [.data, .data, .handle], laidTests := true, laidLooks := .later }
def FnExactFindTripleCardSaid : Prop := Claim7.holds Tryd.pinned (.plain (OpenSpec.ofChange fnExactFindTripleSpec)) fnExactFindTripleCard

/-- THE TIED CARD OF 'laws.FnExactAddAll'. -/
def fnExactAddAllCard : Claim7 := { stood := { row := fnExactAddAllRow, standIns := [], harness := (true, "aaa357a55872b72932bf62daf833dd3d1c1acca7e9b5a498266e1f0cabe7c267"), looks := true }, kinds := [], alts := [], laidByText := true, laidKinds := [.sentinel, .sentinel], laidTests := true, laidLooks := .later }
def FnExactAddAllCardSaid : Prop := Claim7.holds Tryd.pinned (.plain (OpenSpec.ofChange fnExactAddAllSpec)) fnExactAddAllCard

/-- THE TIED CARD OF 'laws.FnExactColorByOrder'. -/
def fnExactColorByOrderCard : Claim7 := { stood := { row := fnExactColorByOrderRow, standIns := [], harness := (true, "aaa357a55872b72932bf62daf833dd3d1c1acca7e9b5a498266e1f0cabe7c267"), looks := true }, kinds := [], alts := [], laidByText := true, laidKinds := [.data, .data], laidTests := true, laidLooks := .later }
def FnExactColorByOrderCardSaid : Prop := Claim7.holds Tryd.pinned (.plain (OpenSpec.ofChange fnExactColorByOrderSpec)) fnExactColorByOrderCard

/-- THE TIED CARD OF 'laws.FnExactChordalColoring'. -/
def fnExactChordalColoringCard : Claim7 := { stood := { row := fnExactChordalColoringRow, standIns := [], harness := (true, "aaa357a55872b72932bf62daf833dd3d1c1acca7e9b5a498266e1f0cabe7c267"), looks := true }, kinds := [], alts := [], laidByText := true, laidKinds := [.data, .data], laidTests := true, laidLooks := .later }
def FnExactChordalColoringCardSaid : Prop := Claim7.holds Tryd.pinned (.plain (OpenSpec.ofChange fnExactChordalColoringSpec)) fnExactChordalColoringCard

/-- THE TIED CARD OF 'laws.FnExactQuotientOf'. -/
def fnExactQuotientOfCard : Claim7 := { stood := { row := fnExactQuotientOfRow, standIns := [], harness := (true, "aaa357a55872b72932bf62daf833dd3d1c1acca7e9b5a498266e1f0cabe7c267"), looks := true }, kinds := [], alts := [], laidByText := true, laidKinds := [.data, .data], laidTests := true, laidLooks := .later }
def FnExactQuotientOfCardSaid : Prop := Claim7.holds Tryd.pinned (.plain (OpenSpec.ofChange fnExactQuotientOfSpec)) fnExactQuotientOfCard

/-- THE TIED CARD OF 'laws.FnExactMatchingOf'. -/
def fnExactMatchingOfCard : Claim7 := { stood := { row := fnExactMatchingOfRow, standIns := [], harness := (true, "aaa357a55872b72932bf62daf833dd3d1c1acca7e9b5a498266e1f0cabe7c267"), looks := true }, kinds := [], alts := [], laidByText := true, laidKinds := [.data, .data], laidTests := true, laidLooks := .later }
def FnExactMatchingOfCardSaid : Prop := Claim7.holds Tryd.pinned (.plain (OpenSpec.ofChange fnExactMatchingOfSpec)) fnExactMatchingOfCard

/-- THE SECOND FORM's CARD OF 'laws.FnExactFindTriple'. -/
def fnExactFindTripleUptoCard : Claim7 := { stood := { row := fnExactFindTripleUptoRow, standIns := [], harness := (true, "aaa357a55872b72932bf62daf833dd3d1c1acca7e9b5a498266e1f0cabe7c267"), looks := true }, kinds := [], alts := [], laidByText := true, laidKinds := [.data, .data, .handle], laidTests := true, laidLooks := .later }
def FnExactFindTripleUptoCardSaid : Prop := Claim7.holds Tryd.pinned (.plain (OpenSpec.upto fnExactFindTripleSpec)) fnExactFindTripleUptoCard

/-- THE SECOND FORM's CARD OF 'laws.FnExactAddAll'. -/
def fnExactAddAllUptoCard : Claim7 := { stood := { row := fnExactAddAllUptoRow, standIns := [], harness := (true, "aaa357a55872b72932bf62daf833dd3d1c1acca7e9b5a498266e1f0cabe7c267"), looks := true }, kinds := [], alts := [], laidByText := true, laidKinds := [.sentinel, .sentinel], laidTests := true, laidLooks := .later }
def FnExactAddAllUptoCardSaid : Prop := Claim7.holds Tryd.pinned (.plain (OpenSpec.upto fnExactAddAllSpec)) fnExactAddAllUptoCard

/-- THE SECOND FORM's CARD OF 'laws.FnExactColorByOrder'. -/
def fnExactColorByOrderUptoCard : Claim7 := { stood := { row := fnExactColorByOrderUptoRow, standIns := [], harness := (true, "aaa357a55872b72932bf62daf833dd3d1c1acca7e9b5a498266e1f0cabe7c267"), looks := true }, kinds := [], alts := [], laidByText := true, laidKinds := [.data, .data], laidTests := true, laidLooks := .later }
def FnExactColorByOrderUptoCardSaid : Prop := Claim7.holds Tryd.pinned (.plain (OpenSpec.upto fnExactColorByOrderSpec)) fnExactColorByOrderUptoCard

/-- THE SECOND FORM's CARD OF 'laws.FnExactChordalColoring'. -/
def fnExactChordalColoringUptoCard : Claim7 := { stood := { row := fnExactChordalColoringUptoRow, standIns := [], harness := (true, "aaa357a55872b72932bf62daf833dd3d1c1acca7e9b5a498266e1f0cabe7c267"), looks := true }, kinds := [], alts := [], laidByText := true, laidKinds := [.data, .data], laidTests := true, laidLooks := .later }
def FnExactChordalColoringUptoCardSaid : Prop := Claim7.holds Tryd.pinned (.plain (OpenSpec.upto fnExactChordalColoringSpec)) fnExactChordalColoringUptoCard

/-- THE SECOND FORM's CARD OF 'laws.FnExactQuotientOf'. -/
def fnExactQuotientOfUptoCard : Claim7 := { stood := { row := fnExactQuotientOfUptoRow, standIns := [], harness := (true, "aaa357a55872b72932bf62daf833dd3d1c1acca7e9b5a498266e1f0cabe7c267"), looks := true }, kinds := [], alts := [], laidByText := true, laidKinds := [.data, .data], laidTests := true, laidLooks := .later }
def FnExactQuotientOfUptoCardSaid : Prop := Claim7.holds Tryd.pinned (.plain (OpenSpec.upto fnExactQuotientOfSpec)) fnExactQuotientOfUptoCard

/-- THE SECOND FORM's CARD OF 'laws.FnExactMatchingOf'. -/
def fnExactMatchingOfUptoCard : Claim7 := { stood := { row := fnExactMatchingOfUptoRow, standIns := [], harness := (true, "aaa357a55872b72932bf62daf833dd3d1c1acca7e9b5a498266e1f0cabe7c267"), looks := true }, kinds := [], alts := [], laidByText := true, laidKinds := [.data, .data], laidTests := true, laidLooks := .later }
def FnExactMatchingOfUptoCardSaid : Prop := Claim7.holds Tryd.pinned (.plain (OpenSpec.upto fnExactMatchingOfSpec)) fnExactMatchingOfUptoCard
end Rows
end Go.Proofs.YtpifgmmmmhenmabDoor
