/-
  DERIVED. GIVEN WITH THE SEED: THE CARDS: each row of YtifobiajjhknbaaGreatDoorRows.lean that lists a variable, with what it lists TIED to the program's text (the seventh form; the later family's looks); each row that meets fmt, with fmt's text TOLD by the authors' own Lean function (tested against real Go, not proved from fmt's source: count such statements apart). THE CARD IS WHAT COUNTS. Prove the row's statement (the work); the ties are given (YtifobiajjhknbaaGreatDoorTie.lean); close each card by the builder's one call (the guide's Derived/Test/ToyasCard.lean, 'card_holds'). Laid BY PROGRAM, IN A SANDBOX (cutbox-door.mjs). By AI agents, Wed Nov 11 2026. No macro, syntax, notation, axiom, sorry.
-/
import Derived.Test.YtifobiajjhknbaaGreatDoorRows
import GoSem.ClaimSeven
namespace Go.Proofs.YtifobiajjhknbaaGreatDoor
namespace Rows

/-- THE TIED CARD OF 'backstaylaw09.AsmNames'. -/
def asmNamesCard : Claim7 := { stood := { row := asmNamesRow, standIns := [], harness := (true, "bc5477604405b1a0f68746d9525e442ca0fe9f7b84b1d93c1f05f0c46f68db3f"), looks := true }, kinds := [], alts := [], laidByText := true, laidKinds := [.data, .data, .data, .data, .data, .sentinel, .sentinel, .data], laidTests := true, laidLooks := .later }
def AsmNamesCardSaid : Prop := Claim7.holds Tryz.pinned (.plain (OpenSpec.ofChange asmNamesSpec)) asmNamesCard

/-- THE TIED CARD OF 'backstaylaw09.AsmPlain'. -/
def asmPlainCard : Claim7 := { stood := { row := asmPlainRow, standIns := [], harness := (true, "bc5477604405b1a0f68746d9525e442ca0fe9f7b84b1d93c1f05f0c46f68db3f"), looks := true }, kinds := [], alts := [], laidByText := true, laidKinds := [.data, .data, .data, .data, .data, .sentinel, .sentinel, .listed, .data, .data], laidTests := true, laidLooks := .later }
def AsmPlainCardSaid : Prop := Claim7.holds Tryz.pinned (.plain (OpenSpec.ofChange asmPlainSpec)) asmPlainCard

/-- THE TIED CARD OF 'backstaylaw09.AsmNormal'. -/
def asmNormalCard : Claim7 := { stood := { row := asmNormalRow, standIns := [], harness := (true, "bc5477604405b1a0f68746d9525e442ca0fe9f7b84b1d93c1f05f0c46f68db3f"), looks := true }, kinds := [], alts := [], laidByText := true, laidKinds := [.data, .data, .data, .data, .data, .sentinel, .sentinel, .data], laidTests := true, laidLooks := .later }
def AsmNormalCardSaid : Prop := Claim7.holds Tryz.pinned (.plain (OpenSpec.ofChange asmNormalSpec)) asmNormalCard

/-- THE TIED CARD OF 'backstaylaw09.AsmNotes'. -/
def asmNotesCard : Claim7 := { stood := { row := asmNotesRow, standIns := [], harness := (true, "bc5477604405b1a0f68746d9525e442ca0fe9f7b84b1d93c1f05f0c46f68db3f"), looks := true }, kinds := [], alts := [], laidByText := true, laidKinds := [.data, .data, .data, .data, .data, .sentinel, .sentinel, .data], laidTests := true, laidLooks := .later }
def AsmNotesCardSaid : Prop := Claim7.holds Tryz.pinned (.plain (OpenSpec.ofChange asmNotesSpec)) asmNotesCard

/-- THE SECOND FORM's CARD OF 'backstaylaw09.AsmNames'. -/
def asmNamesUptoCard : Claim7 := { stood := { row := asmNamesUptoRow, standIns := [], harness := (true, "bc5477604405b1a0f68746d9525e442ca0fe9f7b84b1d93c1f05f0c46f68db3f"), looks := true }, kinds := [], alts := [], laidByText := true, laidKinds := [.data, .data, .data, .data, .data, .sentinel, .sentinel, .data], laidTests := true, laidLooks := .later }
def AsmNamesUptoCardSaid : Prop := Claim7.holds Tryz.pinned (.plain (OpenSpec.upto asmNamesSpec)) asmNamesUptoCard

/-- THE SECOND FORM's CARD OF 'backstaylaw09.AsmPlain'. -/
def asmPlainUptoCard : Claim7 := { stood := { row := asmPlainUptoRow, standIns := [], harness := (true, "bc5477604405b1a0f68746d9525e442ca0fe9f7b84b1d93c1f05f0c46f68db3f"), looks := true }, kinds := [], alts := [], laidByText := true, laidKinds := [.data, .data, .data, .data, .data, .sentinel, .sentinel, .listed, .data, .data], laidTests := true, laidLooks := .later }
def AsmPlainUptoCardSaid : Prop := Claim7.holds Tryz.pinned (.plain (OpenSpec.upto asmPlainSpec)) asmPlainUptoCard

/-- THE SECOND FORM's CARD OF 'backstaylaw09.AsmNormal'. -/
def asmNormalUptoCard : Claim7 := { stood := { row := asmNormalUptoRow, standIns := [], harness := (true, "bc5477604405b1a0f68746d9525e442ca0fe9f7b84b1d93c1f05f0c46f68db3f"), looks := true }, kinds := [], alts := [], laidByText := true, laidKinds := [.data, .data, .data, .data, .data, .sentinel, .sentinel, .data], laidTests := true, laidLooks := .later }
def AsmNormalUptoCardSaid : Prop := Claim7.holds Tryz.pinned (.plain (OpenSpec.upto asmNormalSpec)) asmNormalUptoCard

/-- THE SECOND FORM's CARD OF 'backstaylaw09.AsmNotes'. -/
def asmNotesUptoCard : Claim7 := { stood := { row := asmNotesUptoRow, standIns := [], harness := (true, "bc5477604405b1a0f68746d9525e442ca0fe9f7b84b1d93c1f05f0c46f68db3f"), looks := true }, kinds := [], alts := [], laidByText := true, laidKinds := [.data, .data, .data, .data, .data, .sentinel, .sentinel, .data], laidTests := true, laidLooks := .later }
def AsmNotesUptoCardSaid : Prop := Claim7.holds Tryz.pinned (.plain (OpenSpec.upto asmNotesSpec)) asmNotesUptoCard
end Rows
end Go.Proofs.YtifobiajjhknbaaGreatDoor
