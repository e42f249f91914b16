/-
  DERIVED. GIVEN WITH THE SEED: THE CARDS: each row of YtonpplpfipfnfaaGreatDoorRows.lean that lists a variable, with what it lists TIED to the program's text (the seventh form; the later family's looks); each row that meets fmt, with fmt's text TOLD by the authors' own Lean function (tested against real Go, not proved from fmt's source: count such statements apart). THE CARD IS WHAT COUNTS. Prove the row's statement (the work); the ties are given (YtonpplpfipfnfaaGreatDoorTie.lean); close each card by the builder's one call (the guide's Derived/Test/ToyasCard.lean, 'card_holds'). Laid BY PROGRAM, IN A SANDBOX (cutbox-door.mjs). By AI agents, Wed Nov 11 2026. No macro, syntax, notation, axiom, sorry.
-/
import Derived.Test.YtonpplpfipfnfaaGreatDoorRows
import GoSem.ClaimSeven
namespace Go.Proofs.YtonpplpfipfnfaaGreatDoor
namespace Rows

/-- THE TIED CARD OF 'backstaylaw05.CodeForms'. -/
def codeFormsCard : Claim7 := { stood := { row := codeFormsRow, standIns := [], harness := (true, "0ce57a47e9530579d7c71f2badd2e4c3e04a0e40b7ff7c84ad50b68330280e7b"), looks := true }, kinds := [], alts := [], laidByText := true, laidKinds := [.data, .data, .data, .data, .data, .sentinel, .sentinel, .data], laidTests := true, laidLooks := .later }
def CodeFormsCardSaid : Prop := Claim7.holds Tryz.pinned (.plain (OpenSpec.ofChange codeFormsSpec)) codeFormsCard

/-- THE TIED CARD OF 'backstaylaw05.CodeNames'. -/
def codeNamesCard : Claim7 := { stood := { row := codeNamesRow, standIns := [], harness := (true, "0ce57a47e9530579d7c71f2badd2e4c3e04a0e40b7ff7c84ad50b68330280e7b"), looks := true }, kinds := [], alts := [], laidByText := true, laidKinds := [.data, .data, .data, .data, .data, .sentinel, .sentinel, .data], laidTests := true, laidLooks := .later }
def CodeNamesCardSaid : Prop := Claim7.holds Tryz.pinned (.plain (OpenSpec.ofChange codeNamesSpec)) codeNamesCard

/-- THE TIED CARD OF 'backstaylaw05.CodeBack'. -/
def codeBackCard : Claim7 := { stood := { row := codeBackRow, standIns := [], harness := (true, "0ce57a47e9530579d7c71f2badd2e4c3e04a0e40b7ff7c84ad50b68330280e7b"), looks := true }, kinds := [], alts := [], laidByText := true, laidKinds := [.data, .data, .data, .data, .data, .sentinel, .sentinel, .data], laidTests := true, laidLooks := .later }
def CodeBackCardSaid : Prop := Claim7.holds Tryz.pinned (.plain (OpenSpec.ofChange codeBackSpec)) codeBackCard

/-- THE TIED CARD OF 'backstaylaw05.CodeStretches'. -/
def codeStretchesCard : Claim7 := { stood := { row := codeStretchesRow, standIns := [], harness := (true, "0ce57a47e9530579d7c71f2badd2e4c3e04a0e40b7ff7c84ad50b68330280e7b"), looks := true }, kinds := [], alts := [], laidByText := true, laidKinds := [.data, .data, .data, .data, .data, .sentinel, .sentinel, .data], laidTests := true, laidLooks := .later }
def CodeStretchesCardSaid : Prop := Claim7.holds Tryz.pinned (.plain (OpenSpec.ofChange codeStretchesSpec)) codeStretchesCard

/-- THE TIED CARD OF 'backstaylaw05.CodeInserts'. -/
def codeInsertsCard : Claim7 := { stood := { row := codeInsertsRow, standIns := [], harness := (true, "0ce57a47e9530579d7c71f2badd2e4c3e04a0e40b7ff7c84ad50b68330280e7b"), looks := true }, kinds := [], alts := [], laidByText := true, laidKinds := [.data, .data, .data, .data, .data, .sentinel, .sentinel, .data], laidTests := true, laidLooks := .later }
def CodeInsertsCardSaid : Prop := Claim7.holds Tryz.pinned (.plain (OpenSpec.ofChange codeInsertsSpec)) codeInsertsCard

/-- THE TIED CARD OF 'backstaylaw05.CodeCounts'. -/
def codeCountsCard : Claim7 := { stood := { row := codeCountsRow, standIns := [], harness := (true, "0ce57a47e9530579d7c71f2badd2e4c3e04a0e40b7ff7c84ad50b68330280e7b"), looks := true }, kinds := [], alts := [], laidByText := true, laidKinds := [.data, .data, .data, .data, .data, .sentinel, .sentinel, .data], laidTests := true, laidLooks := .later }
def CodeCountsCardSaid : Prop := Claim7.holds Tryz.pinned (.plain (OpenSpec.ofChange codeCountsSpec)) codeCountsCard

/-- THE SECOND FORM's CARD OF 'backstaylaw05.CodeForms'. -/
def codeFormsUptoCard : Claim7 := { stood := { row := codeFormsUptoRow, standIns := [], harness := (true, "0ce57a47e9530579d7c71f2badd2e4c3e04a0e40b7ff7c84ad50b68330280e7b"), looks := true }, kinds := [], alts := [], laidByText := true, laidKinds := [.data, .data, .data, .data, .data, .sentinel, .sentinel, .data], laidTests := true, laidLooks := .later }
def CodeFormsUptoCardSaid : Prop := Claim7.holds Tryz.pinned (.plain (OpenSpec.upto codeFormsSpec)) codeFormsUptoCard

/-- THE SECOND FORM's CARD OF 'backstaylaw05.CodeNames'. -/
def codeNamesUptoCard : Claim7 := { stood := { row := codeNamesUptoRow, standIns := [], harness := (true, "0ce57a47e9530579d7c71f2badd2e4c3e04a0e40b7ff7c84ad50b68330280e7b"), looks := true }, kinds := [], alts := [], laidByText := true, laidKinds := [.data, .data, .data, .data, .data, .sentinel, .sentinel, .data], laidTests := true, laidLooks := .later }
def CodeNamesUptoCardSaid : Prop := Claim7.holds Tryz.pinned (.plain (OpenSpec.upto codeNamesSpec)) codeNamesUptoCard

/-- THE SECOND FORM's CARD OF 'backstaylaw05.CodeBack'. -/
def codeBackUptoCard : Claim7 := { stood := { row := codeBackUptoRow, standIns := [], harness := (true, "0ce57a47e9530579d7c71f2badd2e4c3e04a0e40b7ff7c84ad50b68330280e7b"), looks := true }, kinds := [], alts := [], laidByText := true, laidKinds := [.data, .data, .data, .data, .data, .sentinel, .sentinel, .data], laidTests := true, laidLooks := .later }
def CodeBackUptoCardSaid : Prop := Claim7.holds Tryz.pinned (.plain (OpenSpec.upto codeBackSpec)) codeBackUptoCard

/-- THE SECOND FORM's CARD OF 'backstaylaw05.CodeStretches'. -/
def codeStretchesUptoCard : Claim7 := { stood := { row := codeStretchesUptoRow, standIns := [], harness := (true, "0ce57a47e9530579d7c71f2badd2e4c3e04a0e40b7ff7c84ad50b68330280e7b"), looks := true }, kinds := [], alts := [], laidByText := true, laidKinds := [.data, .data, .data, .data, .data, .sentinel, .sentinel, .data], laidTests := true, laidLooks := .later }
def CodeStretchesUptoCardSaid : Prop := Claim7.holds Tryz.pinned (.plain (OpenSpec.upto codeStretchesSpec)) codeStretchesUptoCard

/-- THE SECOND FORM's CARD OF 'backstaylaw05.CodeInserts'. -/
def codeInsertsUptoCard : Claim7 := { stood := { row := codeInsertsUptoRow, standIns := [], harness := (true, "0ce57a47e9530579d7c71f2badd2e4c3e04a0e40b7ff7c84ad50b68330280e7b"), looks := true }, kinds := [], alts := [], laidByText := true, laidKinds := [.data, .data, .data, .data, .data, .sentinel, .sentinel, .data], laidTests := true, laidLooks := .later }
def CodeInsertsUptoCardSaid : Prop := Claim7.holds Tryz.pinned (.plain (OpenSpec.upto codeInsertsSpec)) codeInsertsUptoCard

/-- THE SECOND FORM's CARD OF 'backstaylaw05.CodeCounts'. -/
def codeCountsUptoCard : Claim7 := { stood := { row := codeCountsUptoRow, standIns := [], harness := (true, "0ce57a47e9530579d7c71f2badd2e4c3e04a0e40b7ff7c84ad50b68330280e7b"), looks := true }, kinds := [], alts := [], laidByText := true, laidKinds := [.data, .data, .data, .data, .data, .sentinel, .sentinel, .data], laidTests := true, laidLooks := .later }
def CodeCountsUptoCardSaid : Prop := Claim7.holds Tryz.pinned (.plain (OpenSpec.upto codeCountsSpec)) codeCountsUptoCard
end Rows
end Go.Proofs.YtonpplpfipfnfaaGreatDoor
