/-
  DERIVED. GIVEN WITH THE SEED: THE CARDS: each row of YtbnekeomdhljhaaGreatDoorRows.lean that lists a variable, with what it lists TIED to the program's text (the seventh form; the later family's looks); each row that meets fmt, with fmt's text TOLD by the authors' own Lean function (tested against real Go, not proved from fmt's source: count such statements apart). THE CARD IS WHAT COUNTS. Prove the row's statement (the work); the ties are given (YtbnekeomdhljhaaGreatDoorTie.lean); close each card by the builder's one call (the guide's Derived/Test/ToyasCard.lean, 'card_holds'). Laid BY PROGRAM, IN A SANDBOX (cutbox-door.mjs). By AI agents, Wed Nov 11 2026. No macro, syntax, notation, axiom, sorry.
-/
import Derived.Test.YtbnekeomdhljhaaGreatDoorRows
import GoSem.ClaimSeven
namespace Go.Proofs.YtbnekeomdhljhaaGreatDoor
namespace Rows

/-- THE TIED CARD OF 'backstaylaw07.FunctionForms'. -/
def functionFormsCard : Claim7 := { stood := { row := functionFormsRow, standIns := [], harness := (true, "22e03fa9a1f3159cc0cca79a527c209a4868f8c8488f4be54222d1eb2e2504f4"), looks := true }, kinds := [], alts := [], laidByText := true, laidKinds := [.data, .data, .data, .data, .data, .sentinel, .sentinel, .data], laidTests := true, laidLooks := .later }
def FunctionFormsCardSaid : Prop := Claim7.holds Tryz.pinned (.plain (OpenSpec.ofChange functionFormsSpec)) functionFormsCard

/-- THE TIED CARD OF 'backstaylaw07.FunctionSlots'. -/
def functionSlotsCard : Claim7 := { stood := { row := functionSlotsRow, standIns := [], harness := (true, "22e03fa9a1f3159cc0cca79a527c209a4868f8c8488f4be54222d1eb2e2504f4"), looks := true }, kinds := [], alts := [], laidByText := true, laidKinds := [.data, .data, .data, .data, .data, .sentinel, .sentinel, .data], laidTests := true, laidLooks := .later }
def FunctionSlotsCardSaid : Prop := Claim7.holds Tryz.pinned (.plain (OpenSpec.ofChange functionSlotsSpec)) functionSlotsCard

/-- THE TIED CARD OF 'backstaylaw07.FunctionNames'. -/
def functionNamesCard : Claim7 := { stood := { row := functionNamesRow, standIns := [], harness := (true, "22e03fa9a1f3159cc0cca79a527c209a4868f8c8488f4be54222d1eb2e2504f4"), looks := true }, kinds := [], alts := [], laidByText := true, laidKinds := [.data, .data, .data, .data, .data, .sentinel, .sentinel, .data], laidTests := true, laidLooks := .later }
def FunctionNamesCardSaid : Prop := Claim7.holds Tryz.pinned (.plain (OpenSpec.ofChange functionNamesSpec)) functionNamesCard

/-- THE TIED CARD OF 'backstaylaw07.FunctionBack'. -/
def functionBackCard : Claim7 := { stood := { row := functionBackRow, standIns := [], harness := (true, "22e03fa9a1f3159cc0cca79a527c209a4868f8c8488f4be54222d1eb2e2504f4"), looks := true }, kinds := [], alts := [], laidByText := true, laidKinds := [.data, .data, .data, .data, .data, .sentinel, .sentinel, .data], laidTests := true, laidLooks := .later }
def FunctionBackCardSaid : Prop := Claim7.holds Tryz.pinned (.plain (OpenSpec.ofChange functionBackSpec)) functionBackCard

/-- THE SECOND FORM's CARD OF 'backstaylaw07.FunctionForms'. -/
def functionFormsUptoCard : Claim7 := { stood := { row := functionFormsUptoRow, standIns := [], harness := (true, "22e03fa9a1f3159cc0cca79a527c209a4868f8c8488f4be54222d1eb2e2504f4"), looks := true }, kinds := [], alts := [], laidByText := true, laidKinds := [.data, .data, .data, .data, .data, .sentinel, .sentinel, .data], laidTests := true, laidLooks := .later }
def FunctionFormsUptoCardSaid : Prop := Claim7.holds Tryz.pinned (.plain (OpenSpec.upto functionFormsSpec)) functionFormsUptoCard

/-- THE SECOND FORM's CARD OF 'backstaylaw07.FunctionSlots'. -/
def functionSlotsUptoCard : Claim7 := { stood := { row := functionSlotsUptoRow, standIns := [], harness := (true, "22e03fa9a1f3159cc0cca79a527c209a4868f8c8488f4be54222d1eb2e2504f4"), looks := true }, kinds := [], alts := [], laidByText := true, laidKinds := [.data, .data, .data, .data, .data, .sentinel, .sentinel, .data], laidTests := true, laidLooks := .later }
def FunctionSlotsUptoCardSaid : Prop := Claim7.holds Tryz.pinned (.plain (OpenSpec.upto functionSlotsSpec)) functionSlotsUptoCard

/-- THE SECOND FORM's CARD OF 'backstaylaw07.FunctionNames'. -/
def functionNamesUptoCard : Claim7 := { stood := { row := functionNamesUptoRow, standIns := [], harness := (true, "22e03fa9a1f3159cc0cca79a527c209a4868f8c8488f4be54222d1eb2e2504f4"), looks := true }, kinds := [], alts := [], laidByText := true, laidKinds := [.data, .data, .data, .data, .data, .sentinel, .sentinel, .data], laidTests := true, laidLooks := .later }
def FunctionNamesUptoCardSaid : Prop := Claim7.holds Tryz.pinned (.plain (OpenSpec.upto functionNamesSpec)) functionNamesUptoCard

/-- THE SECOND FORM's CARD OF 'backstaylaw07.FunctionBack'. -/
def functionBackUptoCard : Claim7 := { stood := { row := functionBackUptoRow, standIns := [], harness := (true, "22e03fa9a1f3159cc0cca79a527c209a4868f8c8488f4be54222d1eb2e2504f4"), looks := true }, kinds := [], alts := [], laidByText := true, laidKinds := [.data, .data, .data, .data, .data, .sentinel, .sentinel, .data], laidTests := true, laidLooks := .later }
def FunctionBackUptoCardSaid : Prop := Claim7.holds Tryz.pinned (.plain (OpenSpec.upto functionBackSpec)) functionBackUptoCard
end Rows
end Go.Proofs.YtbnekeomdhljhaaGreatDoor
