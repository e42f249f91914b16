/-
  DERIVED. GIVEN WITH THE SEED: THE CARDS: each row of YtbnekeomdhljhaaDoorRows.lean that lists a variable, with what it lists TIED to the program's text (the seventh form; the later family's looks); each row that meets fmt, with fmt's text TOLD by the authors' own Lean function (tested against real Go, not proved from fmt's source: count such statements apart). THE CARD IS WHAT COUNTS. Prove the row's statement (the work); the ties are given (YtbnekeomdhljhaaDoorTie.lean); close each card by the builder's one call (the guide's Derived/Test/ToyasCard.lean, 'card_holds'). Laid BY PROGRAM, IN A SANDBOX (cutbox-door.mjs). By AI agents, Wed Nov 11 2026. No macro, syntax, notation, axiom, sorry.
-/
import Derived.Test.YtbnekeomdhljhaaDoorRows
import GoSem.ClaimSeven
namespace Go.Proofs.YtbnekeomdhljhaaDoor
namespace Rows

/-- THE TIED CARD OF 'backstaylaw07.FunctionBegins'. -/
def functionBeginsCard : Claim7 := { stood := { row := functionBeginsRow, standIns := [], harness := (true, "29dde0726ecef40f13370bbc1cab70ef90196e07930da8bd2fb44d28381768b7"), looks := true }, kinds := [], alts := [], laidByText := true, laidKinds := [.data, .data, .data, .data, .data, .sentinel, .sentinel, .data], laidTests := true, laidLooks := .later }
def FunctionBeginsCardSaid : Prop := Claim7.holds Tryd.pinned (.plain (OpenSpec.ofChange functionBeginsSpec)) functionBeginsCard

/-- THE TIED CARD OF 'backstaylaw07.FunctionParts'. -/
def functionPartsCard : Claim7 := { stood := { row := functionPartsRow, standIns := [], harness := (true, "29dde0726ecef40f13370bbc1cab70ef90196e07930da8bd2fb44d28381768b7"), looks := true }, kinds := [], alts := [], laidByText := true, laidKinds := [.data, .data, .data, .data, .data, .sentinel, .sentinel, .data], laidTests := true, laidLooks := .later }
def FunctionPartsCardSaid : Prop := Claim7.holds Tryd.pinned (.plain (OpenSpec.ofChange functionPartsSpec)) functionPartsCard

/-- THE SECOND FORM's CARD OF 'backstaylaw07.FunctionBegins'. -/
def functionBeginsUptoCard : Claim7 := { stood := { row := functionBeginsUptoRow, standIns := [], harness := (true, "29dde0726ecef40f13370bbc1cab70ef90196e07930da8bd2fb44d28381768b7"), looks := true }, kinds := [], alts := [], laidByText := true, laidKinds := [.data, .data, .data, .data, .data, .sentinel, .sentinel, .data], laidTests := true, laidLooks := .later }
def FunctionBeginsUptoCardSaid : Prop := Claim7.holds Tryd.pinned (.plain (OpenSpec.upto functionBeginsSpec)) functionBeginsUptoCard

/-- THE SECOND FORM's CARD OF 'backstaylaw07.FunctionParts'. -/
def functionPartsUptoCard : Claim7 := { stood := { row := functionPartsUptoRow, standIns := [], harness := (true, "29dde0726ecef40f13370bbc1cab70ef90196e07930da8bd2fb44d28381768b7"), looks := true }, kinds := [], alts := [], laidByText := true, laidKinds := [.data, .data, .data, .data, .data, .sentinel, .sentinel, .data], laidTests := true, laidLooks := .later }
def FunctionPartsUptoCardSaid : Prop := Claim7.holds Tryd.pinned (.plain (OpenSpec.upto functionPartsSpec)) functionPartsUptoCard
end Rows
end Go.Proofs.YtbnekeomdhljhaaDoor
