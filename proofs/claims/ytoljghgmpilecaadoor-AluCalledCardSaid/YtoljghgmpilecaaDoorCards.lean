/-
  DERIVED. GIVEN WITH THE SEED: THE CARDS: each row of YtoljghgmpilecaaDoorRows.lean that lists a variable, with what it lists TIED to the program's text (the seventh form; the later family's looks); each row that meets fmt, with fmt's text TOLD by the authors' own Lean function (tested against real Go, not proved from fmt's source: count such statements apart). THE CARD IS WHAT COUNTS. Prove the row's statement (the work); the ties are given (YtoljghgmpilecaaDoorTie.lean); close each card by the builder's one call (the guide's Derived/Test/ToyasCard.lean, 'card_holds'). Laid BY PROGRAM, IN A SANDBOX (cutbox-door.mjs). By AI agents, Wed Nov 11 2026. No macro, syntax, notation, axiom, sorry.
-/
import Derived.Test.YtoljghgmpilecaaDoorRows
import GoSem.ClaimSeven
namespace Go.Proofs.YtoljghgmpilecaaDoor
namespace Rows

/-- THE TIED CARD OF 'backstaylaw03.AluCalled'. -/
def aluCalledCard : Claim7 := { stood := { row := aluCalledRow, standIns := [], harness := (true, "5f3360ac2c3abf316640896c4f5e1661b1313d369f5db6750f116f8c2eb0cb63"), looks := false }, kinds := [], alts := [], laidByText := true, laidKinds := [.data, .data, .data], laidTests := true, laidLooks := .later }
def AluCalledCardSaid : Prop := Claim7.holds Tryd.pinned (.plain (OpenSpec.ofChange aluCalledSpec)) aluCalledCard

/-- THE TIED CARD OF 'backstaylaw03.AluNames'. -/
def aluNamesCard : Claim7 := { stood := { row := aluNamesRow, standIns := [], harness := (true, "5f3360ac2c3abf316640896c4f5e1661b1313d369f5db6750f116f8c2eb0cb63"), looks := false }, kinds := [], alts := [], laidByText := true, laidKinds := [.data, .data, .data], laidTests := true, laidLooks := .later }
def AluNamesCardSaid : Prop := Claim7.holds Tryd.pinned (.plain (OpenSpec.ofChange aluNamesSpec)) aluNamesCard

/-- THE SECOND FORM's CARD OF 'backstaylaw03.AluCalled'. -/
def aluCalledUptoCard : Claim7 := { stood := { row := aluCalledUptoRow, standIns := [], harness := (true, "5f3360ac2c3abf316640896c4f5e1661b1313d369f5db6750f116f8c2eb0cb63"), looks := false }, kinds := [], alts := [], laidByText := true, laidKinds := [.data, .data, .data], laidTests := true, laidLooks := .later }
def AluCalledUptoCardSaid : Prop := Claim7.holds Tryd.pinned (.plain (OpenSpec.upto aluCalledSpec)) aluCalledUptoCard

/-- THE SECOND FORM's CARD OF 'backstaylaw03.AluNames'. -/
def aluNamesUptoCard : Claim7 := { stood := { row := aluNamesUptoRow, standIns := [], harness := (true, "5f3360ac2c3abf316640896c4f5e1661b1313d369f5db6750f116f8c2eb0cb63"), looks := false }, kinds := [], alts := [], laidByText := true, laidKinds := [.data, .data, .data], laidTests := true, laidLooks := .later }
def AluNamesUptoCardSaid : Prop := Claim7.holds Tryd.pinned (.plain (OpenSpec.upto aluNamesSpec)) aluNamesUptoCard
end Rows
end Go.Proofs.YtoljghgmpilecaaDoor
