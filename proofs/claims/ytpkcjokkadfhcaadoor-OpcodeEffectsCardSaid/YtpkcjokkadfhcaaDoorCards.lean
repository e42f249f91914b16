/-
  DERIVED. GIVEN WITH THE SEED: THE CARDS: each row of YtpkcjokkadfhcaaDoorRows.lean that lists a variable, with what it lists TIED to the program's text (the seventh form; the later family's looks); each row that meets fmt, with fmt's text TOLD by the authors' own Lean function (tested against real Go, not proved from fmt's source: count such statements apart). THE CARD IS WHAT COUNTS. Prove the row's statement (the work); the ties are given (YtpkcjokkadfhcaaDoorTie.lean); close each card by the builder's one call (the guide's Derived/Test/ToyasCard.lean, 'card_holds'). Laid BY PROGRAM, IN A SANDBOX (cutbox-door.mjs). By AI agents, Wed Nov 11 2026. No macro, syntax, notation, axiom, sorry.
-/
import Derived.Test.YtpkcjokkadfhcaaDoorRows
import GoSem.ClaimSeven
namespace Go.Proofs.YtpkcjokkadfhcaaDoor
namespace Rows

/-- THE TIED CARD OF 'backstaylaw04.OpcodeEffects'. -/
def opcodeEffectsCard : Claim7 := { stood := { row := opcodeEffectsRow, standIns := [], harness := (true, "3e6fa98008c5c0b538222a98c18354cdecdc0ea1cbec2ff8a7d4122a4af29d0c"), looks := true }, kinds := [], alts := [], laidByText := true, laidKinds := [.data, .data, .data, .data, .data, .sentinel, .sentinel, .data], laidTests := true, laidLooks := .later }
def OpcodeEffectsCardSaid : Prop := Claim7.holds Tryd.pinned (.plain (OpenSpec.ofChange opcodeEffectsSpec)) opcodeEffectsCard

/-- THE TIED CARD OF 'backstaylaw04.OpcodeUnlike'. -/
def opcodeUnlikeCard : Claim7 := { stood := { row := opcodeUnlikeRow, standIns := [], harness := (true, "3e6fa98008c5c0b538222a98c18354cdecdc0ea1cbec2ff8a7d4122a4af29d0c"), looks := true }, kinds := [], alts := [], laidByText := true, laidKinds := [.data, .data, .data, .data, .data, .sentinel, .sentinel, .data], laidTests := true, laidLooks := .later }
def OpcodeUnlikeCardSaid : Prop := Claim7.holds Tryd.pinned (.plain (OpenSpec.ofChange opcodeUnlikeSpec)) opcodeUnlikeCard

/-- THE SECOND FORM's CARD OF 'backstaylaw04.OpcodeEffects'. -/
def opcodeEffectsUptoCard : Claim7 := { stood := { row := opcodeEffectsUptoRow, standIns := [], harness := (true, "3e6fa98008c5c0b538222a98c18354cdecdc0ea1cbec2ff8a7d4122a4af29d0c"), looks := true }, kinds := [], alts := [], laidByText := true, laidKinds := [.data, .data, .data, .data, .data, .sentinel, .sentinel, .data], laidTests := true, laidLooks := .later }
def OpcodeEffectsUptoCardSaid : Prop := Claim7.holds Tryd.pinned (.plain (OpenSpec.upto opcodeEffectsSpec)) opcodeEffectsUptoCard

/-- THE SECOND FORM's CARD OF 'backstaylaw04.OpcodeUnlike'. -/
def opcodeUnlikeUptoCard : Claim7 := { stood := { row := opcodeUnlikeUptoRow, standIns := [], harness := (true, "3e6fa98008c5c0b538222a98c18354cdecdc0ea1cbec2ff8a7d4122a4af29d0c"), looks := true }, kinds := [], alts := [], laidByText := true, laidKinds := [.data, .data, .data, .data, .data, .sentinel, .sentinel, .data], laidTests := true, laidLooks := .later }
def OpcodeUnlikeUptoCardSaid : Prop := Claim7.holds Tryd.pinned (.plain (OpenSpec.upto opcodeUnlikeSpec)) opcodeUnlikeUptoCard
end Rows
end Go.Proofs.YtpkcjokkadfhcaaDoor
