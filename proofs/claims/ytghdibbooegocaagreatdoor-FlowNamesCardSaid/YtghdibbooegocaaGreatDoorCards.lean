/-
  DERIVED. GIVEN WITH THE SEED: THE CARDS: each row of YtghdibbooegocaaGreatDoorRows.lean that lists a variable, with what it lists TIED to the program's text (the seventh form; the later family's looks); each row that meets fmt, with fmt's text TOLD by the authors' own Lean function (tested against real Go, not proved from fmt's source: count such statements apart). THE CARD IS WHAT COUNTS. Prove the row's statement (the work); the ties are given (YtghdibbooegocaaGreatDoorTie.lean); close each card by the builder's one call (the guide's Derived/Test/ToyasCard.lean, 'card_holds'). Laid BY PROGRAM, IN A SANDBOX (cutbox-door.mjs). By AI agents, Wed Nov 11 2026. No macro, syntax, notation, axiom, sorry.
-/
import Derived.Test.YtghdibbooegocaaGreatDoorRows
import GoSem.ClaimSeven
namespace Go.Proofs.YtghdibbooegocaaGreatDoor
namespace Rows

/-- THE TIED CARD OF 'backstaylaw11.FlowAsks'. -/
def flowAsksCard : Claim7 := { stood := { row := flowAsksRow, standIns := [], harness := (true, "289d2c0d8bf26f7b6da9893d8c96adf9eafcc3446c792151e4f6e33cf17d1c00"), looks := true }, kinds := [], alts := [], laidByText := true, laidKinds := [.data, .data, .data, .data, .data, .sentinel, .sentinel, .data], laidTests := true, laidLooks := .later }
def FlowAsksCardSaid : Prop := Claim7.holds Tryz.pinned (.plain (OpenSpec.ofChange flowAsksSpec)) flowAsksCard

/-- THE TIED CARD OF 'backstaylaw11.FlowNames'. -/
def flowNamesCard : Claim7 := { stood := { row := flowNamesRow, standIns := [], harness := (true, "289d2c0d8bf26f7b6da9893d8c96adf9eafcc3446c792151e4f6e33cf17d1c00"), looks := true }, kinds := [], alts := [], laidByText := true, laidKinds := [.data, .data, .data, .data, .data, .sentinel, .sentinel, .data], laidTests := true, laidLooks := .later }
def FlowNamesCardSaid : Prop := Claim7.holds Tryz.pinned (.plain (OpenSpec.ofChange flowNamesSpec)) flowNamesCard

/-- THE TIED CARD OF 'backstaylaw11.FlowReached'. -/
def flowReachedCard : Claim7 := { stood := { row := flowReachedRow, standIns := [], harness := (true, "289d2c0d8bf26f7b6da9893d8c96adf9eafcc3446c792151e4f6e33cf17d1c00"), looks := true }, kinds := [], alts := [], laidByText := true, laidKinds := [.data, .data, .data, .data, .data, .sentinel, .sentinel, .data], laidTests := true, laidLooks := .later }
def FlowReachedCardSaid : Prop := Claim7.holds Tryz.pinned (.plain (OpenSpec.ofChange flowReachedSpec)) flowReachedCard

/-- THE TIED CARD OF 'backstaylaw11.FlowMust'. -/
def flowMustCard : Claim7 := { stood := { row := flowMustRow, standIns := [], harness := (true, "289d2c0d8bf26f7b6da9893d8c96adf9eafcc3446c792151e4f6e33cf17d1c00"), looks := true }, kinds := [], alts := [], laidByText := true, laidKinds := [.data, .data, .data, .data, .data, .sentinel, .sentinel, .data], laidTests := true, laidLooks := .later }
def FlowMustCardSaid : Prop := Claim7.holds Tryz.pinned (.plain (OpenSpec.ofChange flowMustSpec)) flowMustCard

/-- THE TIED CARD OF 'backstaylaw11.FlowLoops'. -/
def flowLoopsCard : Claim7 := { stood := { row := flowLoopsRow, standIns := [], harness := (true, "289d2c0d8bf26f7b6da9893d8c96adf9eafcc3446c792151e4f6e33cf17d1c00"), looks := true }, kinds := [], alts := [], laidByText := true, laidKinds := [.data, .data, .data, .data, .data, .sentinel, .sentinel, .data], laidTests := true, laidLooks := .later }
def FlowLoopsCardSaid : Prop := Claim7.holds Tryz.pinned (.plain (OpenSpec.ofChange flowLoopsSpec)) flowLoopsCard

/-- THE SECOND FORM's CARD OF 'backstaylaw11.FlowAsks'. -/
def flowAsksUptoCard : Claim7 := { stood := { row := flowAsksUptoRow, standIns := [], harness := (true, "289d2c0d8bf26f7b6da9893d8c96adf9eafcc3446c792151e4f6e33cf17d1c00"), looks := true }, kinds := [], alts := [], laidByText := true, laidKinds := [.data, .data, .data, .data, .data, .sentinel, .sentinel, .data], laidTests := true, laidLooks := .later }
def FlowAsksUptoCardSaid : Prop := Claim7.holds Tryz.pinned (.plain (OpenSpec.upto flowAsksSpec)) flowAsksUptoCard

/-- THE SECOND FORM's CARD OF 'backstaylaw11.FlowNames'. -/
def flowNamesUptoCard : Claim7 := { stood := { row := flowNamesUptoRow, standIns := [], harness := (true, "289d2c0d8bf26f7b6da9893d8c96adf9eafcc3446c792151e4f6e33cf17d1c00"), looks := true }, kinds := [], alts := [], laidByText := true, laidKinds := [.data, .data, .data, .data, .data, .sentinel, .sentinel, .data], laidTests := true, laidLooks := .later }
def FlowNamesUptoCardSaid : Prop := Claim7.holds Tryz.pinned (.plain (OpenSpec.upto flowNamesSpec)) flowNamesUptoCard

/-- THE SECOND FORM's CARD OF 'backstaylaw11.FlowReached'. -/
def flowReachedUptoCard : Claim7 := { stood := { row := flowReachedUptoRow, standIns := [], harness := (true, "289d2c0d8bf26f7b6da9893d8c96adf9eafcc3446c792151e4f6e33cf17d1c00"), looks := true }, kinds := [], alts := [], laidByText := true, laidKinds := [.data, .data, .data, .data, .data, .sentinel, .sentinel, .data], laidTests := true, laidLooks := .later }
def FlowReachedUptoCardSaid : Prop := Claim7.holds Tryz.pinned (.plain (OpenSpec.upto flowReachedSpec)) flowReachedUptoCard

/-- THE SECOND FORM's CARD OF 'backstaylaw11.FlowMust'. -/
def flowMustUptoCard : Claim7 := { stood := { row := flowMustUptoRow, standIns := [], harness := (true, "289d2c0d8bf26f7b6da9893d8c96adf9eafcc3446c792151e4f6e33cf17d1c00"), looks := true }, kinds := [], alts := [], laidByText := true, laidKinds := [.data, .data, .data, .data, .data, .sentinel, .sentinel, .data], laidTests := true, laidLooks := .later }
def FlowMustUptoCardSaid : Prop := Claim7.holds Tryz.pinned (.plain (OpenSpec.upto flowMustSpec)) flowMustUptoCard

/-- THE SECOND FORM's CARD OF 'backstaylaw11.FlowLoops'. -/
def flowLoopsUptoCard : Claim7 := { stood := { row := flowLoopsUptoRow, standIns := [], harness := (true, "289d2c0d8bf26f7b6da9893d8c96adf9eafcc3446c792151e4f6e33cf17d1c00"), looks := true }, kinds := [], alts := [], laidByText := true, laidKinds := [.data, .data, .data, .data, .data, .sentinel, .sentinel, .data], laidTests := true, laidLooks := .later }
def FlowLoopsUptoCardSaid : Prop := Claim7.holds Tryz.pinned (.plain (OpenSpec.upto flowLoopsSpec)) flowLoopsUptoCard
end Rows
end Go.Proofs.YtghdibbooegocaaGreatDoor
