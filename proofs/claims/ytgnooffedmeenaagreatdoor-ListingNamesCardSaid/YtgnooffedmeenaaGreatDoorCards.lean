/-
  DERIVED. GIVEN WITH THE SEED: THE CARDS: each row of YtgnooffedmeenaaGreatDoorRows.lean that lists a variable, with what it lists TIED to the program's text (the seventh form; the later family's looks); each row that meets fmt, with fmt's text TOLD by the authors' own Lean function (tested against real Go, not proved from fmt's source: count such statements apart). THE CARD IS WHAT COUNTS. Prove the row's statement (the work); the ties are given (YtgnooffedmeenaaGreatDoorTie.lean); close each card by the builder's one call (the guide's Derived/Test/ToyasCard.lean, 'card_holds'). Laid BY PROGRAM, IN A SANDBOX (cutbox-door.mjs). By AI agents, Wed Nov 11 2026. No macro, syntax, notation, axiom, sorry.
-/
import Derived.Test.YtgnooffedmeenaaGreatDoorRows
import GoSem.ClaimSeven
namespace Go.Proofs.YtgnooffedmeenaaGreatDoor
namespace Rows

/-- THE TIED CARD OF 'backstaylaw10.ListingTexts'. -/
def listingTextsCard : Claim7 := { stood := { row := listingTextsRow, standIns := [], harness := (true, "acddc640d6ff97f2824c124d592d35ca842c9c7c7be254951f17021abf6ff03b"), looks := true }, kinds := [], alts := [], laidByText := true, laidKinds := [.data, .data, .data, .data, .data, .sentinel, .sentinel, .data], laidTests := true, laidLooks := .later }
def ListingTextsCardSaid : Prop := Claim7.holds Tryz.pinned (.plain (OpenSpec.ofChange listingTextsSpec)) listingTextsCard

/-- THE TIED CARD OF 'backstaylaw10.ListingPlaces'. -/
def listingPlacesCard : Claim7 := { stood := { row := listingPlacesRow, standIns := [], harness := (true, "acddc640d6ff97f2824c124d592d35ca842c9c7c7be254951f17021abf6ff03b"), looks := true }, kinds := [], alts := [], laidByText := true, laidKinds := [.data, .data, .data, .data, .data, .sentinel, .sentinel, .data], laidTests := true, laidLooks := .later }
def ListingPlacesCardSaid : Prop := Claim7.holds Tryz.pinned (.plain (OpenSpec.ofChange listingPlacesSpec)) listingPlacesCard

/-- THE TIED CARD OF 'backstaylaw10.ListingNames'. -/
def listingNamesCard : Claim7 := { stood := { row := listingNamesRow, standIns := [], harness := (true, "acddc640d6ff97f2824c124d592d35ca842c9c7c7be254951f17021abf6ff03b"), looks := true }, kinds := [], alts := [], laidByText := true, laidKinds := [.data, .data, .data, .data, .data, .sentinel, .sentinel, .data], laidTests := true, laidLooks := .later }
def ListingNamesCardSaid : Prop := Claim7.holds Tryz.pinned (.plain (OpenSpec.ofChange listingNamesSpec)) listingNamesCard

/-- THE TIED CARD OF 'backstaylaw10.ListingBack'. -/
def listingBackCard : Claim7 := { stood := { row := listingBackRow, standIns := [], harness := (true, "acddc640d6ff97f2824c124d592d35ca842c9c7c7be254951f17021abf6ff03b"), looks := true }, kinds := [], alts := [], laidByText := true, laidKinds := [.data, .data, .data, .data, .data, .sentinel, .sentinel, .data], laidTests := true, laidLooks := .later }
def ListingBackCardSaid : Prop := Claim7.holds Tryz.pinned (.plain (OpenSpec.ofChange listingBackSpec)) listingBackCard

/-- THE TIED CARD OF 'backstaylaw10.ListingOne'. -/
def listingOneCard : Claim7 := { stood := { row := listingOneRow, standIns := [], harness := (true, "acddc640d6ff97f2824c124d592d35ca842c9c7c7be254951f17021abf6ff03b"), looks := true }, kinds := [], alts := [], laidByText := true, laidKinds := [.data, .data, .data, .data, .data, .data, .sentinel, .sentinel, .data, .pinned], laidTests := true, laidLooks := .later }
def ListingOneCardSaid : Prop := Claim7.holds Tryz.pinned (.plain (OpenSpec.ofChange listingOneSpec)) listingOneCard

/-- THE TIED CARD OF 'backstaylaw10.ListingLabels'. -/
def listingLabelsCard : Claim7 := { stood := { row := listingLabelsRow, standIns := [], harness := (true, "acddc640d6ff97f2824c124d592d35ca842c9c7c7be254951f17021abf6ff03b"), looks := true }, kinds := [], alts := [], laidByText := true, laidKinds := [.data, .data, .data, .data, .data, .sentinel, .sentinel, .data], laidTests := true, laidLooks := .later }
def ListingLabelsCardSaid : Prop := Claim7.holds Tryz.pinned (.plain (OpenSpec.ofChange listingLabelsSpec)) listingLabelsCard

/-- THE SECOND FORM's CARD OF 'backstaylaw10.ListingTexts'. -/
def listingTextsUptoCard : Claim7 := { stood := { row := listingTextsUptoRow, standIns := [], harness := (true, "acddc640d6ff97f2824c124d592d35ca842c9c7c7be254951f17021abf6ff03b"), looks := true }, kinds := [], alts := [], laidByText := true, laidKinds := [.data, .data, .data, .data, .data, .sentinel, .sentinel, .data], laidTests := true, laidLooks := .later }
def ListingTextsUptoCardSaid : Prop := Claim7.holds Tryz.pinned (.plain (OpenSpec.upto listingTextsSpec)) listingTextsUptoCard

/-- THE SECOND FORM's CARD OF 'backstaylaw10.ListingPlaces'. -/
def listingPlacesUptoCard : Claim7 := { stood := { row := listingPlacesUptoRow, standIns := [], harness := (true, "acddc640d6ff97f2824c124d592d35ca842c9c7c7be254951f17021abf6ff03b"), looks := true }, kinds := [], alts := [], laidByText := true, laidKinds := [.data, .data, .data, .data, .data, .sentinel, .sentinel, .data], laidTests := true, laidLooks := .later }
def ListingPlacesUptoCardSaid : Prop := Claim7.holds Tryz.pinned (.plain (OpenSpec.upto listingPlacesSpec)) listingPlacesUptoCard

/-- THE SECOND FORM's CARD OF 'backstaylaw10.ListingNames'. -/
def listingNamesUptoCard : Claim7 := { stood := { row := listingNamesUptoRow, standIns := [], harness := (true, "acddc640d6ff97f2824c124d592d35ca842c9c7c7be254951f17021abf6ff03b"), looks := true }, kinds := [], alts := [], laidByText := true, laidKinds := [.data, .data, .data, .data, .data, .sentinel, .sentinel, .data], laidTests := true, laidLooks := .later }
def ListingNamesUptoCardSaid : Prop := Claim7.holds Tryz.pinned (.plain (OpenSpec.upto listingNamesSpec)) listingNamesUptoCard

/-- THE SECOND FORM's CARD OF 'backstaylaw10.ListingBack'. -/
def listingBackUptoCard : Claim7 := { stood := { row := listingBackUptoRow, standIns := [], harness := (true, "acddc640d6ff97f2824c124d592d35ca842c9c7c7be254951f17021abf6ff03b"), looks := true }, kinds := [], alts := [], laidByText := true, laidKinds := [.data, .data, .data, .data, .data, .sentinel, .sentinel, .data], laidTests := true, laidLooks := .later }
def ListingBackUptoCardSaid : Prop := Claim7.holds Tryz.pinned (.plain (OpenSpec.upto listingBackSpec)) listingBackUptoCard

/-- THE SECOND FORM's CARD OF 'backstaylaw10.ListingOne'. -/
def listingOneUptoCard : Claim7 := { stood := { row := listingOneUptoRow, standIns := [], harness := (true, "acddc640d6ff97f2824c124d592d35ca842c9c7c7be254951f17021abf6ff03b"), looks := true }, kinds := [], alts := [], laidByText := true, laidKinds := [.data, .data, .data, .data, .data, .data, .sentinel, .sentinel, .data, .pinned], laidTests := true, laidLooks := .later }
def ListingOneUptoCardSaid : Prop := Claim7.holds Tryz.pinned (.plain (OpenSpec.upto listingOneSpec)) listingOneUptoCard

/-- THE SECOND FORM's CARD OF 'backstaylaw10.ListingLabels'. -/
def listingLabelsUptoCard : Claim7 := { stood := { row := listingLabelsUptoRow, standIns := [], harness := (true, "acddc640d6ff97f2824c124d592d35ca842c9c7c7be254951f17021abf6ff03b"), looks := true }, kinds := [], alts := [], laidByText := true, laidKinds := [.data, .data, .data, .data, .data, .sentinel, .sentinel, .data], laidTests := true, laidLooks := .later }
def ListingLabelsUptoCardSaid : Prop := Claim7.holds Tryz.pinned (.plain (OpenSpec.upto listingLabelsSpec)) listingLabelsUptoCard
end Rows
end Go.Proofs.YtgnooffedmeenaaGreatDoor
