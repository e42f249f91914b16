/-
  DERIVED. GIVEN WITH THE SEED: THE CARDS: each row of YtieejecodfeodaaDoorRows.lean that lists a variable, with what it lists TIED to the program's text (the seventh form; the later family's looks); each row that meets fmt, with fmt's text TOLD by the authors' own Lean function (tested against real Go, not proved from fmt's source: count such statements apart). THE CARD IS WHAT COUNTS. Prove the row's statement (the work); the ties are given (YtieejecodfeodaaDoorTie.lean); close each card by the builder's one call (the guide's Derived/Test/ToyasCard.lean, 'card_holds'). Laid BY PROGRAM, IN A SANDBOX (cutbox-door.mjs). By AI agents, Wed Nov 11 2026. No macro, syntax, notation, axiom, sorry.
-/
import Derived.Test.YtieejecodfeodaaDoorRows
import GoSem.ClaimSeven
namespace Go.Proofs.YtieejecodfeodaaDoor
namespace Rows

/-- THE TIED CARD OF 'backstaylaw06.ShapeForms'. -/
def shapeFormsCard : Claim7 := { stood := { row := shapeFormsRow, standIns := [], harness := (true, "c4b4753bfc25f66cc97d98892ad01ee46cc687c2336bf159dc8d722f877331d9"), looks := false }, kinds := [], alts := [], laidByText := true, laidKinds := [.data], laidTests := true, laidLooks := .later }
def ShapeFormsCardSaid : Prop := Claim7.holds Tryd.pinned (.plain (OpenSpec.ofChange shapeFormsSpec)) shapeFormsCard

/-- THE TIED CARD OF 'backstaylaw06.ShapeSignatures'. -/
def shapeSignaturesCard : Claim7 := { stood := { row := shapeSignaturesRow, standIns := [], harness := (true, "c4b4753bfc25f66cc97d98892ad01ee46cc687c2336bf159dc8d722f877331d9"), looks := false }, kinds := [], alts := [], laidByText := true, laidKinds := [.data], laidTests := true, laidLooks := .later }
def ShapeSignaturesCardSaid : Prop := Claim7.holds Tryd.pinned (.plain (OpenSpec.ofChange shapeSignaturesSpec)) shapeSignaturesCard

/-- THE TIED CARD OF 'backstaylaw06.ShapeNames'. -/
def shapeNamesCard : Claim7 := { stood := { row := shapeNamesRow, standIns := [], harness := (true, "c4b4753bfc25f66cc97d98892ad01ee46cc687c2336bf159dc8d722f877331d9"), looks := false }, kinds := [], alts := [], laidByText := true, laidKinds := [.data], laidTests := true, laidLooks := .later }
def ShapeNamesCardSaid : Prop := Claim7.holds Tryd.pinned (.plain (OpenSpec.ofChange shapeNamesSpec)) shapeNamesCard

/-- THE TIED CARD OF 'backstaylaw06.ShapeBack'. -/
def shapeBackCard : Claim7 := { stood := { row := shapeBackRow, standIns := [], harness := (true, "c4b4753bfc25f66cc97d98892ad01ee46cc687c2336bf159dc8d722f877331d9"), looks := false }, kinds := [], alts := [], laidByText := true, laidKinds := [.data], laidTests := true, laidLooks := .later }
def ShapeBackCardSaid : Prop := Claim7.holds Tryd.pinned (.plain (OpenSpec.ofChange shapeBackSpec)) shapeBackCard

/-- THE TIED CARD OF 'backstaylaw06.ShapeBoth'. -/
def shapeBothCard : Claim7 := { stood := { row := shapeBothRow, standIns := [], harness := (true, "c4b4753bfc25f66cc97d98892ad01ee46cc687c2336bf159dc8d722f877331d9"), looks := false }, kinds := [], alts := [], laidByText := true, laidKinds := [.data], laidTests := true, laidLooks := .later }
def ShapeBothCardSaid : Prop := Claim7.holds Tryd.pinned (.plain (OpenSpec.ofChange shapeBothSpec)) shapeBothCard

/-- THE TIED CARD OF 'backstaylaw06.ShapeParts'. -/
def shapePartsCard : Claim7 := { stood := { row := shapePartsRow, standIns := [], harness := (true, "c4b4753bfc25f66cc97d98892ad01ee46cc687c2336bf159dc8d722f877331d9"), looks := false }, kinds := [], alts := [], laidByText := true, laidKinds := [.data], laidTests := true, laidLooks := .later }
def ShapePartsCardSaid : Prop := Claim7.holds Tryd.pinned (.plain (OpenSpec.ofChange shapePartsSpec)) shapePartsCard

/-- THE SECOND FORM's CARD OF 'backstaylaw06.ShapeForms'. -/
def shapeFormsUptoCard : Claim7 := { stood := { row := shapeFormsUptoRow, standIns := [], harness := (true, "c4b4753bfc25f66cc97d98892ad01ee46cc687c2336bf159dc8d722f877331d9"), looks := false }, kinds := [], alts := [], laidByText := true, laidKinds := [.data], laidTests := true, laidLooks := .later }
def ShapeFormsUptoCardSaid : Prop := Claim7.holds Tryd.pinned (.plain (OpenSpec.upto shapeFormsSpec)) shapeFormsUptoCard

/-- THE SECOND FORM's CARD OF 'backstaylaw06.ShapeSignatures'. -/
def shapeSignaturesUptoCard : Claim7 := { stood := { row := shapeSignaturesUptoRow, standIns := [], harness := (true, "c4b4753bfc25f66cc97d98892ad01ee46cc687c2336bf159dc8d722f877331d9"), looks := false }, kinds := [], alts := [], laidByText := true, laidKinds := [.data], laidTests := true, laidLooks := .later }
def ShapeSignaturesUptoCardSaid : Prop := Claim7.holds Tryd.pinned (.plain (OpenSpec.upto shapeSignaturesSpec)) shapeSignaturesUptoCard

/-- THE SECOND FORM's CARD OF 'backstaylaw06.ShapeNames'. -/
def shapeNamesUptoCard : Claim7 := { stood := { row := shapeNamesUptoRow, standIns := [], harness := (true, "c4b4753bfc25f66cc97d98892ad01ee46cc687c2336bf159dc8d722f877331d9"), looks := false }, kinds := [], alts := [], laidByText := true, laidKinds := [.data], laidTests := true, laidLooks := .later }
def ShapeNamesUptoCardSaid : Prop := Claim7.holds Tryd.pinned (.plain (OpenSpec.upto shapeNamesSpec)) shapeNamesUptoCard

/-- THE SECOND FORM's CARD OF 'backstaylaw06.ShapeBack'. -/
def shapeBackUptoCard : Claim7 := { stood := { row := shapeBackUptoRow, standIns := [], harness := (true, "c4b4753bfc25f66cc97d98892ad01ee46cc687c2336bf159dc8d722f877331d9"), looks := false }, kinds := [], alts := [], laidByText := true, laidKinds := [.data], laidTests := true, laidLooks := .later }
def ShapeBackUptoCardSaid : Prop := Claim7.holds Tryd.pinned (.plain (OpenSpec.upto shapeBackSpec)) shapeBackUptoCard

/-- THE SECOND FORM's CARD OF 'backstaylaw06.ShapeBoth'. -/
def shapeBothUptoCard : Claim7 := { stood := { row := shapeBothUptoRow, standIns := [], harness := (true, "c4b4753bfc25f66cc97d98892ad01ee46cc687c2336bf159dc8d722f877331d9"), looks := false }, kinds := [], alts := [], laidByText := true, laidKinds := [.data], laidTests := true, laidLooks := .later }
def ShapeBothUptoCardSaid : Prop := Claim7.holds Tryd.pinned (.plain (OpenSpec.upto shapeBothSpec)) shapeBothUptoCard

/-- THE SECOND FORM's CARD OF 'backstaylaw06.ShapeParts'. -/
def shapePartsUptoCard : Claim7 := { stood := { row := shapePartsUptoRow, standIns := [], harness := (true, "c4b4753bfc25f66cc97d98892ad01ee46cc687c2336bf159dc8d722f877331d9"), looks := false }, kinds := [], alts := [], laidByText := true, laidKinds := [.data], laidTests := true, laidLooks := .later }
def ShapePartsUptoCardSaid : Prop := Claim7.holds Tryd.pinned (.plain (OpenSpec.upto shapePartsSpec)) shapePartsUptoCard
end Rows
end Go.Proofs.YtieejecodfeodaaDoor
