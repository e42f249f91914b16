/-
  NARROWER THAN 'FOR EVERY INPUT', by the rows' own cells (each row's printed sentence says how): ShapeForms: laid · ShapeSignatures: laid · ShapeNames: laid · ShapeBack: laid · ShapeBoth: laid · ShapeParts: laid.
  DERIVED. THE GIVEN ROWS OF THIS SEAT. 6 by the template 'for every input the law returns true; each argument reads behind the call as it read before'; 0 by the template 'total and deterministic' (their statements: YtieejecodfeodaaDoorTotals.lean).
  GIVEN WITH THE SEED: the statements are not yours to turn. If you find one false, say at which input.
  Laid BY PROGRAM, IN A SANDBOX (cutbox-rows.mjs): the forced cells as the released guide's own fill.sh prints them over the translation 740650cb905fe1fe… (all of the seat's roots in one cut). By AI agents, Wed Nov 11 2026. No macro, syntax, notation, axiom, sorry.
-/
import Derived.Test.YtieejecodfeodaaDoorChecked
import GoSem.Claim
import GoSem.ClaimJoined
import GoSem.ClaimMapViews
import Derived.JoinedTies
import Derived.KernelRfl
namespace Go.Proofs.YtieejecodfeodaaDoor
/- THE CELL 'sum', in the pinned program and in every row, IS THE sha256 OF THE DUMP (.gsa) THAT YtieejecodfeodaaDoorProg.lean LOADS. Nothing in Lean hashes anything: it is a label: what it is worth is what the hold of that sum in a sandbox is worth. -/
noncomputable def Tryd.pinned : Pinned := { name := "ytieejecodfeodaadoor", sum := "740650cb905fe1fef2431ecce1ac3b1c3803504cdd63dc215e7568fe064865c1", checked := Tryd.checked }
namespace Rows
def none {H : Type} : Left H := { results := [], args := [] }

/- WHAT THE LISTED PACKAGE-LEVEL VARIABLES READ AS WHEN THE CALL BEGINS. Each datum BY PROGRAM (the guide's laid-datum.mjs) off the statement by which the dump's own 'gosem.cut.vars' lays the variable. In a bare row this is a premise. The card (YtieejecodfeodaaDoorCards.lean) ties it to the program's text. -/
def laid_backstay_value_letters {H : Type} : DataW H := .agg [.lit (.int .i32 0), .lit (.int .i32 73), .lit (.int .i32 82), .lit (.int .i32 70), .lit (.int .i32 80)]

/-- 'backstaylaw06.ShapeForms': WHATEVER THE INPUT: true; the input reads as it did. -/
def shapeFormsSpec : ChangeSpec := { name := "shapeForms", fn := fun _ => fun
  | [d1, d2, d3, d4] => { results := [.lit (.bool true)], args := [d1, d2, d3, d4] }
  | _ => none }
def shapeFormsRow : OpenClaim := { program := "ytieejecodfeodaadoor", sum := "740650cb905fe1fef2431ecce1ac3b1c3803504cdd63dc215e7568fe064865c1", func := "backstay/backstaylaw06.ShapeForms", spec := "shapeForms", inPlace := ["internal/abi.NoEscape"], unfollowed := true, recurses := true, named := ["backstay/value.letters"], apart := false, laid := [("backstay/value.letters", laid_backstay_value_letters)] }
def ShapeFormsSaid : Prop := shapeFormsRow.holds Tryd.pinned (OpenSpec.ofChange shapeFormsSpec)

/-- ITS FALSE NEIGHBOUR: 'it returns false'. Refute it at one input. -/
def shapeFormsWrong : ChangeSpec := { name := "shapeForms", fn := fun _ => fun
  | [d1, d2, d3, d4] => { results := [.lit (.bool false)], args := [d1, d2, d3, d4] }
  | _ => none }
def ShapeFormsWrongFalsely : Prop := shapeFormsRow.holds Tryd.pinned (OpenSpec.ofChange shapeFormsWrong)

/-- 'backstaylaw06.ShapeSignatures': WHATEVER THE INPUT: true; the input reads as it did. -/
def shapeSignaturesSpec : ChangeSpec := { name := "shapeSignatures", fn := fun _ => fun
  | [d1, d2, d3, d4] => { results := [.lit (.bool true)], args := [d1, d2, d3, d4] }
  | _ => none }
def shapeSignaturesRow : OpenClaim := { program := "ytieejecodfeodaadoor", sum := "740650cb905fe1fef2431ecce1ac3b1c3803504cdd63dc215e7568fe064865c1", func := "backstay/backstaylaw06.ShapeSignatures", spec := "shapeSignatures", inPlace := ["internal/abi.NoEscape"], unfollowed := true, recurses := true, named := ["backstay/value.letters"], apart := false, laid := [("backstay/value.letters", laid_backstay_value_letters)] }
def ShapeSignaturesSaid : Prop := shapeSignaturesRow.holds Tryd.pinned (OpenSpec.ofChange shapeSignaturesSpec)

/-- ITS FALSE NEIGHBOUR: 'it returns false'. Refute it at one input. -/
def shapeSignaturesWrong : ChangeSpec := { name := "shapeSignatures", fn := fun _ => fun
  | [d1, d2, d3, d4] => { results := [.lit (.bool false)], args := [d1, d2, d3, d4] }
  | _ => none }
def ShapeSignaturesWrongFalsely : Prop := shapeSignaturesRow.holds Tryd.pinned (OpenSpec.ofChange shapeSignaturesWrong)

/-- 'backstaylaw06.ShapeNames': WHATEVER THE INPUT: true; the input reads as it did. -/
def shapeNamesSpec : ChangeSpec := { name := "shapeNames", fn := fun _ => fun
  | [] => { results := [.lit (.bool true)], args := [] }
  | _ => none }
def shapeNamesRow : OpenClaim := { program := "ytieejecodfeodaadoor", sum := "740650cb905fe1fef2431ecce1ac3b1c3803504cdd63dc215e7568fe064865c1", func := "backstay/backstaylaw06.ShapeNames", spec := "shapeNames", inPlace := ["internal/abi.NoEscape", "internal/bytealg.MakeNoZero"], unfollowed := true, recurses := true, named := ["backstay/value.letters"], apart := false, laid := [("backstay/value.letters", laid_backstay_value_letters)] }
def ShapeNamesSaid : Prop := shapeNamesRow.holds Tryd.pinned (OpenSpec.ofChange shapeNamesSpec)

/-- ITS FALSE NEIGHBOUR: 'it returns false'. Refute it at one input. -/
def shapeNamesWrong : ChangeSpec := { name := "shapeNames", fn := fun _ => fun
  | [] => { results := [.lit (.bool false)], args := [] }
  | _ => none }
def ShapeNamesWrongFalsely : Prop := shapeNamesRow.holds Tryd.pinned (OpenSpec.ofChange shapeNamesWrong)

/-- 'backstaylaw06.ShapeBack': WHATEVER THE INPUT: true; the input reads as it did. -/
def shapeBackSpec : ChangeSpec := { name := "shapeBack", fn := fun _ => fun
  | [d1, d2, d3] => { results := [.lit (.bool true)], args := [d1, d2, d3] }
  | _ => none }
def shapeBackRow : OpenClaim := { program := "ytieejecodfeodaadoor", sum := "740650cb905fe1fef2431ecce1ac3b1c3803504cdd63dc215e7568fe064865c1", func := "backstay/backstaylaw06.ShapeBack", spec := "shapeBack", inPlace := ["internal/abi.NoEscape"], unfollowed := true, recurses := true, named := ["backstay/value.letters"], apart := false, laid := [("backstay/value.letters", laid_backstay_value_letters)] }
def ShapeBackSaid : Prop := shapeBackRow.holds Tryd.pinned (OpenSpec.ofChange shapeBackSpec)

/-- ITS FALSE NEIGHBOUR: 'it returns false'. Refute it at one input. -/
def shapeBackWrong : ChangeSpec := { name := "shapeBack", fn := fun _ => fun
  | [d1, d2, d3] => { results := [.lit (.bool false)], args := [d1, d2, d3] }
  | _ => none }
def ShapeBackWrongFalsely : Prop := shapeBackRow.holds Tryd.pinned (OpenSpec.ofChange shapeBackWrong)

/-- 'backstaylaw06.ShapeBoth': WHATEVER THE INPUT: true; the input reads as it did. -/
def shapeBothSpec : ChangeSpec := { name := "shapeBoth", fn := fun _ => fun
  | [d1, d2, d3] => { results := [.lit (.bool true)], args := [d1, d2, d3] }
  | _ => none }
def shapeBothRow : OpenClaim := { program := "ytieejecodfeodaadoor", sum := "740650cb905fe1fef2431ecce1ac3b1c3803504cdd63dc215e7568fe064865c1", func := "backstay/backstaylaw06.ShapeBoth", spec := "shapeBoth", inPlace := ["internal/abi.NoEscape"], unfollowed := true, recurses := true, named := ["backstay/value.letters"], apart := false, laid := [("backstay/value.letters", laid_backstay_value_letters)] }
def ShapeBothSaid : Prop := shapeBothRow.holds Tryd.pinned (OpenSpec.ofChange shapeBothSpec)

/-- ITS FALSE NEIGHBOUR: 'it returns false'. Refute it at one input. -/
def shapeBothWrong : ChangeSpec := { name := "shapeBoth", fn := fun _ => fun
  | [d1, d2, d3] => { results := [.lit (.bool false)], args := [d1, d2, d3] }
  | _ => none }
def ShapeBothWrongFalsely : Prop := shapeBothRow.holds Tryd.pinned (OpenSpec.ofChange shapeBothWrong)

/-- 'backstaylaw06.ShapeParts': WHATEVER THE INPUT: true; the input reads as it did. -/
def shapePartsSpec : ChangeSpec := { name := "shapeParts", fn := fun _ => fun
  | [d1, d2] => { results := [.lit (.bool true)], args := [d1, d2] }
  | _ => none }
def shapePartsRow : OpenClaim := { program := "ytieejecodfeodaadoor", sum := "740650cb905fe1fef2431ecce1ac3b1c3803504cdd63dc215e7568fe064865c1", func := "backstay/backstaylaw06.ShapeParts", spec := "shapeParts", inPlace := ["internal/abi.NoEscape"], unfollowed := true, recurses := true, named := ["backstay/value.letters"], apart := false, laid := [("backstay/value.letters", laid_backstay_value_letters)] }
def ShapePartsSaid : Prop := shapePartsRow.holds Tryd.pinned (OpenSpec.ofChange shapePartsSpec)

/-- ITS FALSE NEIGHBOUR: 'it returns false'. Refute it at one input. -/
def shapePartsWrong : ChangeSpec := { name := "shapeParts", fn := fun _ => fun
  | [d1, d2] => { results := [.lit (.bool false)], args := [d1, d2] }
  | _ => none }
def ShapePartsWrongFalsely : Prop := shapePartsRow.holds Tryd.pinned (OpenSpec.ofChange shapePartsWrong)

/- THE SECOND FORM. 'bulk': how many values and letters a reading holds, each counted each time it is reached (what is shared counts as often as it is met; a slice's spare places count too). A statement '..UptoSaid' is the law's where the arguments, and the package variables that the reading takes, are together of bulk at most 1048576: NARROWER than '..Said'. Prove '..Said' where nothing that the law and all that it calls make is longer than what came in: it says more and counts as full. Else prove '..UptoSaid'. A law counts once. -/
mutual
def uptoBulk {H : Type} : DataW H → Nat
  | .lit (.string bytes) => bytes.length + 1
  | .lit _ => 1
  | .nil => 1
  | .ptr d => uptoBulk d + 1
  | .slice elems spare => uptoBulkAll elems + uptoBulkAll spare + 1
  | .agg parts => uptoBulkAll parts + 1
  | .iface _ d => uptoBulk d + 1
  | .map entries => uptoBulkEntries entries + 1
  | .held _ => 1
def uptoBulkAll {H : Type} : List (DataW H) → Nat
  | [] => 0
  | d :: r => uptoBulk d + uptoBulkAll r
def uptoBulkEntries {H : Type} : List (Lit × DataW H) → Nat
  | [] => 0
  | x :: r => uptoBulkEntry x + uptoBulkEntries r
def uptoBulkEntry {H : Type} : Lit × DataW H → Nat
  | (.string bytes, d) => bytes.length + uptoBulk d + 1
  | (_, d) => uptoBulk d + 1
 end
def uptoSmall : (H : Type) → List (DataW H) → Bool := fun _ ds => decide (uptoBulkAll ds ≤ 1048576)
def OpenSpec.upto (s : _root_.Go.ChangeSpec) : _root_.Go.OpenSpec := { _root_.Go.OpenSpec.ofChange s with cond := some uptoSmall }

/-- 'backstaylaw06.ShapeForms', WHERE WHAT IT READS IS OF BULK AT MOST 1048576: true; the input reads as it did. -/
def shapeFormsUptoRow : OpenClaim := { program := "ytieejecodfeodaadoor", sum := "740650cb905fe1fef2431ecce1ac3b1c3803504cdd63dc215e7568fe064865c1", func := "backstay/backstaylaw06.ShapeForms", spec := "shapeForms", inPlace := ["internal/abi.NoEscape"], unfollowed := true, recurses := true, named := ["backstay/value.letters"], apart := false, laid := [("backstay/value.letters", laid_backstay_value_letters)], narrowed := true }
def ShapeFormsUptoSaid : Prop := shapeFormsUptoRow.holds Tryd.pinned (OpenSpec.upto shapeFormsSpec)

/-- 'backstaylaw06.ShapeSignatures', WHERE WHAT IT READS IS OF BULK AT MOST 1048576: true; the input reads as it did. -/
def shapeSignaturesUptoRow : OpenClaim := { program := "ytieejecodfeodaadoor", sum := "740650cb905fe1fef2431ecce1ac3b1c3803504cdd63dc215e7568fe064865c1", func := "backstay/backstaylaw06.ShapeSignatures", spec := "shapeSignatures", inPlace := ["internal/abi.NoEscape"], unfollowed := true, recurses := true, named := ["backstay/value.letters"], apart := false, laid := [("backstay/value.letters", laid_backstay_value_letters)], narrowed := true }
def ShapeSignaturesUptoSaid : Prop := shapeSignaturesUptoRow.holds Tryd.pinned (OpenSpec.upto shapeSignaturesSpec)

/-- 'backstaylaw06.ShapeNames', WHERE WHAT IT READS IS OF BULK AT MOST 1048576: true; the input reads as it did. -/
def shapeNamesUptoRow : OpenClaim := { program := "ytieejecodfeodaadoor", sum := "740650cb905fe1fef2431ecce1ac3b1c3803504cdd63dc215e7568fe064865c1", func := "backstay/backstaylaw06.ShapeNames", spec := "shapeNames", inPlace := ["internal/abi.NoEscape", "internal/bytealg.MakeNoZero"], unfollowed := true, recurses := true, named := ["backstay/value.letters"], apart := false, laid := [("backstay/value.letters", laid_backstay_value_letters)], narrowed := true }
def ShapeNamesUptoSaid : Prop := shapeNamesUptoRow.holds Tryd.pinned (OpenSpec.upto shapeNamesSpec)

/-- 'backstaylaw06.ShapeBack', WHERE WHAT IT READS IS OF BULK AT MOST 1048576: true; the input reads as it did. -/
def shapeBackUptoRow : OpenClaim := { program := "ytieejecodfeodaadoor", sum := "740650cb905fe1fef2431ecce1ac3b1c3803504cdd63dc215e7568fe064865c1", func := "backstay/backstaylaw06.ShapeBack", spec := "shapeBack", inPlace := ["internal/abi.NoEscape"], unfollowed := true, recurses := true, named := ["backstay/value.letters"], apart := false, laid := [("backstay/value.letters", laid_backstay_value_letters)], narrowed := true }
def ShapeBackUptoSaid : Prop := shapeBackUptoRow.holds Tryd.pinned (OpenSpec.upto shapeBackSpec)

/-- 'backstaylaw06.ShapeBoth', WHERE WHAT IT READS IS OF BULK AT MOST 1048576: true; the input reads as it did. -/
def shapeBothUptoRow : OpenClaim := { program := "ytieejecodfeodaadoor", sum := "740650cb905fe1fef2431ecce1ac3b1c3803504cdd63dc215e7568fe064865c1", func := "backstay/backstaylaw06.ShapeBoth", spec := "shapeBoth", inPlace := ["internal/abi.NoEscape"], unfollowed := true, recurses := true, named := ["backstay/value.letters"], apart := false, laid := [("backstay/value.letters", laid_backstay_value_letters)], narrowed := true }
def ShapeBothUptoSaid : Prop := shapeBothUptoRow.holds Tryd.pinned (OpenSpec.upto shapeBothSpec)

/-- 'backstaylaw06.ShapeParts', WHERE WHAT IT READS IS OF BULK AT MOST 1048576: true; the input reads as it did. -/
def shapePartsUptoRow : OpenClaim := { program := "ytieejecodfeodaadoor", sum := "740650cb905fe1fef2431ecce1ac3b1c3803504cdd63dc215e7568fe064865c1", func := "backstay/backstaylaw06.ShapeParts", spec := "shapeParts", inPlace := ["internal/abi.NoEscape"], unfollowed := true, recurses := true, named := ["backstay/value.letters"], apart := false, laid := [("backstay/value.letters", laid_backstay_value_letters)], narrowed := true }
def ShapePartsUptoSaid : Prop := shapePartsUptoRow.holds Tryd.pinned (OpenSpec.upto shapePartsSpec)

end Rows
end Go.Proofs.YtieejecodfeodaaDoor
