/-
  NARROWER THAN 'FOR EVERY INPUT', by the rows' own cells (each row's printed sentence says how): AluCalled: laid · AluNames: laid.
  DERIVED. THE GIVEN ROWS OF THIS SEAT. 2 by the template 'for every input the law returns true; each argument reads behind the call as it read before'; 0 by the template 'total and deterministic' (their statements: YtoljghgmpilecaaDoorTotals.lean).
  GIVEN WITH THE SEED: the statements are not yours to turn. If you find one false, say at which input.
  Laid BY PROGRAM, IN A SANDBOX (cutbox-rows.mjs): the forced cells as the released guide's own fill.sh prints them over the translation 4807942df2ff1071… (all of the seat's roots in one cut). By AI agents, Wed Nov 11 2026. No macro, syntax, notation, axiom, sorry.
-/
import Derived.Test.YtoljghgmpilecaaDoorChecked
import GoSem.Claim
import GoSem.ClaimJoined
import GoSem.ClaimMapViews
import Derived.JoinedTies
import Derived.KernelRfl
namespace Go.Proofs.YtoljghgmpilecaaDoor
/- THE CELL 'sum', in the pinned program and in every row, IS THE sha256 OF THE DUMP (.gsa) THAT YtoljghgmpilecaaDoorProg.lean LOADS. Nothing in Lean hashes anything: it is a label: what it is worth is what the hold of that sum in a sandbox is worth. -/
noncomputable def Tryd.pinned : Pinned := { name := "ytoljghgmpilecaadoor", sum := "4807942df2ff10711d59242b76ee0789607921a74249107694fedec20143201a", checked := Tryd.checked }
namespace Rows
def none {H : Type} : Left H := { results := [], args := [] }

/- WHAT THE LISTED PACKAGE-LEVEL VARIABLES READ AS WHEN THE CALL BEGINS. Each datum BY PROGRAM (the guide's laid-datum.mjs) off the statement by which the dump's own 'gosem.cut.vars' lays the variable. In a bare row this is a premise. The card (YtoljghgmpilecaaDoorCards.lean) ties it to the program's text. -/
def laid_backstay_alu_binNames {H : Type} : DataW H := .agg [.lit (.string [97, 100, 100]), .lit (.string [115, 117, 98]), .lit (.string [109, 117, 108]), .lit (.string [100, 105, 118]), .lit (.string [114, 101, 109]), .lit (.string [97, 110, 100]), .lit (.string [111, 114]), .lit (.string [120, 111, 114]), .lit (.string [97, 110, 100, 110, 111, 116]), .lit (.string [115, 104, 108]), .lit (.string [115, 104, 114]), .lit (.string [108, 116]), .lit (.string [108, 101]), .lit (.string [101, 113])]
def laid_backstay_alu_unNames {H : Type} : DataW H := .agg [.lit (.string [110, 101, 103]), .lit (.string [110, 111, 116]), .lit (.string [122, 101, 114, 111]), .lit (.string [105, 56]), .lit (.string [105, 49, 54]), .lit (.string [105, 51, 50]), .lit (.string [117, 56]), .lit (.string [117, 49, 54]), .lit (.string [117, 51, 50])]
def laid_backstay_alu_codeNames {H : Type} : DataW H := .agg [.lit (.string [110, 111, 110, 101]), .lit (.string [110, 105, 108]), .lit (.string [100, 105, 118]), .lit (.string [105, 110, 100, 101, 120]), .lit (.string [115, 104, 105, 102, 116]), .lit (.string [116, 121, 112, 101])]

/-- 'backstaylaw03.AluCalled': WHATEVER THE INPUT: true; the input reads as it did. -/
def aluCalledSpec : ChangeSpec := { name := "aluCalled", fn := fun _ => fun
  | [d1, d2] => { results := [.lit (.bool true)], args := [d1, d2] }
  | _ => none }
def aluCalledRow : OpenClaim := { program := "ytoljghgmpilecaadoor", sum := "4807942df2ff10711d59242b76ee0789607921a74249107694fedec20143201a", func := "backstay/backstaylaw03.AluCalled", spec := "aluCalled", unfollowed := true, recurses := true, named := ["backstay/alu.binNames", "backstay/alu.unNames", "backstay/alu.codeNames"], apart := false, laid := [("backstay/alu.binNames", laid_backstay_alu_binNames), ("backstay/alu.unNames", laid_backstay_alu_unNames), ("backstay/alu.codeNames", laid_backstay_alu_codeNames)] }
def AluCalledSaid : Prop := aluCalledRow.holds Tryd.pinned (OpenSpec.ofChange aluCalledSpec)

/-- ITS FALSE NEIGHBOUR: 'it returns false'. Refute it at one input. -/
def aluCalledWrong : ChangeSpec := { name := "aluCalled", fn := fun _ => fun
  | [d1, d2] => { results := [.lit (.bool false)], args := [d1, d2] }
  | _ => none }
def AluCalledWrongFalsely : Prop := aluCalledRow.holds Tryd.pinned (OpenSpec.ofChange aluCalledWrong)

/-- 'backstaylaw03.AluNames': WHATEVER THE INPUT: true; the input reads as it did. -/
def aluNamesSpec : ChangeSpec := { name := "aluNames", fn := fun _ => fun
  | [] => { results := [.lit (.bool true)], args := [] }
  | _ => none }
def aluNamesRow : OpenClaim := { program := "ytoljghgmpilecaadoor", sum := "4807942df2ff10711d59242b76ee0789607921a74249107694fedec20143201a", func := "backstay/backstaylaw03.AluNames", spec := "aluNames", unfollowed := true, recurses := true, named := ["backstay/alu.binNames", "backstay/alu.unNames", "backstay/alu.codeNames"], apart := false, laid := [("backstay/alu.binNames", laid_backstay_alu_binNames), ("backstay/alu.unNames", laid_backstay_alu_unNames), ("backstay/alu.codeNames", laid_backstay_alu_codeNames)] }
def AluNamesSaid : Prop := aluNamesRow.holds Tryd.pinned (OpenSpec.ofChange aluNamesSpec)

/-- ITS FALSE NEIGHBOUR: 'it returns false'. Refute it at one input. -/
def aluNamesWrong : ChangeSpec := { name := "aluNames", fn := fun _ => fun
  | [] => { results := [.lit (.bool false)], args := [] }
  | _ => none }
def AluNamesWrongFalsely : Prop := aluNamesRow.holds Tryd.pinned (OpenSpec.ofChange aluNamesWrong)

/- THE SECOND FORM. 'bulk': how many values and letters a reading holds, each counted each time it is reached (what is shared counts as often as it is met; a slice's spare places count too). A statement '..UptoSaid' is the law's where the arguments, and the package variables that the reading takes, are together of bulk at most 1048576: NARROWER than '..Said'. Prove '..Said' where nothing that the law and all that it calls make is longer than what came in: it says more and counts as full. Else prove '..UptoSaid'. A law counts once. -/
mutual
def uptoBulk {H : Type} : DataW H → Nat
  | .lit (.string bytes) => bytes.length + 1
  | .lit _ => 1
  | .nil => 1
  | .ptr d => uptoBulk d + 1
  | .slice elems spare => uptoBulkAll elems + uptoBulkAll spare + 1
  | .agg parts => uptoBulkAll parts + 1
  | .iface _ d => uptoBulk d + 1
  | .map entries => uptoBulkEntries entries + 1
  | .held _ => 1
def uptoBulkAll {H : Type} : List (DataW H) → Nat
  | [] => 0
  | d :: r => uptoBulk d + uptoBulkAll r
def uptoBulkEntries {H : Type} : List (Lit × DataW H) → Nat
  | [] => 0
  | x :: r => uptoBulkEntry x + uptoBulkEntries r
def uptoBulkEntry {H : Type} : Lit × DataW H → Nat
  | (.string bytes, d) => bytes.length + uptoBulk d + 1
  | (_, d) => uptoBulk d + 1
 end
def uptoSmall : (H : Type) → List (DataW H) → Bool := fun _ ds => decide (uptoBulkAll ds ≤ 1048576)
def OpenSpec.upto (s : _root_.Go.ChangeSpec) : _root_.Go.OpenSpec := { _root_.Go.OpenSpec.ofChange s with cond := some uptoSmall }

/-- 'backstaylaw03.AluCalled', WHERE WHAT IT READS IS OF BULK AT MOST 1048576: true; the input reads as it did. -/
def aluCalledUptoRow : OpenClaim := { program := "ytoljghgmpilecaadoor", sum := "4807942df2ff10711d59242b76ee0789607921a74249107694fedec20143201a", func := "backstay/backstaylaw03.AluCalled", spec := "aluCalled", unfollowed := true, recurses := true, named := ["backstay/alu.binNames", "backstay/alu.unNames", "backstay/alu.codeNames"], apart := false, laid := [("backstay/alu.binNames", laid_backstay_alu_binNames), ("backstay/alu.unNames", laid_backstay_alu_unNames), ("backstay/alu.codeNames", laid_backstay_alu_codeNames)], narrowed := true }
def AluCalledUptoSaid : Prop := aluCalledUptoRow.holds Tryd.pinned (OpenSpec.upto aluCalledSpec)

/-- 'backstaylaw03.AluNames', WHERE WHAT IT READS IS OF BULK AT MOST 1048576: true; the input reads as it did. -/
def aluNamesUptoRow : OpenClaim := { program := "ytoljghgmpilecaadoor", sum := "4807942df2ff10711d59242b76ee0789607921a74249107694fedec20143201a", func := "backstay/backstaylaw03.AluNames", spec := "aluNames", unfollowed := true, recurses := true, named := ["backstay/alu.binNames", "backstay/alu.unNames", "backstay/alu.codeNames"], apart := false, laid := [("backstay/alu.binNames", laid_backstay_alu_binNames), ("backstay/alu.unNames", laid_backstay_alu_unNames), ("backstay/alu.codeNames", laid_backstay_alu_codeNames)], narrowed := true }
def AluNamesUptoSaid : Prop := aluNamesUptoRow.holds Tryd.pinned (OpenSpec.upto aluNamesSpec)

end Rows
end Go.Proofs.YtoljghgmpilecaaDoor
