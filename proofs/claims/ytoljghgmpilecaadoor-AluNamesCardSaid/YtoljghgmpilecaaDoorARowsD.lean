/-
  What the two rows with names share: the condition on the listed package-level variables, opened; bounds of arguments. No conditions.
-/
import Derived.Test.YtoljghgmpilecaaDoorANm
import Derived.Test.YtoljghgmpilecaaDoorRows
import Derived.ProofKit
import Derived.OpenShut
import Derived.SizedLaws
import Derived.Lib.LaidTab
import Derived.Stop.LaidErr
namespace Go.Proofs.YtoljghgmpilecaaDoor
open Go.ChangeShapes Go.WideShapes Go.ChangeAt Go.RowKit

theorem Tryd.own : ownKnob Tryd.prog.godebug = none := by kernel_rfl
theorem Tryd.laidOut : laidOutB Tryd.prog = true := by kernel_rfl
theorem i64_bounds {n : Int} (h : (Lit.int .i64 n).wf = true) : -9223372036854775808 ≤ n ∧ n ≤ 9223372036854775807 := by
  have hmin : IntKind.i64.min = -9223372036854775808 := rfl
  have hmax : IntKind.i64.max = 9223372036854775807 := rfl
  simp only [Lit.wf, Bool.and_eq_true, decide_eq_true_eq] at h
  omega
theorem tBin : (Tryd.prog.globals[0]?).map (·.type) = some 41 := by kernel_rfl
theorem tUn : (Tryd.prog.globals[1]?).map (·.type) = some 42 := by kernel_rfl
theorem tCode : (Tryd.prog.globals[2]?).map (·.type) = some 43 := by kernel_rfl

theorem namesAt_of {rest : List (String × DataW Unit)} {W : World}
    (h : laidMet Tryd.prog (("backstay/alu.binNames", Rows.laid_backstay_alu_binNames) :: ("backstay/alu.unNames", Rows.laid_backstay_alu_unNames) :: ("backstay/alu.codeNames", Rows.laid_backstay_alu_codeNames) :: rest) W) : NamesAt W :=
  ⟨strs_of_head (l := binNs) gBin tBin Tryd.underlying41 Tryd.underlying9 (by kernel_rfl) (by kernel_rfl) h,
   strs_of_head (l := unNs) gUn tUn Tryd.underlying42 Tryd.underlying9 (by kernel_rfl) (by kernel_rfl) h.tail,
   strs_of_head (l := codeNs) gCode tCode Tryd.underlying43 Tryd.underlying9 (by kernel_rfl) (by kernel_rfl) h.tail.tail⟩

end Go.Proofs.YtoljghgmpilecaaDoor
