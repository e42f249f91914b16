/-
  The arguments of the laws: a value, opened; numbers fit an int64. No conditions.
-/
import Derived.Test.YtkhbmbkjaeaamaaDoorWRead
import Derived.Test.YtkhbmbkjaeaamaaDoorRows
import Derived.Lib.SmallJoins
import Derived.ProofKit
namespace Go.Proofs.YtkhbmbkjaeaamaaDoor
open Go.ChangeShapes Go.WideShapes Go.ChangeAt Go.RowKit

theorem Tryd.own : ownKnob Tryd.prog.godebug = none := by kernel_rfl
theorem Tryd.laidOut : laidOutB Tryd.prog = true := by kernel_rfl

theorem i64_of_wf {n : Int} (h : (Lit.int .i64 n).wf = true) : I64 n := by
  have hmin : IntKind.i64.min = -9223372036854775808 := rfl
  have hmax : IntKind.i64.max = 9223372036854775807 := rfl
  simp only [Lit.wf, Bool.and_eq_true, decide_eq_true_eq] at h
  unfold I64; omega

section
variable {H : Type} {enc : TypeId × Value → H} {w : World} {base b0 : Nat} {spare : Nat → Bool} {held : Bool} {r : Reach} {v : Value} {d : DataW H} {p : List MemPlace}
set_option maxRecDepth 100000 in
theorem open_val (hv : Value.okWide Tryd.prog w r b0 35 v) (h : DataW.Trod enc Tryd.prog w base spare held 35 v d p) :
    ∃ t n, v = .agg #[.int .i64 t, .int .i64 n] ∧ d = .agg [.lit (.int .i64 t), .lit (.int .i64 n)] ∧ p = [] ∧ I64 t ∧ I64 n := by
  obtain ⟨v0, v1, y0, y1, n, rfl, rfl, rfl, h0, h1⟩ := Joins.open_agg2 Tryd.underlying35 (by kernel_rfl) (by kernel_rfl) hv h
  obtain ⟨a, e0, rfl, w0⟩ := DataW.trod_int Tryd.underlying3 h0
  obtain ⟨b, e1, rfl, w1⟩ := DataW.trod_int Tryd.underlying2 h1
  injection e0 with e0 _
  injection e1 with e1 _
  subst e0 e1
  exact ⟨a, b, rfl, rfl, rfl, i64_of_wf w0, i64_of_wf w1⟩
end

end Go.Proofs.YtkhbmbkjaeaamaaDoor
