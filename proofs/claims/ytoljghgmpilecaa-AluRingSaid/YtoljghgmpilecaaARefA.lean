/-
  The document's own small functions of layer alu: a bit, a magnitude, a sign, a truth. No conditions but the numbers' bounds.
-/
import Derived.Test.YtoljghgmpilecaaKMem
import Derived.Test.YtoljghgmpilecaaAPure2
import Derived.Lib.Hide
import Derived.WalkLawsBesides
import Derived.Deep.QuietTactic
import Derived.BigQuiet
import Derived.Deep.RegionWith
import Derived.Deep.RegionHeld3
namespace Go.Proofs.Ytoljghgmpilecaa
open Go.RowKit


theorem bit_form (a : Int) (i : Nat) (hi : i < 64) : wrap64 ((IntKind.u64.wrap a / 2 ^ i).tmod 2) = bt a i := by
  have h := bt_U a hi
  have e : IntKind.u64.wrap a = ((U a : Nat) : Int) := by rw [IntKind.wrap_u64, U_eq]
  have e2 : ((U a : Nat) : Int) / 2 ^ i = ((U a / 2 ^ i : Nat) : Int) := by rw [Int.natCast_ediv]; simp
  rw [e, e2, Int.tmod_eq_emod_of_nonneg (Int.natCast_nonneg _), show ((U a / 2 ^ i : Nat) : Int) % 2 = ((U a / 2 ^ i % 2 : Nat) : Int) by omega, h]
  exact w_in (by have := bt_cases a i; unfold I64; omega)

theorem bit_any (a : Int) (i : Nat) (w : World) (hi : i < 64) :
    Calls Try.prog 44 #[.int .i64 a, .int .i64 (i : Int)] w fun e w' => e = .returned (.int .i64 (bt a i)) ∧ w = w' := by
  have HF := Lib.hid (bit_form a i hi)
  go_enter Try.func44, Try.ntmps44
  go_wp2
  go_ret
  exact ⟨ret_int HF.out, rfl⟩

theorem magnitude_any (a : Int) (w : World) (ha : I64 a) :
    Calls Try.prog 45 #[.int .i64 a] w fun e w' => e = .returned (.int .u64 (a.natAbs : Int)) ∧ w = w' := by
  have h := ha
  unfold I64 at h
  go_enter Try.func45, Try.ntmps45
  go_wp2
  · go_ret
    exact ⟨ret_int (by rw [IntKind.wrap_u64, IntKind.wrap_u64]; omega), rfl⟩
  · go_ret
    exact ⟨ret_int (by omega), rfl⟩

theorem signed_any (n : Nat) (s : Bool) (w : World) :
    Calls Try.prog 20 #[.int .u64 (n : Int), .bool s] w fun e w' => e = .returned (.int .i64 (wrap64 (if s = true then -(n : Int) else n))) ∧ w = w' := by
  have h1 : wrap64 (IntKind.u64.wrap (-(n : Int))) = wrap64 (-(n : Int)) := by rw [IntKind.wrap_u64]; exact w_cong (by omega)
  have H1 := Lib.hid h1
  clear h1
  cases s
  · go_enter Try.func20, Try.ntmps20
    go_wp2
    go_ret
    exact ⟨rfl, rfl⟩
  · go_enter Try.func20, Try.ntmps20
    go_wp2
    go_ret
    exact ⟨ret_int H1.out, rfl⟩

theorem truth_any (s : Bool) (w : World) :
    Calls Try.prog 24 #[.bool s] w fun e w' => e = .returned (.int .i64 (if s = true then 1 else 0)) ∧ w = w' := by
  cases s
  all_goals
    go_enter Try.func24, Try.ntmps24
    go_wp2
    go_ret
    exact ⟨rfl, rfl⟩

end Go.Proofs.Ytoljghgmpilecaa
