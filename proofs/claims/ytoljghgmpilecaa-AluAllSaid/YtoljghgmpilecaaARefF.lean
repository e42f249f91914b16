/-
  The document's own Unary. No conditions but the numbers' bounds.
-/
import Derived.Test.YtoljghgmpilecaaARefE
namespace Go.Proofs.Ytoljghgmpilecaa
open Go.RowKit

theorem low_i8 (a : Int) : lowN a 8 true = IntKind.i8.wrap a := by
  have h := U_eq a
  unfold lowN bt
  simp only [true_and, IntKind.wrap, IntKind.bits, IntKind.signed, Bool.true_and, decide_eq_true_eq, ge_iff_le]
  have e1 : (2 : Int) ^ (8 - 1) = 128 := by decide
  have e2 : (2 : Int) ^ 8 = 256 := by decide
  have e3 : (2 : Nat) ^ 8 = 256 := by decide
  rw [e1, e2, e3]
  split <;> split <;> omega
theorem low_i16 (a : Int) : lowN a 16 true = IntKind.i16.wrap a := by
  have h := U_eq a
  unfold lowN bt
  simp only [true_and, IntKind.wrap, IntKind.bits, IntKind.signed, Bool.true_and, decide_eq_true_eq, ge_iff_le]
  have e1 : (2 : Int) ^ (16 - 1) = 32768 := by decide
  have e2 : (2 : Int) ^ 16 = 65536 := by decide
  have e3 : (2 : Nat) ^ 16 = 65536 := by decide
  rw [e1, e2, e3]
  split <;> split <;> omega
theorem low_i32 (a : Int) : lowN a 32 true = IntKind.i32.wrap a := by
  have h := U_eq a
  unfold lowN bt
  simp only [true_and, IntKind.wrap, IntKind.bits, IntKind.signed, Bool.true_and, decide_eq_true_eq, ge_iff_le]
  have e1 : (2 : Int) ^ (32 - 1) = 2147483648 := by decide
  have e2 : (2 : Int) ^ 32 = 4294967296 := by decide
  have e3 : (2 : Nat) ^ 32 = 4294967296 := by decide
  rw [e1, e2, e3]
  split <;> split <;> omega
theorem low_u8 (a : Int) : lowN a 8 false = IntKind.u8.wrap a := by
  have h := U_eq a
  have e3 : (2 : Nat) ^ 8 = 256 := by decide
  unfold lowN
  rw [if_neg (by simp), IntKind.wrap_u8, e3]; omega
theorem low_u16 (a : Int) : lowN a 16 false = IntKind.u16.wrap a := by
  have h := U_eq a
  have e3 : (2 : Nat) ^ 16 = 65536 := by decide
  unfold lowN
  rw [if_neg (by simp), IntKind.wrap_u16, e3]; omega
theorem low_u32 (a : Int) : lowN a 32 false = IntKind.u32.wrap a := by
  have h := U_eq a
  have e3 : (2 : Nat) ^ 32 = 4294967296 := by decide
  unfold lowN
  rw [if_neg (by simp), IntKind.wrap_u32, e3]; omega

theorem ret2 {a a' b b' : Int} (h1 : a = a') (h2 : b = b') : Ending.returned (.tuple #[.int .i64 a, .int .i64 b]) = .returned (.tuple #[.int .i64 a', .int .i64 b']) := by rw [h1, h2]
theorem u_neg (a : Int) : wrap64 (IntKind.u64.wrap (-IntKind.u64.wrap a)) = wrap64 (-a) := by rw [IntKind.wrap_u64, IntKind.wrap_u64]; exact w_cong (by omega)

set_option maxRecDepth 100000 in
set_option maxHeartbeats 4000000 in
theorem runary_any (op a : Int) (w : World) (ha : I64 a) :
    Calls Try.prog 12 #[.int .i64 op, .int .i64 a] w fun e w' => e = .returned (.tuple #[.int .i64 (unN op a), .int .i64 (unE op)]) ∧ w = w' := by
  by_cases hop : 0 ≤ op ∧ op < 9
  · have : op = 0 ∨ op = 1 ∨ op = 2 ∨ op = 3 ∨ op = 4 ∨ op = 5 ∨ op = 6 ∨ op = 7 ∨ op = 8 := by omega
    rcases this with rfl | rfl | rfl | rfl | rfl | rfl | rfl | rfl | rfl
    · go_enter Try.func12, Try.ntmps12
      go_wp2
      go_ret2
      exact ⟨ret2 ((u_neg a).trans (un_neg a).symm) rfl, rfl⟩
    · have h1 := ha.1
      have h2 := ha.2
      have HD1 : Hid (unN 1 a = -1 - a) := Lib.hid (by unfold unN; simp)
      go_enter Try.func12, Try.ntmps12
      go_wp2
      go_ret2
      exact ⟨ret2 HD1.out.symm rfl, rfl⟩
    · by_cases h0 : a = 0
      · subst h0
        go_enter Try.func12, Try.ntmps12
        go_wp2_with (go_at_call 24; refine (truth_any _ _).mono ?_; rintro e w' ⟨rfl, rfl⟩)
        go_ret2
        exact ⟨rfl, rfl⟩
      · have HD : Hid (unN 2 a = 0) := Lib.hid (by unfold unN; simp [h0])
        have h1 : (a == 0) = false := by simpa using h0
        go_enter Try.func12, Try.ntmps12
        go_wp2_with (go_at_call 24; refine (truth_any _ _).mono ?_; rintro e w' ⟨rfl, rfl⟩)
        go_ret2
        exact ⟨ret2 HD.out.symm rfl, rfl⟩
    · go_enter Try.func12, Try.ntmps12
      go_wp2_with (go_at_call 26; refine (low_any a 8 true _ (by omega) (by omega)).mono ?_; rintro e w' ⟨rfl, rfl⟩)
      go_ret2
      exact ⟨ret2 ((low_i8 a).trans (un_i8 a).symm) rfl, rfl⟩
    · go_enter Try.func12, Try.ntmps12
      go_wp2_with (go_at_call 26; refine (low_any a 16 true _ (by omega) (by omega)).mono ?_; rintro e w' ⟨rfl, rfl⟩)
      go_ret2
      exact ⟨ret2 ((low_i16 a).trans (un_i16 a).symm) rfl, rfl⟩
    · go_enter Try.func12, Try.ntmps12
      go_wp2_with (go_at_call 26; refine (low_any a 32 true _ (by omega) (by omega)).mono ?_; rintro e w' ⟨rfl, rfl⟩)
      go_ret2
      exact ⟨ret2 ((low_i32 a).trans (un_i32 a).symm) rfl, rfl⟩
    · go_enter Try.func12, Try.ntmps12
      go_wp2_with (go_at_call 26; refine (low_any a 8 false _ (by omega) (by omega)).mono ?_; rintro e w' ⟨rfl, rfl⟩)
      go_ret2
      exact ⟨ret2 ((low_u8 a).trans (un_u8 a).symm) rfl, rfl⟩
    · go_enter Try.func12, Try.ntmps12
      go_wp2_with (go_at_call 26; refine (low_any a 16 false _ (by omega) (by omega)).mono ?_; rintro e w' ⟨rfl, rfl⟩)
      go_ret2
      exact ⟨ret2 ((low_u16 a).trans (un_u16 a).symm) rfl, rfl⟩
    · go_enter Try.func12, Try.ntmps12
      go_wp2_with (go_at_call 26; refine (low_any a 32 false _ (by omega) (by omega)).mono ?_; rintro e w' ⟨rfl, rfl⟩)
      go_ret2
      exact ⟨ret2 ((low_u32 a).trans (un_u32 a).symm) rfl, rfl⟩
  · have HD : Hid (unN op a = 0 ∧ unE op = 30) := Lib.hid (by
      unfold unN unE
      rw [if_neg (by omega), if_neg (by omega), if_neg (by omega), if_neg (by omega), if_neg (by omega), if_neg (by omega), if_neg (by omega), if_neg (by omega), if_neg (by omega), if_neg hop]
      exact ⟨rfl, rfl⟩)
    have n0 : (op == 0) = false := by simp; omega
    have n1 : (op == 1) = false := by simp; omega
    have n2 : (op == 2) = false := by simp; omega
    have n3 : (op == 3) = false := by simp; omega
    have n4 : (op == 4) = false := by simp; omega
    have n5 : (op == 5) = false := by simp; omega
    have n6 : (op == 6) = false := by simp; omega
    have n7 : (op == 7) = false := by simp; omega
    have n8 : (op == 8) = false := by simp; omega
    go_enter Try.func12, Try.ntmps12
    go_wp2
    go_ret2
    exact ⟨ret2 HD.out.1.symm HD.out.2.symm, rfl⟩

end Go.Proofs.Ytoljghgmpilecaa
