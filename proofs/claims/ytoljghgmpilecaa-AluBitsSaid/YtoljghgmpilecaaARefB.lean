/-
  The document's own and, or, xor, andnot, bit by bit; products; shifts. No conditions but the numbers' bounds.
-/
import Derived.Test.YtoljghgmpilecaaARefA
namespace Go.Proofs.Ytoljghgmpilecaa
open Go.RowKit

theorem acc_round (f : Int → Int → Bool) (a b : Int) {k : Nat} (hk : k < 64) : accN f a b (64 - k) = 2 * accN f a b (64 - (k + 1)) + if f (bt a k) (bt b k) = true then 1 else 0 := by
  rw [show 64 - k = (64 - (k + 1)) + 1 by omega]
  show 2 * accN f a b (64 - (k + 1)) + (if f (bt a (63 - (64 - (k + 1)))) (bt b (63 - (64 - (k + 1)))) = true then 1 else 0) = _
  rw [show 63 - (64 - (k + 1)) = k by omega]
theorem acc_small (f : Int → Int → Bool) (a b : Int) {j : Nat} (hj : j ≤ 63) : accN f a b j < 9223372036854775808 := by
  have h1 := accN_lt f a b j
  have h2 : 2 ^ j ≤ 2 ^ 63 := Nat.pow_le_pow_right (by decide) hj
  have h3 : (2 : Nat) ^ 63 = 9223372036854775808 := by decide
  omega

set_option maxHeartbeats 4000000 in
theorem bits_5 (a b : Int) (w : World) :
    Calls Try.prog 21 #[.int .i64 5, .int .i64 a, .int .i64 b] w fun e w' => e = .returned (.int .i64 (wrap64 (accN fAnd a b 64 : Nat))) ∧ w = w' := by
  go_enter Try.func21, Try.ntmps21
  go_wp2
  go_loop [7, 8] (fun n i => ∃ k : Nat, k ≤ 64 ∧ i = .int .i64 ((k : Int) - 1) ∧ n = .int .u64 (accN fAnd a b (64 - k) : Nat)) (fun _ i => (intOf i + 1).toNat)
  case atStart => exact ⟨64, by omega, rfl, rfl⟩
  case round =>
    obtain ⟨k, hk, rfl, rfl⟩ := hrel
    cases k with
    | zero =>
      go_wp2
      go_ret
      exact ⟨rfl, rfl⟩
    | succ k =>
      have hsm := acc_small fAnd a b (show 64 - (k + 1) ≤ 63 by omega)
      have HR := Lib.hid (acc_round fAnd a b (show k < 64 by omega))
      have hx := bt_cases a k
      have hy := bt_cases b k
      have HX := Lib.hid (fun W => bit_any a k W (by omega))
      have HY := Lib.hid (fun W => bit_any b k W (by omega))
      generalize bt a k = x at hx HX HR
      generalize bt b k = y at hy HY HR
      generalize accN fAnd a b (64 - (k + 1)) = N at hsm HR
      rw [show ((k + 1 : Nat) : Int) - 1 = (k : Int) by omega]
      rcases hx with rfl | rfl <;> rcases hy with rfl | rfl
      all_goals
        go_wp2_with (first | (go_at_call_of 44 a; refine (HX.out _).mono ?_; rintro e w' ⟨rfl, rfl⟩) | (go_at_call 44; refine (HY.out _).mono ?_; rintro e w' ⟨rfl, rfl⟩))
        go_round
        case rel => exact ⟨k, by omega, rfl, by rw [HR.out]; rfl⟩
        case measure => simp [intOf]

set_option maxHeartbeats 4000000 in
theorem bits_6 (a b : Int) (w : World) :
    Calls Try.prog 21 #[.int .i64 6, .int .i64 a, .int .i64 b] w fun e w' => e = .returned (.int .i64 (wrap64 (accN fOr a b 64 : Nat))) ∧ w = w' := by
  go_enter Try.func21, Try.ntmps21
  go_wp2
  go_loop [7, 8] (fun n i => ∃ k : Nat, k ≤ 64 ∧ i = .int .i64 ((k : Int) - 1) ∧ n = .int .u64 (accN fOr a b (64 - k) : Nat)) (fun _ i => (intOf i + 1).toNat)
  case atStart => exact ⟨64, by omega, rfl, rfl⟩
  case round =>
    obtain ⟨k, hk, rfl, rfl⟩ := hrel
    cases k with
    | zero =>
      go_wp2
      go_ret
      exact ⟨rfl, rfl⟩
    | succ k =>
      have hsm := acc_small fOr a b (show 64 - (k + 1) ≤ 63 by omega)
      have HR := Lib.hid (acc_round fOr a b (show k < 64 by omega))
      have hx := bt_cases a k
      have hy := bt_cases b k
      have HX := Lib.hid (fun W => bit_any a k W (by omega))
      have HY := Lib.hid (fun W => bit_any b k W (by omega))
      generalize bt a k = x at hx HX HR
      generalize bt b k = y at hy HY HR
      generalize accN fOr a b (64 - (k + 1)) = N at hsm HR
      rw [show ((k + 1 : Nat) : Int) - 1 = (k : Int) by omega]
      rcases hx with rfl | rfl <;> rcases hy with rfl | rfl
      all_goals
        go_wp2_with (first | (go_at_call_of 44 a; refine (HX.out _).mono ?_; rintro e w' ⟨rfl, rfl⟩) | (go_at_call 44; refine (HY.out _).mono ?_; rintro e w' ⟨rfl, rfl⟩))
        go_round
        case rel => exact ⟨k, by omega, rfl, by rw [HR.out]; rfl⟩
        case measure => simp [intOf]

set_option maxHeartbeats 4000000 in
theorem bits_7 (a b : Int) (w : World) :
    Calls Try.prog 21 #[.int .i64 7, .int .i64 a, .int .i64 b] w fun e w' => e = .returned (.int .i64 (wrap64 (accN fXor a b 64 : Nat))) ∧ w = w' := by
  go_enter Try.func21, Try.ntmps21
  go_wp2
  go_loop [7, 8] (fun n i => ∃ k : Nat, k ≤ 64 ∧ i = .int .i64 ((k : Int) - 1) ∧ n = .int .u64 (accN fXor a b (64 - k) : Nat)) (fun _ i => (intOf i + 1).toNat)
  case atStart => exact ⟨64, by omega, rfl, rfl⟩
  case round =>
    obtain ⟨k, hk, rfl, rfl⟩ := hrel
    cases k with
    | zero =>
      go_wp2
      go_ret
      exact ⟨rfl, rfl⟩
    | succ k =>
      have hsm := acc_small fXor a b (show 64 - (k + 1) ≤ 63 by omega)
      have HR := Lib.hid (acc_round fXor a b (show k < 64 by omega))
      have hx := bt_cases a k
      have hy := bt_cases b k
      have HX := Lib.hid (fun W => bit_any a k W (by omega))
      have HY := Lib.hid (fun W => bit_any b k W (by omega))
      generalize bt a k = x at hx HX HR
      generalize bt b k = y at hy HY HR
      generalize accN fXor a b (64 - (k + 1)) = N at hsm HR
      rw [show ((k + 1 : Nat) : Int) - 1 = (k : Int) by omega]
      rcases hx with rfl | rfl <;> rcases hy with rfl | rfl
      all_goals
        go_wp2_with (first | (go_at_call_of 44 a; refine (HX.out _).mono ?_; rintro e w' ⟨rfl, rfl⟩) | (go_at_call 44; refine (HY.out _).mono ?_; rintro e w' ⟨rfl, rfl⟩))
        go_round
        case rel => exact ⟨k, by omega, rfl, by rw [HR.out]; rfl⟩
        case measure => simp [intOf]

set_option maxHeartbeats 4000000 in
theorem bits_8 (a b : Int) (w : World) :
    Calls Try.prog 21 #[.int .i64 8, .int .i64 a, .int .i64 b] w fun e w' => e = .returned (.int .i64 (wrap64 (accN fAndNot a b 64 : Nat))) ∧ w = w' := by
  go_enter Try.func21, Try.ntmps21
  go_wp2
  go_loop [7, 8] (fun n i => ∃ k : Nat, k ≤ 64 ∧ i = .int .i64 ((k : Int) - 1) ∧ n = .int .u64 (accN fAndNot a b (64 - k) : Nat)) (fun _ i => (intOf i + 1).toNat)
  case atStart => exact ⟨64, by omega, rfl, rfl⟩
  case round =>
    obtain ⟨k, hk, rfl, rfl⟩ := hrel
    cases k with
    | zero =>
      go_wp2
      go_ret
      exact ⟨rfl, rfl⟩
    | succ k =>
      have hsm := acc_small fAndNot a b (show 64 - (k + 1) ≤ 63 by omega)
      have HR := Lib.hid (acc_round fAndNot a b (show k < 64 by omega))
      have hx := bt_cases a k
      have hy := bt_cases b k
      have HX := Lib.hid (fun W => bit_any a k W (by omega))
      have HY := Lib.hid (fun W => bit_any b k W (by omega))
      generalize bt a k = x at hx HX HR
      generalize bt b k = y at hy HY HR
      generalize accN fAndNot a b (64 - (k + 1)) = N at hsm HR
      rw [show ((k + 1 : Nat) : Int) - 1 = (k : Int) by omega]
      rcases hx with rfl | rfl <;> rcases hy with rfl | rfl
      all_goals
        go_wp2_with (first | (go_at_call_of 44 a; refine (HX.out _).mono ?_; rintro e w' ⟨rfl, rfl⟩) | (go_at_call 44; refine (HY.out _).mono ?_; rintro e w' ⟨rfl, rfl⟩))
        go_round
        case rel => exact ⟨k, by omega, rfl, by rw [HR.out]; rfl⟩
        case measure => simp [intOf]

end Go.Proofs.Ytoljghgmpilecaa
