/-
  The document's own shifts, products and quotients, step by step. No conditions but the numbers' bounds.
-/
import Derived.Test.YtoljghgmpilecaaARefB
import Derived.Deep.DeepCutAuto
namespace Go.Proofs.Ytoljghgmpilecaa
open Go.RowKit

set_option maxHeartbeats 4000000 in
theorem left_any (a b : Int) (m : Nat) (w : World) (ha : I64 a) (hm : Hid (m = min b.toNat 64)) :
    Calls Try.prog 22 #[.int .i64 a, .int .i64 b] w fun e w' => e = .returned (.int .i64 (wrap64 (a * 2 ^ m))) ∧ w = w' := by
  have hz := Lib.hid (left_zero ha)
  go_enter Try.func22, Try.ntmps22
  go_wp2
  go_loop [0, 5] (fun x i => ∃ k : Nat, k ≤ m ∧ i = .int .i64 (k : Int) ∧ x = .int .i64 (wrap64 (a * 2 ^ k))) (fun _ i => 64 - (intOf i).toNat)
  case atStart => exact ⟨0, by omega, rfl, by rw [hz.out]⟩
  case round =>
    obtain ⟨k, hk, rfl, rfl⟩ := hrel
    have hm' := hm.out
    by_cases hlt : k < m
    · have h1 : (k : Int) < b := by omega
      have h2 : (k : Int) < 64 := by omega
      have HR := Lib.hid (left_step a k)
      clear hm'
      generalize wrap64 (a * 2 ^ k) = X at HR
      go_wp2
      go_round
      case rel => exact ⟨k + 1, by omega, by go_num, by rw [← HR.out]⟩
      case measure => simp [intOf]; omega
    · obtain rfl : k = m := by omega
      by_cases h1 : (k : Int) < b
      · have h2 : ¬ (k : Int) < 64 := by omega
        clear hm'
        go_wp2
        go_ret
        exact ⟨rfl, rfl⟩
      · clear hm'
        have h1' : decide ((k : Int) < b) = false := by simpa using h1
        go_wp2
        go_ret
        exact ⟨rfl, rfl⟩

theorem half_form (A : Int) : (A - bt A 0).tdiv 2 = A / 2 := by
  have e : bt A 0 = A % 2 := by unfold bt; simp
  rw [e]
  have : A - A % 2 = 2 * (A / 2) := by omega
  rw [this, Int.mul_comm, Int.mul_tdiv_cancel _ (by decide)]

set_option maxHeartbeats 4000000 in
theorem right_any (a b : Int) (m : Nat) (w : World) (ha : I64 a) (hm : Hid (m = min b.toNat 64)) :
    Calls Try.prog 23 #[.int .i64 a, .int .i64 b] w fun e w' => e = .returned (.int .i64 (a / 2 ^ m)) ∧ w = w' := by
  go_enter Try.func23, Try.ntmps23
  go_wp2
  go_loop [0, 5] (fun x i => ∃ k : Nat, k ≤ m ∧ i = .int .i64 (k : Int) ∧ x = .int .i64 (a / 2 ^ k)) (fun _ i => 64 - (intOf i).toNat)
  case atStart => exact ⟨0, by omega, rfl, by simp⟩
  case round =>
    obtain ⟨k, hk, rfl, rfl⟩ := hrel
    have hm' := hm.out
    by_cases hlt : k < m
    · have h1 : (k : Int) < b := by omega
      have h2 : (k : Int) < 64 := by omega
      have HR := Lib.hid (right_step a k)
      have HB := Lib.hid (fun W => bit_any (a / 2 ^ k) 0 W (by omega))
      have hI := right_in ha k
      have HF := Lib.hid (half_form (a / 2 ^ k))
      have hb := bt_cases (a / 2 ^ k) 0
      have hlo : -9223372036854775808 ≤ a / 2 ^ k - bt (a / 2 ^ k) 0 := by
        have e : bt (a / 2 ^ k) 0 = a / 2 ^ k % 2 := by unfold bt; simp
        unfold I64 at hI
        omega
      clear hm'
      generalize a / 2 ^ k = X at HR HB HF hI hb hlo
      generalize bt X 0 = x at HB HF hb hlo
      obtain ⟨hI1, hI2⟩ := hI
      have hx0 : 0 ≤ x := by omega
      have hx1 : x ≤ 1 := by omega
      clear hb
      go_wp2_with (go_at_call 44; refine (HB.out _).mono ?_; rintro e w' ⟨rfl, rfl⟩)
      go_round
      case rel => exact ⟨k + 1, by omega, by go_num, by rw [← HR.out, HF.out]⟩
      case measure => simp [intOf]; omega
    · obtain rfl : k = m := by omega
      by_cases h1 : (k : Int) < b
      · have h2 : ¬ (k : Int) < 64 := by omega
        clear hm'
        go_wp2
        go_ret
        exact ⟨rfl, rfl⟩
      · clear hm'
        have h1' : decide ((k : Int) < b) = false := by simpa using h1
        go_wp2
        go_ret
        exact ⟨rfl, rfl⟩

theorem prod_round (u v k : Nat) : u * (v / 2 ^ k) % 18446744073709551616 = (2 * (u * (v / 2 ^ (k + 1)) % 18446744073709551616) + v / 2 ^ k % 2 * u) % 18446744073709551616 := by
  have e : v / 2 ^ k = 2 * (v / 2 ^ (k + 1)) + v / 2 ^ k % 2 := by
    rw [Nat.pow_succ, ← Nat.div_div_eq_div_mul]; omega
  rw [← prod_step, ← e]

set_option maxHeartbeats 4000000 in
theorem product_any (a b : Int) (w : World) :
    Calls Try.prog 18 #[.int .i64 a, .int .i64 b] w fun e w' => e = .returned (.int .i64 (wrap64 (a * b))) ∧ w = w' := by
  go_enter Try.func18, Try.ntmps18
  go_wp2
  go_loop [5, 6] (fun n i => ∃ k : Nat, k ≤ 64 ∧ i = .int .i64 ((k : Int) - 1) ∧ n = .int .u64 (U a * (U b / 2 ^ k) % 18446744073709551616 : Nat)) (fun _ i => (intOf i + 1).toNat)
  case atStart => exact ⟨64, by omega, rfl, by
    have h := U_lt b
    have e : (2 : Nat) ^ 64 = 18446744073709551616 := by decide
    rw [e, Nat.div_eq_of_lt h]; rfl⟩
  case round =>
    obtain ⟨k, hk, rfl, rfl⟩ := hrel
    cases k with
    | zero =>
      have HP := Lib.hid (prod_all a b)
      rw [Nat.pow_zero, Nat.div_one]
      generalize U a * U b % 18446744073709551616 = X at HP
      go_wp2
      go_ret
      exact ⟨ret_int HP.out, rfl⟩
    | succ k =>
      have HR := Lib.hid (prod_round (U a) (U b) k)
      have HX := Lib.hid (fun W => bit_any b k W (by omega))
      have hb := bt_U b (show k < 64 by omega)
      have hbt := bt_cases b k
      have hu := U_lt a
      have HU := Lib.hid (U_eq a)
      generalize U a * (U b / 2 ^ (k + 1)) % 18446744073709551616 = N at HR
      rw [show ((k + 1 : Nat) : Int) - 1 = (k : Int) by omega]
      rcases hbt with h0 | h0
      · rw [h0] at hb
        rw [h0] at HX
        have hb' : U b / 2 ^ k % 2 = 0 := by exact_mod_cast hb
        have HB := Lib.hid hb'
        clear hb hb'
        go_wp2_with (go_at_call 44; refine (HX.out _).mono ?_; rintro e w' ⟨rfl, rfl⟩)
        go_round
        case rel => exact ⟨k, by omega, rfl, by rw [HR.out, HB.out, IntKind.wrap_u64]; congr 1; omega⟩
        case measure => simp [intOf]
      · rw [h0] at hb
        rw [h0] at HX
        have hb' : U b / 2 ^ k % 2 = 1 := by exact_mod_cast hb
        have HB := Lib.hid hb'
        clear hb hb'
        go_wp2_with (go_at_call 44; refine (HX.out _).mono ?_; rintro e w' ⟨rfl, rfl⟩)
        go_round
        case rel => exact ⟨k, by omega, rfl, by rw [HR.out, HB.out, IntKind.wrap_u64, IntKind.wrap_u64, IntKind.wrap_u64]; have := HU.out; congr 1; omega⟩
        case measure => simp [intOf]

theorem quo_round (n m : Nat) {k : Nat} (hm : 0 < m) :
    (m ≤ 2 * (n / 2 ^ (k + 1) % m) + n / 2 ^ k % 2 → n / 2 ^ k / m = 2 * (n / 2 ^ (k + 1) / m) + 1 ∧ n / 2 ^ k % m = 2 * (n / 2 ^ (k + 1) % m) + n / 2 ^ k % 2 - m) ∧
    (¬ m ≤ 2 * (n / 2 ^ (k + 1) % m) + n / 2 ^ k % 2 → n / 2 ^ k / m = 2 * (n / 2 ^ (k + 1) / m) ∧ n / 2 ^ k % m = 2 * (n / 2 ^ (k + 1) % m) + n / 2 ^ k % 2) := by
  have e : n / 2 ^ k = 2 * (n / 2 ^ (k + 1)) + n / 2 ^ k % 2 := by
    rw [Nat.pow_succ, ← Nat.div_div_eq_div_mul]; omega
  have h := div_step (n / 2 ^ (k + 1)) m (n / 2 ^ k % 2) hm (by omega)
  rw [← e] at h
  exact h

set_option maxRecDepth 100000 in
set_option maxHeartbeats 4000000 in
theorem quotient_any (a b : Int) (w : World) (ha : I64 a) (hb : I64 b) (h0 : b ≠ 0) :
    Calls Try.prog 19 #[.int .i64 a, .int .i64 b] w fun e w' => e = .returned (.tuple #[.int .u64 (a.natAbs / b.natAbs : Nat), .int .u64 (a.natAbs % b.natAbs : Nat)]) ∧ w = w' := by
  have HA := Lib.hid (fun W => magnitude_any a W ha)
  have HB := Lib.hid (fun W => magnitude_any b W hb)
  have hn : a.natAbs ≤ 9223372036854775808 := by unfold I64 at ha; omega
  have hm : b.natAbs ≤ 9223372036854775808 := by unfold I64 at hb; omega
  have hm0 : 0 < b.natAbs := by omega
  clear ha hb h0
  generalize a.natAbs = n at HA hn
  generalize b.natAbs = m at HB hm hm0
  go_enter Try.func19, Try.ntmps19
  go_wp2_with fail
  refine (HA.out _).mono ?_
  rintro e w' ⟨rfl, rfl⟩
  go_wp2_with fail
  refine (HB.out _).mono ?_
  rintro e w' ⟨rfl, rfl⟩
  clear HA HB
  go_wp2
  go_loop [8, 9, 10] (fun q r i => ∃ k : Nat, k ≤ 64 ∧ i = .int .i64 ((k : Int) - 1) ∧ q = .int .u64 (n / 2 ^ k / m : Nat) ∧ r = .int .u64 (n / 2 ^ k % m : Nat)) (fun _ _ i => (intOf i + 1).toNat)
  case atStart => exact ⟨64, by omega, rfl, by
    have e : (2 : Nat) ^ 64 = 18446744073709551616 := by decide
    rw [e, Nat.div_eq_of_lt (show n < 18446744073709551616 by omega)]; simp, by
    have e : (2 : Nat) ^ 64 = 18446744073709551616 := by decide
    rw [e, Nat.div_eq_of_lt (show n < 18446744073709551616 by omega)]; simp⟩
  case round =>
    obtain ⟨k, hk, rfl, rfl, rfl⟩ := hrel
    cases k with
    | zero =>
      rw [Nat.pow_zero, Nat.div_one]
      go_wp2
      go_ret2
      exact ⟨rfl, rfl⟩
    | succ k =>
      obtain ⟨q1, q2⟩ := quo_round n m (k := k) hm0
      have hr : n / 2 ^ (k + 1) % m < m := Nat.mod_lt _ hm0
      have hq : n / 2 ^ (k + 1) / m < 9223372036854775808 := by
        have h1 := Nat.div_le_self (n / 2 ^ (k + 1)) m
        have h2 : n / 2 ^ (k + 1) ≤ n / 2 := by
          rw [Nat.pow_succ, Nat.mul_comm, ← Nat.div_div_eq_div_mul]; exact Nat.div_le_self _ _
        omega
      have hQ : ((n : Int) / 2 ^ k).tmod 2 = ((n / 2 ^ k % 2 : Nat) : Int) := by
        have e2 : ((n : Nat) : Int) / 2 ^ k = ((n / 2 ^ k : Nat) : Int) := by rw [Int.natCast_ediv]; simp
        rw [e2, Int.tmod_eq_emod_of_nonneg (Int.natCast_nonneg _)]; omega
      have hbit : n / 2 ^ k % 2 < 2 := Nat.mod_lt _ (by decide)
      generalize n / 2 ^ (k + 1) % m = R at hr q1 q2
      generalize n / 2 ^ (k + 1) / m = Z at hq q1 q2
      generalize n / 2 ^ k % 2 = B at hbit hQ q1 q2
      rw [show ((k + 1 : Nat) : Int) - 1 = (k : Int) by omega]
      have hR : (R : Int) ≤ 9223372036854775807 := by omega
      have hov : decide ((9223372036854775808 : Int) ≤ (R : Int)) = false := by simp; omega
      have hM := Lib.hid hm
      have hN := Lib.hid hn
      clear hm hn
      by_cases hge : m ≤ 2 * R + B
      · obtain ⟨z1, z2⟩ := q1 hge
        have Z1 := Lib.hid z1
        have Z2 := Lib.hid z2
        clear q1 q2 z1 z2
        have hge' : (m : Int) ≤ 2 * (R : Int) + (B : Int) := by omega
        go_wp2
        go_round
        case rel => exact ⟨k, by omega, rfl, by rw [Z1.out]; congr 1, by rw [Z2.out]; congr 1; omega⟩
        case measure => simp [intOf]
      · obtain ⟨z1, z2⟩ := q2 hge
        have Z1 := Lib.hid z1
        have Z2 := Lib.hid z2
        clear q1 q2 z1 z2
        have hge' : 2 * (R : Int) + (B : Int) < m := by omega
        go_wp2
        go_round
        case rel => exact ⟨k, by omega, rfl, by rw [Z1.out]; congr 1, by rw [Z2.out]; congr 1⟩
        case measure => simp [intOf]

end Go.Proofs.Ytoljghgmpilecaa
