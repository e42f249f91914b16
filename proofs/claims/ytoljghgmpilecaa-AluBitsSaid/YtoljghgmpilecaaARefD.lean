/-
  The document's own lowest bits of a number. No conditions but the numbers' bounds.
-/
import Derived.Test.YtoljghgmpilecaaARefC
namespace Go.Proofs.Ytoljghgmpilecaa
open Go.RowKit

/-- The lowest bits of a number, so many, with the highest of them as the sign, if it is said. -/
def lowN (a : Int) (m : Nat) (s : Bool) : Int := if s = true ∧ bt a (m - 1) = 1 then ((U a % 2 ^ m : Nat) : Int) - 2 ^ m else ((U a % 2 ^ m : Nat) : Int)

theorem low_round (u m : Nat) {k : Nat} (hk : k < m) : u % 2 ^ m / 2 ^ k = 2 * (u % 2 ^ m / 2 ^ (k + 1)) + u / 2 ^ k % 2 := by
  have h1 : u % 2 ^ m / 2 ^ k = 2 * (u % 2 ^ m / 2 ^ (k + 1)) + u % 2 ^ m / 2 ^ k % 2 := by
    rw [Nat.pow_succ, ← Nat.div_div_eq_div_mul]; omega
  have h2 : u % 2 ^ m / 2 ^ k % 2 = u / 2 ^ k % 2 := by
    have e : 2 ^ m = 2 ^ k * (2 * 2 ^ (m - 1 - k)) := by
      rw [← Nat.pow_succ', ← Nat.pow_add]; congr 1; omega
    rw [e, Nat.mod_mul_right_div_self, Nat.mod_mul_right_mod]
  omega

theorem left_one (i : Nat) (w : World) (hi : i < 64) :
    Calls Try.prog 22 #[.int .i64 1, .int .i64 (i : Int)] w fun e w' => e = .returned (.int .i64 (wrap64 (2 ^ i))) ∧ w = w' := by
  have := left_any 1 (i : Int) i w (by unfold I64; omega) (by show i = _; omega)
  rw [Int.one_mul] at this
  exact this

set_option maxRecDepth 100000 in
set_option maxHeartbeats 4000000 in
theorem low_any (a : Int) (m : Nat) (s : Bool) (w : World) (hm1 : 1 ≤ m) (hm : m ≤ 32) :
    Calls Try.prog 26 #[.int .i64 a, .int .i64 (m : Int), .bool s] w fun e w' => e = .returned (.int .i64 (lowN a m s)) ∧ w = w' := by
  have hlt : U a % 2 ^ m < 2 ^ m := Nat.mod_lt _ (Nat.two_pow_pos m)
  have hp : (2 : Nat) ^ m ≤ 4294967296 := by
    have : (2 : Nat) ^ m ≤ 2 ^ 32 := Nat.pow_le_pow_right (by decide) hm
    have e : (2 : Nat) ^ 32 = 4294967296 := by decide
    omega
  have HL := Lib.hid hlt
  have HP := Lib.hid hp
  clear hlt hp
  go_enter Try.func26, Try.ntmps26
  go_wp2
  go_loop [7, 8] (fun n i => ∃ k : Nat, k ≤ m ∧ i = .int .i64 ((k : Int) - 1) ∧ n = .int .i64 (U a % 2 ^ m / 2 ^ k : Nat)) (fun _ i => (intOf i + 1).toNat)
  case atStart => exact ⟨m, by omega, rfl, by rw [Nat.div_eq_of_lt HL.out]; rfl⟩
  case round =>
    obtain ⟨k, hk, rfl, rfl⟩ := hrel
    cases k with
    | zero =>
      rw [Nat.pow_zero, Nat.div_one]
      cases s with
      | false =>
        go_wp2
        go_ret
        exact ⟨ret_int (by unfold lowN; rw [if_neg (by simp)]; simp), rfl⟩
      | true =>
        have HX := Lib.hid (fun W => bit_any a (m - 1) W (by omega))
        rw [show ((m - 1 : Nat) : Int) = (m : Int) - 1 by omega] at HX
        have HD : Hid (lowN a m true = if bt a (m - 1) = 1 then ((U a % 2 ^ m : Nat) : Int) - 2 ^ m else ((U a % 2 ^ m : Nat) : Int)) := by show _ = _; unfold lowN; simp only [true_and]
        have hb := bt_cases a (m - 1)
        generalize bt a (m - 1) = x at HX HD hb
        generalize hX : U a % 2 ^ m = X at HD HL ⊢
        clear hX
        have hX2 := HL.out
        have hX3 := HP.out
        have hX4 : X < 4294967296 := by omega
        clear hX2 hX3
        rcases hb with rfl | rfl
        · go_wp2_with (go_at_call 44; refine (HX.out _).mono ?_; rintro e w' ⟨rfl, rfl⟩)
          go_ret
          exact ⟨ret_int (by rw [HD.out]; simp), rfl⟩
        · go_wp2_with (go_at_call 44; refine (HX.out _).mono ?_; rintro e w' ⟨rfl, rfl⟩)
          go_loop [7, 9] (fun n i => ∃ k : Nat, m ≤ k ∧ k ≤ 64 ∧ i = .int .i64 (k : Int) ∧ n = .int .i64 (wrap64 ((X : Int) + 2 ^ k - 2 ^ m))) (fun _ i => 64 - (intOf i).toNat)
          case atStart => exact ⟨m, Nat.le_refl _, by omega, rfl, by rw [show (X : Int) + 2 ^ m - 2 ^ m = X by omega, w_in (by unfold I64; omega)]⟩
          case round =>
            obtain ⟨j, hj1, hj2, rfl, rfl⟩ := hrel
            by_cases hlt : j < 64
            · have HO := Lib.hid (fun W => left_one j W hlt)
              have HR : Hid (wrap64 (wrap64 ((X : Int) + 2 ^ j - 2 ^ m) + wrap64 (2 ^ j)) = wrap64 ((X : Int) + 2 ^ (j + 1) - 2 ^ m)) := by
                show _ = _
                rw [w_add_l, w_add_r, Int.pow_succ]
                congr 1; omega
              generalize wrap64 ((X : Int) + 2 ^ j - 2 ^ m) = Y at HR
              generalize wrap64 (2 ^ j) = Z at HR HO
              go_wp2_with (go_at_call 22; refine (HO.out _).mono ?_; rintro e w' ⟨rfl, rfl⟩)
              go_round
              case rel => exact ⟨j + 1, by omega, by omega, by go_num, by rw [← HR.out]⟩
              case measure => simp [intOf]; omega
            · obtain rfl : j = 64 := by omega
              have HE : Hid (wrap64 ((X : Int) + 2 ^ 64 - 2 ^ m) = lowN a m true) := by
                have h2 := HL.out
                have h3 := HP.out
                have e : (2 : Int) ^ 64 = 18446744073709551616 := by decide
                have e2 : ((2 : Int) ^ m) = ((2 ^ m : Nat) : Int) := by simp
                show _ = _
                rw [HD.out, if_pos trivial, e, e2]
                generalize (2 : Nat) ^ m = M at h2 h3
                unfold wrap64
                omega
              generalize wrap64 ((X : Int) + 2 ^ 64 - 2 ^ m) = Y at HE
              go_wp2
              go_ret
              exact ⟨ret_int HE.out, rfl⟩
    | succ k =>
      have HR := Lib.hid (low_round (U a) m (show k < m by omega))
      have HX := Lib.hid (fun W => bit_any a k W (by omega))
      have HB := Lib.hid (bt_U a (show k < 64 by omega))
      have hb := bt_cases a k
      have hs : U a % 2 ^ m / 2 ^ (k + 1) < 4294967296 := by
        have h1 := HL.out
        have h2 := HP.out
        have := Nat.div_le_self (U a % 2 ^ m) (2 ^ (k + 1))
        omega
      generalize U a % 2 ^ m / 2 ^ (k + 1) = N at HR hs
      generalize bt a k = x at HX HB hb
      have hx0 : 0 ≤ x := by omega
      have hx1 : x ≤ 1 := by omega
      clear hb
      rw [show ((k + 1 : Nat) : Int) - 1 = (k : Int) by omega]
      go_wp2_with (go_at_call 44; refine (HX.out _).mono ?_; rintro e w' ⟨rfl, rfl⟩)
      go_round
      case rel => exact ⟨k, by omega, rfl, by have := HB.out; rw [HR.out]; congr 1; omega⟩
      case measure => simp [intOf]

end Go.Proofs.Ytoljghgmpilecaa
