/-
  The plain mathematics of layer 1 (vary): zigzag, widths, digits, what a first byte tells; no program is named here. No conditions.
-/
import Derived.WalkKit
import Derived.Laws.Bits64
import Derived.Laws.BitsAllLaws
namespace Go.Proofs.YtpkcjokkadfhcaaDoor.V
open Go.RowKit

/-- Zigzag. -/
def zig (n : Int) : Nat := if 0 ≤ n then (2 * n).toNat else (-2 * n - 1).toNat
/-- Its way back. -/
def zag (n : Nat) : Int := if n % 2 = 0 then ((n / 2 : Nat) : Int) else -((n / 2 : Nat) : Int) - 1

theorem zig_lt (n : Int) (h1 : -9223372036854775808 ≤ n) (h2 : n ≤ 9223372036854775807) : zig n < 18446744073709551616 := by
  unfold zig; split <;> omega
theorem zag_ge (n : Nat) (h : n < 18446744073709551616) : -9223372036854775808 ≤ zag n := by
  unfold zag; split <;> omega
theorem zag_le (n : Nat) (h : n < 18446744073709551616) : zag n ≤ 9223372036854775807 := by
  unfold zag; split <;> omega
theorem zag_zig (n : Int) : zag (zig n) = n := by
  unfold zig zag; split <;> split <;> omega
theorem zig_zag (n : Nat) : zig (zag n) = n := by
  unfold zig zag; split <;> split <;> omega
theorem zig_inj (a b : Int) : zig a = zig b ↔ a = b :=
  ⟨fun h => by rw [← zag_zig a, ← zag_zig b, h], fun h => by rw [h]⟩

theorem xor_ones (a : Nat) (ha : a < 18446744073709551616) : a ^^^ 18446744073709551615 = 18446744073709551615 - a := by
  have h : ((BitVec.ofNat 64 a) ^^^ BitVec.allOnes 64).toNat = (~~~ (BitVec.ofNat 64 a)).toNat := by rw [BitVec.xor_allOnes]
  rw [BitVec.toNat_xor, BitVec.toNat_not, BitVec.toNat_allOnes, BitVec.toNat_ofNat, Nat.mod_eq_of_lt (by omega)] at h
  simpa using h

theorem zig_form (n : Int) (h1 : -9223372036854775808 ≤ n) (h2 : n ≤ 9223372036854775807) :
    bits .xor .u64 (IntKind.u64.wrap (IntKind.u64.wrap n * 2)) (IntKind.u64.wrap (n / 9223372036854775808)) = (zig n : Int) := by
  simp only [IntKind.wrap_u64]
  by_cases h : 0 ≤ n
  · obtain ⟨m, rfl⟩ := Int.eq_ofNat_of_zero_le h
    have e1 : ((m : Int) % 18446744073709551616 * 2) % 18446744073709551616 = ((2 * m : Nat) : Int) := by omega
    have e2 : ((m : Int) / 9223372036854775808) % 18446744073709551616 = ((0 : Nat) : Int) := by omega
    rw [e1, e2, bits_xor_u64_nat _ _ (by omega) (by omega), Nat.xor_zero]
    unfold zig; rw [if_pos h]; omega
  · obtain ⟨x, hx⟩ : ∃ x : Nat, (x : Int) = 2 * n + 18446744073709551616 := ⟨(2 * n + 18446744073709551616).toNat, by omega⟩
    obtain ⟨y, hy⟩ : ∃ y : Nat, y = 18446744073709551615 := ⟨_, rfl⟩
    have e1 : (n % 18446744073709551616 * 2) % 18446744073709551616 = (x : Int) := by omega
    have e2 : (n / 9223372036854775808) % 18446744073709551616 = (y : Int) := by omega
    rw [e1, e2, bits_xor_u64_nat _ _ (by omega) (by omega), hy, xor_ones _ (by omega)]
    unfold zig; rw [if_neg h]; omega

theorem wrap_i64_lo (n : Nat) (h : n < 9223372036854775808) : IntKind.i64.wrap (n : Int) = n := by
  simp [IntKind.wrap, IntKind.bits, IntKind.signed]; omega
theorem wrap_i64_hi (n : Nat) (h1 : 9223372036854775808 ≤ n) (h2 : n < 18446744073709551616) : IntKind.i64.wrap (n : Int) = (n : Int) - 18446744073709551616 := by
  simp [IntKind.wrap, IntKind.bits, IntKind.signed]; omega

theorem zag_form (n : Nat) (h : n < 18446744073709551616) :
    bits .xor .i64 ((n : Int) / 2) (wrap64 (-wrap64 (bits .and .u64 (n : Int) 1))) = zag n := by
  have e0 : bits .and .u64 (n : Int) 1 = ((n % 2 : Nat) : Int) := by
    have := u64_and_nat n 1 h (by omega)
    rw [nat_mask1] at this
    exact this
  rw [e0]
  have hb : BitVec.ofInt 64 ((n : Int) / 2) = BitVec.ofNat 64 (n / 2) := by
    rw [show ((n : Int) / 2) = ((n / 2 : Nat) : Int) from by omega, BitVec.ofInt_natCast]
  by_cases hp : n % 2 = 0
  · rw [hp]
    have e1 : wrap64 (-wrap64 (((0 : Nat) : Int))) = 0 := by kernel_rfl
    rw [e1]
    unfold zag; rw [if_pos hp]
    show IntKind.i64.wrap (((BitVec.ofInt 64 ((n : Int) / 2) ^^^ BitVec.ofInt 64 0).toNat : Nat) : Int) = _
    rw [hb, show BitVec.ofInt 64 0 = 0#64 from rfl, BitVec.xor_zero, BitVec.toNat_ofNat, Nat.mod_eq_of_lt (by omega)]
    exact wrap_i64_lo _ (by omega)
  · have hp1 : n % 2 = 1 := by omega
    rw [hp1]
    have e1 : wrap64 (-wrap64 (((1 : Nat) : Int))) = -1 := by kernel_rfl
    rw [e1]
    unfold zag; rw [if_neg hp]
    show IntKind.i64.wrap (((BitVec.ofInt 64 ((n : Int) / 2) ^^^ BitVec.ofInt 64 (-1)).toNat : Nat) : Int) = _
    rw [hb, show BitVec.ofInt 64 (-1) = BitVec.allOnes 64 from rfl, BitVec.xor_allOnes, BitVec.toNat_not, BitVec.toNat_ofNat, Nat.mod_eq_of_lt (by omega)]
    rw [show (2 ^ 64 - 1 - n / 2 : Nat) = 18446744073709551615 - n / 2 from rfl, wrap_i64_hi _ (by omega) (by omega)]
    omega

/-- How many bytes a number has. -/
def wd (n : Nat) : Nat :=
  if n < 128 then 1 else if n < 16384 then 2 else if n < 2097152 then 3 else if n < 268435456 then 4 else if n < 34359738368 then 5
  else if n < 4398046511104 then 6 else if n < 562949953421312 then 7 else if n < 72057594037927936 then 8 else 9

theorem wd_pos (n : Nat) : 1 ≤ wd n := by unfold wd; repeat' split
                                          all_goals omega
theorem wd_le (n : Nat) : wd n ≤ 9 := by unfold wd; repeat' split
                                         all_goals omega
/-- A number lies below what its width holds. -/
theorem wd_lt (n : Nat) (h : wd n < 9) : n < 2 ^ (7 * wd n) := by
  revert h; unfold wd
  repeat' split
  all_goals (intro _; omega)
/-- .. and not below what a lesser width holds. -/
theorem wd_min (n k : Nat) (hk : k < wd n) (h1 : 1 ≤ k) : 2 ^ (7 * k) ≤ n := by
  revert hk; unfold wd
  repeat' split
  all_goals (intro hk; have hc : k = 1 ∨ k = 2 ∨ k = 3 ∨ k = 4 ∨ k = 5 ∨ k = 6 ∨ k = 7 ∨ k = 8 := by omega
             rcases hc with rfl | rfl | rfl | rfl | rfl | rfl | rfl | rfl <;> omega)
theorem wd_mono {a b : Nat} (h : a ≤ b) : wd a ≤ wd b := by
  rcases Nat.lt_or_ge (wd b) (wd a) with hl | hl
  · have h1 := wd_min a (wd b) hl (wd_pos b)
    have h2 := wd_lt b (by have := wd_le a; omega)
    omega
  · exact hl
theorem wd_eq (n k : Nat) (h1 : 1 ≤ k) (h9 : k ≤ 9) (hlo : k = 1 ∨ 2 ^ (7 * (k - 1)) ≤ n) (hhi : k = 9 ∨ n < 2 ^ (7 * k)) : wd n = k := by
  have hw := wd_le n
  have hp := wd_pos n
  rcases Nat.lt_trichotomy (wd n) k with h | h | h
  · exfalso
    have hk1 : k ≠ 1 := by omega
    have hlo' : 2 ^ (7 * (k - 1)) ≤ n := by
      rcases hlo with h0 | h0
      · exact absurd h0 hk1
      · exact h0
    have h3 := wd_lt n (by omega)
    have h4 : 2 ^ (7 * wd n) ≤ 2 ^ (7 * (k - 1)) := Nat.pow_le_pow_right (by omega) (by omega)
    exact absurd (Nat.lt_of_lt_of_le h3 h4) (Nat.not_lt.2 hlo')
  · exact h
  · exfalso
    have h3 := wd_min n k h h1
    rcases hhi with h0 | h0
    · omega
    · exact absurd h0 (Nat.not_lt.2 h3)

end Go.Proofs.YtpkcjokkadfhcaaDoor.V
