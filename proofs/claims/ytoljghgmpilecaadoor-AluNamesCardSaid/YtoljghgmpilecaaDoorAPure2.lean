/-
  The plain mathematics of layer alu, on: shifts, quotients with their signs, conversions, and what the laws say of them. No program, no conditions.
-/
import Derived.Test.YtoljghgmpilecaaDoorAPure
namespace Go.Proofs.YtoljghgmpilecaaDoor
open Go.RowKit

/-! ### Shifts -/
theorem left_step (a : Int) (i : Nat) : wrap64 (wrap64 (a * 2 ^ i) + wrap64 (a * 2 ^ i)) = wrap64 (a * 2 ^ (i + 1)) := by
  rw [w_add_l, w_add_r, Int.pow_succ, ← Int.mul_assoc]; congr 1; omega
theorem left_zero {a : Int} (h : I64 a) : wrap64 (a * 2 ^ 0) = a := by rw [Int.pow_zero, Int.mul_one, w_in h]
theorem left_full (a : Int) : wrap64 (a * 2 ^ 64) = 0 := by
  have e : (2 : Int) ^ 64 = 18446744073709551616 := by decide
  rw [e]; unfold wrap64; omega
theorem right_step (a : Int) (i : Nat) : a / 2 ^ i / 2 = a / 2 ^ (i + 1) := by
  have hp : (0 : Int) < 2 ^ i := Int.pow_pos (by decide)
  rw [Int.pow_succ, Int.ediv_ediv, if_neg (fun h => by omega), Int.sub_zero]
theorem right_in {a : Int} (h : I64 a) (i : Nat) : I64 (a / 2 ^ i) := by
  have hp : (0 : Int) < 2 ^ i := Int.pow_pos (by decide)
  unfold I64 at *
  refine ⟨?_, ?_⟩
  · rcases Int.lt_or_le a 0 with h0 | h0
    · have h1 : a ≤ a / 2 ^ i := by
        have := Int.ediv_mul_le a (b := 2 ^ i) (by omega)
        rw [Int.le_ediv_iff_mul_le hp]
        have h2 : a * 2 ^ i ≤ a * 1 := Int.mul_le_mul_of_nonpos_left (by omega) (by omega)
        omega
      omega
    · have := Int.ediv_nonneg h0 (Int.le_of_lt hp); omega
  · rcases Int.lt_or_le a 0 with h0 | h0
    · have := Int.ediv_neg_of_neg_of_pos h0 hp; omega
    · have := Int.ediv_le_self (2 ^ i) h0; omega
theorem right_full {a : Int} (h : I64 a) : a / 2 ^ 64 = if a < 0 then -1 else 0 := by
  have e : (2 : Int) ^ 64 = 18446744073709551616 := by decide
  unfold I64 at h
  rw [e]; split <;> omega

/-! ### Quotients with their signs -/
theorem tdiv_abs (a b : Int) : a.tdiv b = if (decide (a < 0) != decide (b < 0)) = true then -((a.natAbs / b.natAbs : Nat) : Int) else ((a.natAbs / b.natAbs : Nat) : Int) := by
  rcases Int.lt_or_le a 0 with ha | ha <;> rcases Int.lt_or_le b 0 with hb | hb
  · obtain ⟨n, rfl⟩ : ∃ n : Nat, a = -(n : Int) := ⟨a.natAbs, by omega⟩
    obtain ⟨m, rfl⟩ : ∃ m : Nat, b = -(m : Int) := ⟨b.natAbs, by omega⟩
    rw [if_neg (by simp only [decide_eq_true ha, decide_eq_true hb]; decide), Int.neg_tdiv, Int.tdiv_neg, Int.neg_neg]; simp
  · obtain ⟨n, rfl⟩ : ∃ n : Nat, a = -(n : Int) := ⟨a.natAbs, by omega⟩
    obtain ⟨m, rfl⟩ : ∃ m : Nat, b = (m : Int) := ⟨b.natAbs, by omega⟩
    rw [if_pos (by simp only [decide_eq_true ha, decide_eq_false (show ¬ ((m : Int) < 0) by omega)]; decide), Int.neg_tdiv]; simp
  · obtain ⟨n, rfl⟩ : ∃ n : Nat, a = (n : Int) := ⟨a.natAbs, by omega⟩
    obtain ⟨m, rfl⟩ : ∃ m : Nat, b = -(m : Int) := ⟨b.natAbs, by omega⟩
    rw [if_pos (by simp only [decide_eq_true hb, decide_eq_false (show ¬ ((n : Int) < 0) by omega)]; decide), Int.tdiv_neg]; simp
  · obtain ⟨n, rfl⟩ : ∃ n : Nat, a = (n : Int) := ⟨a.natAbs, by omega⟩
    obtain ⟨m, rfl⟩ : ∃ m : Nat, b = (m : Int) := ⟨b.natAbs, by omega⟩
    rw [if_neg (by simp only [decide_eq_false (show ¬ ((n : Int) < 0) by omega), decide_eq_false (show ¬ ((m : Int) < 0) by omega)]; decide)]; simp
theorem tmod_abs (a b : Int) : a.tmod b = if a < 0 then -((a.natAbs % b.natAbs : Nat) : Int) else ((a.natAbs % b.natAbs : Nat) : Int) := by
  rcases Int.lt_or_le a 0 with ha | ha <;> rcases Int.lt_or_le b 0 with hb | hb
  · obtain ⟨n, rfl⟩ : ∃ n : Nat, a = -(n : Int) := ⟨a.natAbs, by omega⟩
    obtain ⟨m, rfl⟩ : ∃ m : Nat, b = -(m : Int) := ⟨b.natAbs, by omega⟩
    rw [if_pos ha, Int.neg_tmod, Int.tmod_neg]; simp; exact Int.tmod_eq_emod_of_nonneg (by omega)
  · obtain ⟨n, rfl⟩ : ∃ n : Nat, a = -(n : Int) := ⟨a.natAbs, by omega⟩
    obtain ⟨m, rfl⟩ : ∃ m : Nat, b = (m : Int) := ⟨b.natAbs, by omega⟩
    rw [if_pos ha, Int.neg_tmod]; simp; exact Int.tmod_eq_emod_of_nonneg (by omega)
  · obtain ⟨n, rfl⟩ : ∃ n : Nat, a = (n : Int) := ⟨a.natAbs, by omega⟩
    obtain ⟨m, rfl⟩ : ∃ m : Nat, b = -(m : Int) := ⟨b.natAbs, by omega⟩
    rw [if_neg (by omega), Int.tmod_neg]; simp; exact Int.tmod_eq_emod_of_nonneg (by omega)
  · obtain ⟨n, rfl⟩ : ∃ n : Nat, a = (n : Int) := ⟨a.natAbs, by omega⟩
    obtain ⟨m, rfl⟩ : ∃ m : Nat, b = (m : Int) := ⟨b.natAbs, by omega⟩
    rw [if_neg (by omega)]; simp; exact Int.tmod_eq_emod_of_nonneg (by omega)
theorem tmod_in {a b : Int} (ha : I64 a) (hb : b ≠ 0) : I64 (a.tmod b) ∧ (a.tmod b).natAbs < b.natAbs ∧ (a.tmod b = 0 ∨ (a.tmod b < 0 ↔ a < 0)) := by
  have h1 := Nat.mod_lt a.natAbs (show 0 < b.natAbs by omega)
  have h2 := Nat.mod_le a.natAbs b.natAbs
  unfold I64 at *
  rw [tmod_abs]
  split <;> refine ⟨by omega, by omega, ?_⟩ <;> omega
/-- Quotient times b, and the remainder, are a again. -/
theorem div_again {a : Int} (b : Int) (ha : I64 a) : wrap64 (wrap64 (wrap64 (a.tdiv b) * b) + a.tmod b) = a := by
  rw [w_mul_l, w_add_l, Int.mul_comm, Int.mul_tdiv_add_tmod, w_in ha]

/-! ### What AluBits says -/
theorem or_sum (u v : Nat) (hu : u < 18446744073709551616) (hv : v < 18446744073709551616) : (u ||| v) % 18446744073709551616 = ((u ^^^ v) + (u &&& v)) % 18446744073709551616 := by
  have hz : (BitVec.ofNat 64 u ^^^ BitVec.ofNat 64 v) &&& (BitVec.ofNat 64 u &&& BitVec.ofNat 64 v) = 0#64 := by
    apply BitVec.eq_of_getLsbD_eq
    intro i _
    simp only [BitVec.getLsbD_and, BitVec.getLsbD_xor, BitVec.getLsbD_zero]
    cases (BitVec.ofNat 64 u).getLsbD i <;> cases (BitVec.ofNat 64 v).getLsbD i <;> rfl
  have ho : (BitVec.ofNat 64 u ^^^ BitVec.ofNat 64 v) ||| (BitVec.ofNat 64 u &&& BitVec.ofNat 64 v) = BitVec.ofNat 64 u ||| BitVec.ofNat 64 v := by
    apply BitVec.eq_of_getLsbD_eq
    intro i _
    simp only [BitVec.getLsbD_and, BitVec.getLsbD_xor, BitVec.getLsbD_or]
    cases (BitVec.ofNat 64 u).getLsbD i <;> cases (BitVec.ofNat 64 v).getLsbD i <;> rfl
  have h := BitVec.add_eq_or_of_and_eq_zero _ _ hz
  rw [ho] at h
  have h2 := congrArg BitVec.toNat h
  have e : (2 : Nat) ^ 64 = 18446744073709551616 := by decide
  rw [BitVec.toNat_add, BitVec.toNat_xor, BitVec.toNat_and, BitVec.toNat_or, BitVec.toNat_ofNat, BitVec.toNat_ofNat, e, Nat.mod_eq_of_lt hu, Nat.mod_eq_of_lt hv] at h2
  rw [h2]
  exact Nat.mod_eq_of_lt (Nat.or_lt_two_pow (n := 64) hu hv)
theorem bits_or_sum (a b : Int) : bits .or .i64 a b = wrap64 (bits .xor .i64 a b + bits .and .i64 a b) := by
  rw [bits_or, bits_xor, bits_and, w_add_l, w_add_r]
  apply w_cong
  have h := or_sum (U a) (U b) (U_lt a) (U_lt b)
  omega
theorem U_not (b : Int) : U (-1 - b) = 18446744073709551615 - U b := by unfold U; omega
theorem bits_andNot_not (a b : Int) : bits .andNot .i64 a b = bits .and .i64 a (-1 - b) := by rw [bits_andNot, bits_and, U_not]
theorem bits_xor_back {a : Int} (b : Int) (ha : I64 a) : bits .xor .i64 (bits .xor .i64 a b) b = a := by
  rw [bits_xor, bits_xor, U_w]
  have hx : U a ^^^ U b < 18446744073709551616 := Nat.xor_lt_two_pow (n := 64) (U_lt a) (U_lt b)
  rw [U_nat _ hx, Nat.xor_assoc, Nat.xor_self, Nat.xor_zero, w_U, w_in ha]
/-- Shifted right by so many, and left again: only low bits are lost. -/
theorem shift_back (a : Int) {k : Nat} (hk : k < 63) : ∃ L : Int, wrap64 (a - wrap64 (a / 2 ^ k * 2 ^ k)) = L ∧ 0 ≤ L ∧ L < 2 ^ k := by
  have hp : (0 : Int) < 2 ^ k := Int.pow_pos (by decide)
  have h1 := Int.emod_nonneg a (show (2 : Int) ^ k ≠ 0 by omega)
  have h2 := Int.emod_lt_of_pos a hp
  have h3 := Int.mul_ediv_add_emod a (2 ^ k)
  have h4 : (2 : Int) ^ k ≤ 2 ^ 63 := by
    have : (2 : Nat) ^ k ≤ 2 ^ 63 := Nat.pow_le_pow_right (by decide) (by omega)
    exact_mod_cast this
  have e : (2 : Int) ^ 63 = 9223372036854775808 := by decide
  refine ⟨a % 2 ^ k, ?_, h1, h2⟩
  rw [w_sub_r, show a - a / 2 ^ k * 2 ^ k = a % 2 ^ k by rw [Int.mul_comm]; omega]
  exact w_in (by unfold I64; omega)

end Go.Proofs.YtoljghgmpilecaaDoor
