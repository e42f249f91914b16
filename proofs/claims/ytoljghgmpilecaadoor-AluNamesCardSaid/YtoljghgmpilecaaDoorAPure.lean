/-
  The plain mathematics of layer alu: numbers of 64 bits as integers, their bits, and the document's ways of reckoning, bit by bit. No program, no conditions.
-/
import Derived.WalkKit
import Derived.Laws.BitsAllLaws
namespace Go.Proofs.YtoljghgmpilecaaDoor
open Go.RowKit

/-- Numbers that int64 has. -/
def I64 (n : Int) : Prop := -9223372036854775808 ≤ n ∧ n ≤ 9223372036854775807
/-- A number's 64 bits. -/
def U (a : Int) : Nat := (a % 18446744073709551616).toNat
theorem U_lt (a : Int) : U a < 18446744073709551616 := by unfold U; omega
theorem U_eq (a : Int) : ((U a : Nat) : Int) = a % 18446744073709551616 := by unfold U; omega
theorem U_nat (n : Nat) (h : n < 18446744073709551616) : U n = n := by unfold U; omega
theorem w_in {n : Int} (h : I64 n) : wrap64 n = n := by unfold I64 at h; unfold wrap64; omega
theorem w_I64 (n : Int) : I64 (wrap64 n) := by unfold I64 wrap64; omega
theorem w_U (n : Int) : wrap64 (U n : Nat) = wrap64 n := by rw [U_eq]; unfold wrap64; omega
theorem w_cong {a b : Int} (h : a % 18446744073709551616 = b % 18446744073709551616) : wrap64 a = wrap64 b := by unfold wrap64; omega
theorem U_w (n : Int) : U (wrap64 n) = U n := by unfold U wrap64; omega
theorem U_inj {a b : Int} (ha : I64 a) (hb : I64 b) (h : U a = U b) : a = b := by rw [← w_in ha, ← w_in hb, ← w_U a, ← w_U b, h]

/-- Sums, products of what was wrapped. -/
theorem w_add_l (a b : Int) : wrap64 (wrap64 a + b) = wrap64 (a + b) := by unfold wrap64; omega
theorem w_add_r (a b : Int) : wrap64 (a + wrap64 b) = wrap64 (a + b) := by unfold wrap64; omega
theorem w_sub_r (a b : Int) : wrap64 (a - wrap64 b) = wrap64 (a - b) := by unfold wrap64; omega
theorem w_form (a : Int) : ∃ k : Int, wrap64 a = a + 18446744073709551616 * k := ⟨-((a + 9223372036854775808) / 18446744073709551616), by unfold wrap64; omega⟩
theorem w_shift (a k : Int) : wrap64 (a + 18446744073709551616 * k) = wrap64 a := by unfold wrap64; omega
theorem w_mul_l (a b : Int) : wrap64 (wrap64 a * b) = wrap64 (a * b) := by
  obtain ⟨k, hk⟩ := w_form a
  rw [hk, Int.add_mul, Int.mul_assoc, w_shift]
theorem w_mul_r (a b : Int) : wrap64 (a * wrap64 b) = wrap64 (a * b) := by rw [Int.mul_comm, w_mul_l, Int.mul_comm]

/-! ### Bits -/

/-- Bit i of a number. -/
def bt (a : Int) (i : Nat) : Int := a / 2 ^ i % 2
theorem bt_cases (a : Int) (i : Nat) : bt a i = 0 ∨ bt a i = 1 := by unfold bt; omega
theorem pow_split {i : Nat} (h : i < 64) : (18446744073709551616 : Nat) = 2 ^ i * (2 * 2 ^ (63 - i)) := by
  have e : (18446744073709551616 : Nat) = 2 ^ 64 := by decide
  rw [e, ← Nat.pow_succ', ← Nat.pow_add]; congr 1; omega
theorem bt_U (a : Int) {i : Nat} (h : i < 64) : ((U a / 2 ^ i % 2 : Nat) : Int) = bt a i := by
  unfold bt
  rw [Int.natCast_emod, Int.natCast_ediv, U_eq]
  have hp : (0 : Int) < 2 ^ i := Int.pow_pos (by decide)
  have e : (18446744073709551616 : Int) = 2 ^ i * (2 * 2 ^ (63 - i)) := by
    have := pow_split h
    have h2 := congrArg (fun n : Nat => (n : Int)) this
    simpa using h2
  have hd : a % 18446744073709551616 = a - 2 ^ i * (2 * 2 ^ (63 - i)) * (a / 18446744073709551616) := by rw [← e]; omega
  rw [hd, show a - 2 ^ i * (2 * 2 ^ (63 - i)) * (a / 18446744073709551616) = a + 2 ^ i * (-(2 * 2 ^ (63 - i) * (a / 18446744073709551616))) by rw [Int.mul_neg, Int.mul_assoc]; omega]
  simp only [Int.natCast_pow, Int.cast_ofNat_Int]
  rw [Int.add_mul_ediv_left _ _ (by omega), show -(2 * 2 ^ (63 - i) * (a / 18446744073709551616)) = 2 * -(2 ^ (63 - i) * (a / 18446744073709551616)) by rw [Int.mul_neg, Int.mul_assoc]]
  omega

/-- One bit more of a number, from above. -/
theorem one_more (X : Nat) {j : Nat} (h : j < 64) : X / 2 ^ (63 - j) = 2 * (X / 2 ^ (64 - j)) + X / 2 ^ (63 - j) % 2 := by
  have e : X / 2 ^ (64 - j) = X / 2 ^ (63 - j) / 2 := by
    rw [Nat.div_div_eq_div_mul, ← Nat.pow_succ]; congr 2; omega
  rw [e]; omega

/-- What bits make, from the highest on, j of them. -/
def accN (f : Int → Int → Bool) (a b : Int) : Nat → Nat
  | 0 => 0
  | j + 1 => 2 * accN f a b j + if f (bt a (63 - j)) (bt b (63 - j)) = true then 1 else 0
theorem accN_eq (f : Int → Int → Bool) (a b : Int) (X : Nat) (hX : X < 18446744073709551616) (h : ∀ i, i < 64 → X / 2 ^ i % 2 = if f (bt a i) (bt b i) = true then 1 else 0) : ∀ j, j ≤ 64 → accN f a b j = X / 2 ^ (64 - j)
  | 0, _ => by
    have e : (18446744073709551616 : Nat) = 2 ^ 64 := by decide
    rw [e] at hX
    exact (Nat.div_eq_of_lt hX).symm
  | j + 1, hj => by
    have ih := accN_eq f a b X hX h j (by omega)
    have h1 := one_more X (show j < 64 by omega)
    show 2 * accN f a b j + _ = _
    rw [ih, show 64 - (j + 1) = 63 - j by omega, h1, h (63 - j) (by omega)]
theorem accN_all (f : Int → Int → Bool) (a b : Int) (X : Nat) (hX : X < 18446744073709551616) (h : ∀ i, i < 64 → X / 2 ^ i % 2 = if f (bt a i) (bt b i) = true then 1 else 0) : accN f a b 64 = X := by
  rw [accN_eq f a b X hX h 64 (Nat.le_refl _)]; simp
theorem accN_lt (f : Int → Int → Bool) (a b : Int) : ∀ j, accN f a b j < 2 ^ j
  | 0 => by simp [accN]
  | j + 1 => by
    have := accN_lt f a b j
    rw [Nat.pow_succ]
    unfold accN
    split <;> omega

theorem bits_ofInt (a : Int) : (BitVec.ofInt 64 a).toNat = U a := by
  rw [BitVec.toNat_ofInt]; rfl
theorem bits_and (a b : Int) : bits .and .i64 a b = wrap64 ((U a &&& U b : Nat) : Int) := by
  show IntKind.i64.wrap ((BitVec.ofInt 64 a &&& BitVec.ofInt 64 b).toNat : Int) = _
  rw [BitVec.toNat_and, bits_ofInt, bits_ofInt, IntKind.wrap_i64]; simp only [wrap64]
theorem bits_or (a b : Int) : bits .or .i64 a b = wrap64 ((U a ||| U b : Nat) : Int) := by
  show IntKind.i64.wrap ((BitVec.ofInt 64 a ||| BitVec.ofInt 64 b).toNat : Int) = _
  rw [BitVec.toNat_or, bits_ofInt, bits_ofInt, IntKind.wrap_i64]; simp only [wrap64]
theorem bits_xor (a b : Int) : bits .xor .i64 a b = wrap64 ((U a ^^^ U b : Nat) : Int) := by
  show IntKind.i64.wrap ((BitVec.ofInt 64 a ^^^ BitVec.ofInt 64 b).toNat : Int) = _
  rw [BitVec.toNat_xor, bits_ofInt, bits_ofInt, IntKind.wrap_i64]; simp only [wrap64]
theorem bits_andNot (a b : Int) : bits .andNot .i64 a b = wrap64 ((U a &&& (18446744073709551615 - U b) : Nat) : Int) := by
  show IntKind.i64.wrap ((BitVec.ofInt 64 a &&& ~~~BitVec.ofInt 64 b).toNat : Int) = _
  have e : (2 ^ 64 - 1 : Nat) = 18446744073709551615 := by decide
  rw [BitVec.toNat_and, BitVec.toNat_not, bits_ofInt, bits_ofInt, IntKind.wrap_i64, e]; simp only [wrap64]

/-- A bit of a natural number, as a test. -/
theorem bit_test (X i : Nat) : X / 2 ^ i % 2 = if X.testBit i = true then 1 else 0 := by
  rw [Nat.testBit_eq_decide_div_mod_eq]
  have : X / 2 ^ i % 2 = 0 ∨ X / 2 ^ i % 2 = 1 := by omega
  rcases this with h | h <;> simp [h]
theorem bt_test (a : Int) {i : Nat} (h : i < 64) : bt a i = if (U a).testBit i = true then 1 else 0 := by
  rw [← bt_U a h, bit_test]; split <;> rfl

def fAnd (x y : Int) : Bool := x + y == 2
def fOr (x y : Int) : Bool := decide (0 < x + y)
def fXor (x y : Int) : Bool := x + y == 1
def fAndNot (x y : Int) : Bool := x == 1 && y == 0

theorem acc_and (a b : Int) : accN fAnd a b 64 = U a &&& U b :=
  accN_all _ _ _ _ (by have := U_lt a; exact Nat.lt_of_le_of_lt Nat.and_le_left this) fun i hi => by
    rw [bit_test, Nat.testBit_and, bt_test a hi, bt_test b hi]
    unfold fAnd
    cases (U a).testBit i <;> cases (U b).testBit i <;> rfl
theorem acc_or (a b : Int) : accN fOr a b 64 = U a ||| U b :=
  accN_all _ _ _ _ (by have h1 := U_lt a; have h2 := U_lt b; exact Nat.or_lt_two_pow (n := 64) h1 h2) fun i hi => by
    rw [bit_test, Nat.testBit_or, bt_test a hi, bt_test b hi]
    unfold fOr
    cases (U a).testBit i <;> cases (U b).testBit i <;> rfl
theorem acc_xor (a b : Int) : accN fXor a b 64 = U a ^^^ U b :=
  accN_all _ _ _ _ (by have h1 := U_lt a; have h2 := U_lt b; exact Nat.xor_lt_two_pow (n := 64) h1 h2) fun i hi => by
    rw [bit_test, Nat.testBit_xor, bt_test a hi, bt_test b hi]
    unfold fXor
    cases (U a).testBit i <;> cases (U b).testBit i <;> rfl
theorem not_test (x i : Nat) (hx : x < 18446744073709551616) (hi : i < 64) : (18446744073709551615 - x).testBit i = !x.testBit i := by
  have e : 18446744073709551615 - x = 2 ^ 64 - (x + 1) := by
    have : (2 : Nat) ^ 64 = 18446744073709551616 := by decide
    omega
  rw [e, Nat.testBit_two_pow_sub_succ (by exact hx)]
  simp [hi]
theorem acc_andNot (a b : Int) : accN fAndNot a b 64 = U a &&& (18446744073709551615 - U b) :=
  accN_all _ _ _ _ (by have := U_lt a; exact Nat.lt_of_le_of_lt Nat.and_le_left this) fun i hi => by
    rw [bit_test, Nat.testBit_and, not_test _ _ (U_lt b) hi, bt_test a hi, bt_test b hi]
    unfold fAndNot
    cases (U a).testBit i <;> cases (U b).testBit i <;> rfl

/-! ### Long division -/

theorem div_step (N' m b : Nat) (hm : 0 < m) (hb : b < 2) :
    (m ≤ 2 * (N' % m) + b → (2 * N' + b) / m = 2 * (N' / m) + 1 ∧ (2 * N' + b) % m = 2 * (N' % m) + b - m) ∧
    (¬ m ≤ 2 * (N' % m) + b → (2 * N' + b) / m = 2 * (N' / m) ∧ (2 * N' + b) % m = 2 * (N' % m) + b) := by
  have h1 := Nat.div_add_mod N' m
  have h2 := Nat.mod_lt N' hm
  have key : ∀ q r : Nat, r < m → 2 * N' + b = m * q + r → (2 * N' + b) / m = q ∧ (2 * N' + b) % m = r := fun q r hr e => by
    rw [e]
    exact ⟨by rw [Nat.mul_add_div hm, Nat.div_eq_of_lt hr]; omega, by rw [Nat.mul_add_mod, Nat.mod_eq_of_lt hr]⟩
  have e2 : m * (2 * (N' / m)) = 2 * (m * (N' / m)) := by rw [Nat.mul_left_comm]
  refine ⟨fun h => key _ _ (by omega) (by rw [Nat.mul_add, e2, Nat.mul_one]; omega), fun h => key _ _ (by omega) (by rw [e2]; omega)⟩

/-! ### Products, bit by bit -/
theorem prod_step (u B' b : Nat) : (u * (2 * B' + b)) % 18446744073709551616 = (2 * (u * B' % 18446744073709551616) + b * u) % 18446744073709551616 := by
  have e : u * (2 * B' + b) = 2 * (u * B') + b * u := by rw [Nat.mul_add, Nat.mul_left_comm, Nat.mul_comm u b]
  rw [e]
  generalize u * B' = P
  generalize b * u = Q
  omega
theorem prod_all (a b : Int) : wrap64 ((U a * U b % 18446744073709551616 : Nat) : Int) = wrap64 (a * b) := by
  apply w_cong
  rw [Int.natCast_emod, Int.natCast_mul, U_eq, U_eq]
  show (a % 18446744073709551616 * (b % 18446744073709551616)) % 18446744073709551616 % 18446744073709551616 = _
  rw [Int.emod_emod_of_dvd _ (Int.dvd_refl _), ← Int.mul_emod]

end Go.Proofs.YtoljghgmpilecaaDoor
