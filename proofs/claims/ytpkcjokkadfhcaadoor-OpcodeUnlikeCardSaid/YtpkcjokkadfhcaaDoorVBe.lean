/-
  Plain mathematics of a number's bytes: big-endian digits, their order, what a first byte tells. No program's run is named here. No conditions.
-/
import Derived.Test.YtpkcjokkadfhcaaDoorVEnc
import Derived.Lib.Strings
namespace Go.Proofs.YtpkcjokkadfhcaaDoor.V
open Go.RowKit

/-- The k lowest digits, the highest first. -/
def be : Nat → Nat → List UInt8
  | 0, _ => []
  | k + 1, m => UInt8.ofNat (m / 256 ^ k) :: be k m

theorem be_len : ∀ k m, (be k m).length = k
  | 0, _ => rfl
  | k + 1, m => by simp [be, be_len k m]

theorem u8_eq {x y : Nat} (h : x % 256 = y % 256) : UInt8.ofNat x = UInt8.ofNat y := by
  apply UInt8.toNat_inj.1
  rw [UInt8.toNat_ofNat', UInt8.toNat_ofNat']
  exact h

theorem be_add : ∀ k m c, be k (m + c * 256 ^ k) = be k m
  | 0, _, _ => rfl
  | k + 1, m, c => by
    have e : m + c * 256 ^ (k + 1) = m + (c * 256) * 256 ^ k := by rw [Nat.pow_succ]; ac_rfl
    simp only [be]
    rw [e, be_add k m (c * 256), Nat.add_mul_div_right _ _ (Nat.pow_pos (by omega))]
    congr 1
    exact u8_eq (by omega)
theorem be_mod (k m : Nat) : be k (m % 256 ^ k) = be k m := by
  have h := be_add k (m % 256 ^ k) (m / 256 ^ k)
  rw [← h, Nat.mod_add_div' m (256 ^ k)]

theorem u8_lt {x y : Nat} (hx : x < 256) (hy : y < 256) : (UInt8.ofNat x < UInt8.ofNat y) ↔ x < y := by
  rw [UInt8.lt_iff_toNat_lt, UInt8.toNat_ofNat', UInt8.toNat_ofNat', Nat.mod_eq_of_lt (by simpa using hx), Nat.mod_eq_of_lt (by simpa using hy)]
theorem u8_inj {x y : Nat} (hx : x < 256) (hy : y < 256) : (UInt8.ofNat x = UInt8.ofNat y) ↔ x = y := by
  rw [← UInt8.toNat_inj, UInt8.toNat_ofNat', UInt8.toNat_ofNat', Nat.mod_eq_of_lt (by simpa using hx), Nat.mod_eq_of_lt (by simpa using hy)]

theorem be_less : ∀ k a b, a < 256 ^ k → b < 256 ^ k → Op.bytesLess (be k a) (be k b) = decide (a < b)
  | 0, a, b, ha, hb => by
    have : ¬ a < b := by simp at ha hb; omega
    simp [be, Op.bytesLess, this]
  | k + 1, a, b, ha, hb => by
    have hp : 0 < 256 ^ k := Nat.pow_pos (by omega)
    have ha' : a / 256 ^ k < 256 := by rw [Nat.div_lt_iff_lt_mul hp]; rw [Nat.pow_succ] at ha; omega
    have hb' : b / 256 ^ k < 256 := by rw [Nat.div_lt_iff_lt_mul hp]; rw [Nat.pow_succ] at hb; omega
    have ea := Nat.div_add_mod a (256 ^ k)
    have eb := Nat.div_add_mod b (256 ^ k)
    have ra := Nat.mod_lt a hp
    have rb := Nat.mod_lt b hp
    simp only [be, Op.bytesLess]
    rw [← be_mod k a, ← be_mod k b, be_less k _ _ ra rb]
    rw [Bool.eq_iff_iff]
    simp only [Bool.or_eq_true, decide_eq_true_eq, Bool.and_eq_true, beq_iff_eq, u8_lt ha' hb', u8_inj ha' hb']
    generalize a / 256 ^ k = qa at *
    generalize b / 256 ^ k = qb at *
    generalize a % 256 ^ k = ma at *
    generalize b % 256 ^ k = mb at *
    generalize 256 ^ k = p at *
    constructor
    · rintro (h | ⟨h, h'⟩)
      · have : p * (qa + 1) ≤ p * qb := Nat.mul_le_mul_left _ h
        rw [Nat.mul_add] at this; omega
      · subst h; omega
    · intro h
      rcases Nat.lt_trichotomy qa qb with h1 | h1 | h1
      · exact .inl h1
      · subst h1; exact .inr ⟨rfl, by omega⟩
      · exfalso
        have : p * (qb + 1) ≤ p * qa := Nat.mul_le_mul_left _ h1
        rw [Nat.mul_add] at this; omega

theorem be_inj (k a b : Nat) (ha : a < 256 ^ k) (hb : b < 256 ^ k) (h : be k a = be k b) : a = b := by
  have h1 := be_less k a b ha hb
  have h2 := be_less k b a hb ha
  rw [h] at h1
  rw [h] at h2
  have h3 : Op.bytesLess (be k b) (be k b) = decide (b < b) := be_less k b b hb hb
  rw [h3] at h1 h2
  simp at h1 h2
  omega

/-- A number with its mark. -/
def nb (n : Nat) : Nat := mk (wd n) * 256 ^ (wd n - 1) + n

theorem or_add (i x y : Nat) (hx : x < 2 ^ i) (hy : y % 2 ^ i = 0) : x ||| y = y + x := by
  rw [Nat.or_comm]; exact nat_join i y x hy hx

theorem head_eq (x y m i : Nat) (hx : x < 2 ^ i) (hm : m % 2 ^ i = 0) (hs : m + x < 256) (hy : y % 256 = m + x) : UInt8.ofNat x ||| UInt8.ofNat m = UInt8.ofNat y := by
  apply UInt8.toNat_inj.1
  rw [UInt8.toNat_or, UInt8.toNat_ofNat', UInt8.toNat_ofNat', UInt8.toNat_ofNat', Nat.mod_eq_of_lt (show x < 2 ^ 8 by omega), Nat.mod_eq_of_lt (show m < 2 ^ 8 by omega), or_add i x m hx hm]
  exact hy.symm

theorem mk_vals : mk 1 = 0 ∧ mk 2 = 128 ∧ mk 3 = 192 ∧ mk 4 = 224 ∧ mk 5 = 240 ∧ mk 6 = 248 ∧ mk 7 = 252 ∧ mk 8 = 254 ∧ mk 9 = 255 := by decide

theorem encL_be (n : Nat) (hn : n < 18446744073709551616) : encL n = be (wd n) (nb n) := by
  obtain ⟨m1, m2, m3, m4, m5, m6, m7, m8, m9⟩ := mk_vals
  have hw1 := wd_pos n
  have hw9 := wd_le n
  have hlt := wd_lt n
  have hc : wd n = 1 ∨ wd n = 2 ∨ wd n = 3 ∨ wd n = 4 ∨ wd n = 5 ∨ wd n = 6 ∨ wd n = 7 ∨ wd n = 8 ∨ wd n = 9 := by omega
  have ed : down 9 = [8, 7, 6, 5, 4, 3, 2, 1, 0] := by decide
  unfold encL encF nb
  rw [ed]
  rcases hc with h | h | h | h | h | h | h | h | h
  all_goals
    rw [h] at hlt
    simp [encB, dgt, be, h, m1, m2, m3, m4, m5, m6, m7, m8, m9]
  · exact u8_eq (by omega)
  all_goals
    repeat' apply And.intro
  all_goals first
    | exact u8_eq (by omega)
    | exact head_eq _ _ 128 6 (by omega) (by decide) (by omega) (by omega)
    | exact head_eq _ _ 192 5 (by omega) (by decide) (by omega) (by omega)
    | exact head_eq _ _ 224 4 (by omega) (by decide) (by omega) (by omega)
    | exact head_eq _ _ 240 3 (by omega) (by decide) (by omega) (by omega)
    | exact head_eq _ _ 248 2 (by omega) (by decide) (by omega) (by omega)
    | exact head_eq _ _ 252 1 (by omega) (by decide) (by omega) (by omega)
    | exact head_eq _ _ 254 0 (by omega) (by decide) (by omega) (by omega)
    | exact head_eq _ _ 255 0 (by omega) (by decide) (by omega) (by omega)

theorem encL_length (n : Nat) (hn : n < 18446744073709551616) : (encL n).length = wd n := by rw [encL_be n hn, be_len]

/-- The first byte, as a number. -/
def hd (n : Nat) : Nat := mk (wd n) + n / 256 ^ (wd n - 1)

theorem nb_div (n : Nat) : nb n / 256 ^ (wd n - 1) = hd n := by
  unfold nb hd
  rw [Nat.add_comm, Nat.add_mul_div_right _ _ (Nat.pow_pos (by omega)), Nat.add_comm]

theorem hd_rng (n : Nat) (hn : n < 18446744073709551616) : mk (wd n) ≤ hd n ∧ hd n < 256 ∧ (wd n < 9 → hd n < mk (wd n + 1)) := by
  obtain ⟨m1, m2, m3, m4, m5, m6, m7, m8, m9⟩ := mk_vals
  have hw1 := wd_pos n
  have hw9 := wd_le n
  have hlt := wd_lt n
  unfold hd
  have hc : wd n = 1 ∨ wd n = 2 ∨ wd n = 3 ∨ wd n = 4 ∨ wd n = 5 ∨ wd n = 6 ∨ wd n = 7 ∨ wd n = 8 ∨ wd n = 9 := by omega
  rcases hc with h | h | h | h | h | h | h | h | h
  all_goals
    rw [h] at hlt ⊢
    simp only [m1, m2, m3, m4, m5, m6, m7, m8, m9, Nat.reduceAdd, Nat.reduceSub, Nat.reducePow, Nat.reduceMul] at hlt ⊢
    omega

theorem mk_mono (i j : Nat) (h1 : 1 ≤ i) (h : i ≤ j) (h9 : j ≤ 9) : mk i ≤ mk j := by
  obtain ⟨m1, m2, m3, m4, m5, m6, m7, m8, m9⟩ := mk_vals
  have hi : i = 1 ∨ i = 2 ∨ i = 3 ∨ i = 4 ∨ i = 5 ∨ i = 6 ∨ i = 7 ∨ i = 8 ∨ i = 9 := by omega
  have hj : j = 1 ∨ j = 2 ∨ j = 3 ∨ j = 4 ∨ j = 5 ∨ j = 6 ∨ j = 7 ∨ j = 8 ∨ j = 9 := by omega
  rcases hi with rfl | rfl | rfl | rfl | rfl | rfl | rfl | rfl | rfl <;> rcases hj with rfl | rfl | rfl | rfl | rfl | rfl | rfl | rfl | rfl <;> omega

theorem hd_lt (a b : Nat) (ha : a < 18446744073709551616) (hb : b < 18446744073709551616) (h : wd a < wd b) : hd a < hd b := by
  have h1 := (hd_rng a ha).2.2 (by have := wd_le b; omega)
  have h2 := (hd_rng b hb).1
  have h3 := mk_mono (wd a + 1) (wd b) (by omega) h (wd_le b)
  omega

theorem nb_lt (n : Nat) (hn : n < 18446744073709551616) : nb n < 256 ^ wd n := by
  have h := (hd_rng n hn).2.1
  have hw1 := wd_pos n
  have h2 := nb_div n
  have e : 256 ^ wd n = 256 * 256 ^ (wd n - 1) := by
    rw [← Nat.pow_succ', show (wd n - 1).succ = wd n from by omega]
  rw [e]
  rw [← h2] at h
  exact (Nat.div_lt_iff_lt_mul (Nat.pow_pos (by omega))).1 h

theorem encL_cons (n : Nat) (hn : n < 18446744073709551616) : encL n = UInt8.ofNat (hd n) :: be (wd n - 1) (nb n) := by
  have hw1 := wd_pos n
  obtain ⟨k, hk⟩ : ∃ k, wd n = k + 1 := ⟨wd n - 1, by omega⟩
  have h2 := nb_div n
  rw [encL_be n hn, hk]
  rw [hk] at h2
  simp only [be, Nat.add_sub_cancel] at h2 ⊢
  rw [h2]

theorem nb_cmp (a b : Nat) (h : wd a = wd b) : decide (nb a < nb b) = decide (a < b) := by
  unfold nb; rw [h, Bool.eq_iff_iff]; simp

/-- Numbers stand in order as their bytes do. -/
theorem encL_less (a b : Nat) (ha : a < 18446744073709551616) (hb : b < 18446744073709551616) : Op.bytesLess (encL a) (encL b) = decide (a < b) := by
  rcases Nat.lt_trichotomy (wd a) (wd b) with h | h | h
  · have h1 := hd_lt a b ha hb h
    have hlt : a < b := by
      rcases Nat.lt_or_ge a b with h' | h'
      · exact h'
      · have := wd_mono h'; omega
    rw [encL_cons a ha, encL_cons b hb]
    simp only [Op.bytesLess]
    rw [Bool.eq_iff_iff]
    simp [(u8_lt (hd_rng a ha).2.1 (hd_rng b hb).2.1).2 h1, hlt]
  · rw [encL_be a ha, encL_be b hb, h, be_less _ _ _ (by have := nb_lt a ha; rwa [h] at this) (nb_lt b hb), nb_cmp a b h]
  · have h1 := hd_lt b a hb ha h
    have hlt : ¬ a < b := fun h' => by have := wd_mono (Nat.le_of_lt h'); omega
    rw [encL_cons a ha, encL_cons b hb]
    simp only [Op.bytesLess]
    have e1 : ¬ UInt8.ofNat (hd a) < UInt8.ofNat (hd b) := fun e => by
      have := (u8_lt (hd_rng a ha).2.1 (hd_rng b hb).2.1).1 e; omega
    have e2 : ¬ UInt8.ofNat (hd a) = UInt8.ofNat (hd b) := fun e => by
      have := (u8_inj (hd_rng a ha).2.1 (hd_rng b hb).2.1).1 e; omega
    rw [Bool.eq_iff_iff]
    simp [e1, e2, hlt]

theorem encL_inj (a b : Nat) (ha : a < 18446744073709551616) (hb : b < 18446744073709551616) (h : encL a = encL b) : a = b := by
  have h1 := encL_less a b ha hb
  have h2 := encL_less b a hb ha
  have h3 := encL_less b b hb hb
  rw [h, h3] at h1 h2
  simp at h1 h2
  omega

/-- No number's bytes are the beginning of another one's. -/
theorem encL_prefix (a b : Nat) (ha : a < 18446744073709551616) (hb : b < 18446744073709551616) : Lib.hasPrefix (encL b) (encL a) = decide (a = b) := by
  unfold Lib.hasPrefix
  by_cases hw : wd a = wd b
  · rw [Bool.eq_iff_iff, List.isPrefixOf_iff_prefix, decide_eq_true_eq]
    constructor
    · intro h
      have hl : (encL a).length = (encL b).length := by rw [encL_length a ha, encL_length b hb, hw]
      exact encL_inj a b ha hb (h.eq_of_length hl)
    · rintro rfl
      exact List.prefix_rfl
  · have hne : a ≠ b := fun e => hw (by rw [e])
    have hh : hd a ≠ hd b := fun e => by
      rcases Nat.lt_or_ge (wd a) (wd b) with h | h
      · have := hd_lt a b ha hb h; omega
      · have := hd_lt b a hb ha (by omega); omega
    rw [encL_cons a ha, encL_cons b hb]
    have e2 : ¬ UInt8.ofNat (hd a) = UInt8.ofNat (hd b) := fun e => hh ((u8_inj (hd_rng a ha).2.1 (hd_rng b hb).2.1).1 e)
    simp [List.isPrefixOf, e2, hne]

end Go.Proofs.YtpkcjokkadfhcaaDoor.V
