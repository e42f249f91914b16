/-
  AluBits' walk. Conditions: what Binary and Unary answer (BinC, UnC).
-/
import Derived.Test.YtoljghgmpilecaaARing
namespace Go.Proofs.Ytoljghgmpilecaa
open Go.RowKit

theorem two_and (a b : Int) : twoN 5 a b = bits .and .i64 a b := two_ok (by unfold binN; simp) (by unfold binC; simp) rfl
theorem two_or (a b : Int) : twoN 6 a b = bits .or .i64 a b := two_ok (by unfold binN; simp) (by unfold binC; simp) rfl
theorem two_xor (a b : Int) : twoN 7 a b = bits .xor .i64 a b := two_ok (by unfold binN; simp) (by unfold binC; simp) rfl
theorem two_andNot (a b : Int) : twoN 8 a b = bits .andNot .i64 a b := two_ok (by unfold binN; simp) (by unfold binC; simp) rfl
theorem two_shl (a : Int) (k : Nat) : twoN 9 a k = wrap64 (a * 2 ^ min k 64) := two_ok (by unfold binN; rw [if_neg (by decide), if_neg (by decide), if_neg (by decide), if_neg (by decide), if_neg (by decide), if_neg (by decide), if_neg (by decide), if_neg (by decide), if_neg (by decide), if_pos rfl, if_neg (by omega), Int.toNat_natCast]) (by unfold binC; rw [if_neg (by omega), if_neg (by omega)]) rfl
theorem two_shr (a : Int) (k : Nat) : twoN 10 a k = a / 2 ^ min k 64 := two_ok (by unfold binN; rw [if_neg (by decide), if_neg (by decide), if_neg (by decide), if_neg (by decide), if_neg (by decide), if_neg (by decide), if_neg (by decide), if_neg (by decide), if_neg (by decide), if_neg (by decide), if_pos rfl, if_neg (by omega), Int.toNat_natCast]) (by unfold binC; rw [if_neg (by omega), if_neg (by omega)]) rfl
theorem not_in {a : Int} (h : I64 a) : I64 (-1 - a) := by unfold I64 at *; omega

set_option maxRecDepth 100000 in
set_option maxHeartbeats 8000000 in
theorem bits_walk (B : Hid BinC) (U1 : Hid UnC) (a b : Int) (n : Nat) (w : World) (ha : I64 a) (hb : I64 b) (hn : n ≤ 255) :
    Calls Try.prog 7 #[.int .i64 a, .int .i64 b, .int .u8 (n : Int)] w fun e w' => e = .returned (.bool true) ∧ Keep NoB w w' := by
  have g := Keep.refl NoB w
  have HAl := Lib.hid (fun W => alive_any B U1 W)
  have i (k : Int) (h0 : 0 ≤ k) (h1 : k ≤ 100) : I64 k := by unfold I64; omega
  obtain ⟨k, hk⟩ : ∃ k : Nat, k = n % 70 := ⟨_, rfl⟩
  have hk70 : k < 70 := by omega
  have hkn : (n : Int) % 70 = (k : Int) := by omega
  have hkI : I64 (k : Int) := i _ (by omega) (by omega)
  have iAN : I64 (bits .and .i64 a b) := by rw [bits_and]; exact w_I64 _
  have iXO : I64 (bits .xor .i64 a b) := by rw [bits_xor]; exact w_I64 _
  have iSH := right_in ha (min k 64)
  have H1 := Lib.hid (fun W => two_at B 5 a b _ W (i 5 (by omega) (by omega)) ha hb (two_and a b))
  have H2 := Lib.hid (fun W => two_at B 6 a b _ W (i 6 (by omega) (by omega)) ha hb (two_or a b))
  have H3 := Lib.hid (fun W => two_at B 7 a b _ W (i 7 (by omega) (by omega)) ha hb (two_xor a b))
  have H4 := Lib.hid (fun W => two_at B 10 a k _ W (i 10 (by omega) (by omega)) ha hkI (two_shr a k))
  have H5 := Lib.hid (fun W => two_at B 9 (a / 2 ^ min k 64) k _ W (i 9 (by omega) (by omega)) iSH hkI (two_shl _ k))
  have H6 := Lib.hid (fun W => two_at B 1 a (wrap64 (a / 2 ^ min k 64 * 2 ^ min k 64)) _ W (i 1 (by omega) (by omega)) ha (w_I64 _) (two_sub a _))
  have H7 := Lib.hid (fun W => two_at B 0 (bits .xor .i64 a b) (bits .and .i64 a b) _ W (i 0 (by omega) (by omega)) iXO iAN ((two_add _ _).trans (bits_or_sum a b).symm))
  have H8 := Lib.hid (fun W => two_at B 8 a b _ W (i 8 (by omega) (by omega)) ha hb (two_andNot a b))
  have H9 := Lib.hid (fun W => one_at U1 1 b _ W (i 1 (by omega) (by omega)) hb (one_not b))
  have H10 := Lib.hid (fun W => two_at B 5 a (-1 - b) _ W (i 5 (by omega) (by omega)) ha (not_in hb) ((two_and a _).trans (bits_andNot_not a b).symm))
  have H11 := Lib.hid (fun W => two_at B 7 (bits .xor .i64 a b) b _ W (i 7 (by omega) (by omega)) iXO hb ((two_xor _ b).trans (bits_xor_back b ha)))
  have H12 := Lib.hid (fun W => two_at B 9 a 1 (wrap64 (a + a)) W (i 9 (by omega) (by omega)) ha (i 1 (by omega) (by omega)) ((two_shl a 1).trans (by rw [show min 1 64 = 1 from rfl, Int.pow_one, Int.mul_comm]; congr 1; omega)))
  have H13 := Lib.hid (fun W => two_at B 0 a a _ W (i 0 (by omega) (by omega)) ha ha (two_add a a))
  have H14 := Lib.hid (fun W => one_at U1 1 a _ W (i 1 (by omega) (by omega)) ha (one_not a))
  have H15 := Lib.hid (fun W => one_at U1 1 (-1 - a) a W (i 1 (by omega) (by omega)) (not_in ha) ((one_not _).trans (by omega)))
  have HL : Hid (k < 63 → 0 ≤ wrap64 (a - wrap64 (a / 2 ^ min k 64 * 2 ^ min k 64)) ∧ wrap64 (a - wrap64 (a / 2 ^ min k 64 * 2 ^ min k 64)) < 2 ^ k) := Lib.hid (by
    intro h
    obtain ⟨L, e, l1, l2⟩ := shift_back a h
    rw [show min k 64 = k by omega, e]
    exact ⟨l1, l2⟩)
  clear iAN iXO iSH hkI i hb hk
  generalize wrap64 (a - wrap64 (a / 2 ^ min k 64 * 2 ^ min k 64)) = LO at *
  generalize wrap64 (a / 2 ^ min k 64 * 2 ^ min k 64) = BK at *
  generalize a / 2 ^ min k 64 = SH at *
  generalize bits .and .i64 a b = AN at *
  generalize bits .or .i64 a b = OR at *
  generalize bits .xor .i64 a b = XO at *
  generalize bits .andNot .i64 a b = AD at *
  generalize wrap64 (a + a) = DD at *
  generalize -1 - b = NB at *
  generalize -1 - a = NA at *
  obtain ⟨a1, a2⟩ := ha
  by_cases h63 : 63 ≤ k
  · have h63' : (63 : Int) ≤ (k : Int) := by omega
    clear HL
    go_enter Try.func7, Try.ntmps7
    go_wp2_with fail
    refine (HAl.out _).mono ?_
    rintro e w1 ⟨rfl, k1⟩
    replace g := keepN g k1
    clear k1
    go_wp2_with fail
    refine (H1.out _).mono ?_
    rintro e w2 ⟨rfl, k1⟩
    replace g := keepN g k1
    clear k1
    go_wp2_with fail
    refine (H2.out _).mono ?_
    rintro e w3 ⟨rfl, k1⟩
    replace g := keepN g k1
    clear k1
    go_wp2_with fail
    refine (H3.out _).mono ?_
    rintro e w4 ⟨rfl, k1⟩
    replace g := keepN g k1
    clear k1
    go_wp2_with fail
    refine (H4.out _).mono ?_
    rintro e w5 ⟨rfl, k1⟩
    replace g := keepN g k1
    clear k1
    go_wp2_with fail
    refine (H5.out _).mono ?_
    rintro e w6 ⟨rfl, k1⟩
    replace g := keepN g k1
    clear k1
    go_wp2_with fail
    refine (H6.out _).mono ?_
    rintro e w7 ⟨rfl, k1⟩
    replace g := keepN g k1
    clear k1
    go_wp2_with fail
    refine (H7.out _).mono ?_
    rintro e w8 ⟨rfl, k1⟩
    replace g := keepN g k1
    clear k1
    go_wp2_with fail
    refine (H8.out _).mono ?_
    rintro e w9 ⟨rfl, k1⟩
    replace g := keepN g k1
    clear k1
    go_wp2_with fail
    refine (H9.out _).mono ?_
    rintro e w10 ⟨rfl, k1⟩
    replace g := keepN g k1
    clear k1
    go_wp2_with fail
    refine (H10.out _).mono ?_
    rintro e w11 ⟨rfl, k1⟩
    replace g := keepN g k1
    clear k1
    go_wp2_with fail
    refine (H11.out _).mono ?_
    rintro e w12 ⟨rfl, k1⟩
    replace g := keepN g k1
    clear k1
    go_wp2_with fail
    refine (H12.out _).mono ?_
    rintro e w13 ⟨rfl, k1⟩
    replace g := keepN g k1
    clear k1
    go_wp2_with fail
    refine (H13.out _).mono ?_
    rintro e w14 ⟨rfl, k1⟩
    replace g := keepN g k1
    clear k1
    go_wp2_with fail
    refine (H14.out _).mono ?_
    rintro e w15 ⟨rfl, k1⟩
    replace g := keepN g k1
    clear k1
    go_wp2_with fail
    refine (H15.out _).mono ?_
    rintro e w16 ⟨rfl, k1⟩
    replace g := keepN g k1
    clear k1
    go_wp2
    go_ret
    exact ⟨rfl, g⟩
  · obtain ⟨l1, l2⟩ := HL.out (by omega)
    have h63' : decide ((63 : Int) ≤ (k : Int)) = false := by simp; omega
    have hp : (2 : Int) ^ k ≤ 4611686018427387904 := by
      have : (2 : Nat) ^ k ≤ 2 ^ 62 := Nat.pow_le_pow_right (by decide) (by omega)
      have e : (2 : Int) ^ 62 = 4611686018427387904 := by decide
      rw [← e]; exact_mod_cast this
    have hp0 : (0 : Int) < 2 ^ k := Int.pow_pos (by decide)
    clear HL
    go_enter Try.func7, Try.ntmps7
    go_wp2_with fail
    refine (HAl.out _).mono ?_
    rintro e w1 ⟨rfl, k1⟩
    replace g := keepN g k1
    clear k1
    go_wp2_with fail
    refine (H1.out _).mono ?_
    rintro e w2 ⟨rfl, k1⟩
    replace g := keepN g k1
    clear k1
    go_wp2_with fail
    refine (H2.out _).mono ?_
    rintro e w3 ⟨rfl, k1⟩
    replace g := keepN g k1
    clear k1
    go_wp2_with fail
    refine (H3.out _).mono ?_
    rintro e w4 ⟨rfl, k1⟩
    replace g := keepN g k1
    clear k1
    go_wp2_with fail
    refine (H4.out _).mono ?_
    rintro e w5 ⟨rfl, k1⟩
    replace g := keepN g k1
    clear k1
    go_wp2_with fail
    refine (H5.out _).mono ?_
    rintro e w6 ⟨rfl, k1⟩
    replace g := keepN g k1
    clear k1
    go_wp2_with fail
    refine (H6.out _).mono ?_
    rintro e w7 ⟨rfl, k1⟩
    replace g := keepN g k1
    clear k1
    go_wp2_with fail
    refine (H7.out _).mono ?_
    rintro e w8 ⟨rfl, k1⟩
    replace g := keepN g k1
    clear k1
    go_wp2_with fail
    refine (H8.out _).mono ?_
    rintro e w9 ⟨rfl, k1⟩
    replace g := keepN g k1
    clear k1
    go_wp2_with fail
    refine (H9.out _).mono ?_
    rintro e w10 ⟨rfl, k1⟩
    replace g := keepN g k1
    clear k1
    go_wp2_with fail
    refine (H10.out _).mono ?_
    rintro e w11 ⟨rfl, k1⟩
    replace g := keepN g k1
    clear k1
    go_wp2_with fail
    refine (H11.out _).mono ?_
    rintro e w12 ⟨rfl, k1⟩
    replace g := keepN g k1
    clear k1
    go_wp2_with fail
    refine (H12.out _).mono ?_
    rintro e w13 ⟨rfl, k1⟩
    replace g := keepN g k1
    clear k1
    go_wp2_with fail
    refine (H13.out _).mono ?_
    rintro e w14 ⟨rfl, k1⟩
    replace g := keepN g k1
    clear k1
    go_wp2_with fail
    refine (H14.out _).mono ?_
    rintro e w15 ⟨rfl, k1⟩
    replace g := keepN g k1
    clear k1
    go_wp2_with fail
    refine (H15.out _).mono ?_
    rintro e w16 ⟨rfl, k1⟩
    replace g := keepN g k1
    clear k1
    go_wp2
    go_ret
    exact ⟨rfl, g⟩

end Go.Proofs.Ytoljghgmpilecaa
