/-
  AluConverts' walk. Conditions: what Binary and Unary answer (BinC, UnC).
-/
import Derived.Test.YtoljghgmpilecaaABits
namespace Go.Proofs.Ytoljghgmpilecaa
open Go.RowKit

theorem mask_zero (d : Int) (m : Nat) (M : Int) (hM : M = 2 ^ m - 1) (hm : m ≤ 32) (hd : d % 2 ^ m = 0) : bits .and .i64 d M = 0 := by
  have hp : (2 : Nat) ^ m ≤ 2 ^ 32 := Nat.pow_le_pow_right (by decide) hm
  have e32 : (2 : Nat) ^ 32 = 4294967296 := by decide
  have hp1 : 1 ≤ (2 : Nat) ^ m := Nat.two_pow_pos m
  have e : (2 : Int) ^ m = ((2 ^ m : Nat) : Int) := by simp
  have hU : U M = 2 ^ m - 1 := by rw [hM, e]; unfold U; omega
  have hd2 : U d % 2 ^ m = 0 := by
    have h64 : (18446744073709551616 : Int) = 2 ^ m * 2 ^ (64 - m) := by
      rw [← Int.pow_add, show m + (64 - m) = 64 by omega]; rfl
    have h1 : ((U d % 2 ^ m : Nat) : Int) = d % 2 ^ m := by
      rw [Int.natCast_emod, U_eq, ← e, h64, Int.emod_emod_of_dvd _ ⟨_, rfl⟩]
    rw [hd] at h1
    exact_mod_cast h1
  rw [bits_and, hU, Nat.and_two_pow_sub_one_eq_mod, hd2]
  exact w_in (by unfold I64; omega)
theorem two_mask (d : Int) (m : Nat) (M : Int) (hM : M = 2 ^ m - 1) (hm : m ≤ 32) (hd : d % 2 ^ m = 0) : twoN 5 d M = 0 := (two_and d M).trans (mask_zero d m M hM hm hd)

theorem cv_i8 (a : Int) : ∃ q : Int, IntKind.i8.wrap a = a + 256 * q ∧ -128 ≤ a + 256 * q ∧ a + 256 * q ≤ 127 := by
  refine ⟨(IntKind.i8.wrap a - a) / 256, ?_⟩
  simp only [IntKind.wrap, IntKind.bits, IntKind.signed]; simp; split <;> omega
theorem cv_i16 (a : Int) : ∃ q : Int, IntKind.i16.wrap a = a + 65536 * q ∧ -32768 ≤ a + 65536 * q ∧ a + 65536 * q ≤ 32767 := by
  refine ⟨(IntKind.i16.wrap a - a) / 65536, ?_⟩
  simp only [IntKind.wrap, IntKind.bits, IntKind.signed]; simp; split <;> omega
theorem cv_i32 (a : Int) : ∃ q : Int, IntKind.i32.wrap a = a + 4294967296 * q ∧ -2147483648 ≤ a + 4294967296 * q ∧ a + 4294967296 * q ≤ 2147483647 := by
  refine ⟨(IntKind.i32.wrap a - a) / 4294967296, ?_⟩
  rw [IntKind.wrap_i32]; omega
theorem cv_u8 (a : Int) : ∃ q : Int, IntKind.u8.wrap a = a + 256 * q ∧ 0 ≤ a + 256 * q ∧ a + 256 * q ≤ 255 := by
  refine ⟨(IntKind.u8.wrap a - a) / 256, ?_⟩
  rw [IntKind.wrap_u8]; omega
theorem cv_u16 (a : Int) : ∃ q : Int, IntKind.u16.wrap a = a + 65536 * q ∧ 0 ≤ a + 65536 * q ∧ a + 65536 * q ≤ 65535 := by
  refine ⟨(IntKind.u16.wrap a - a) / 65536, ?_⟩
  rw [IntKind.wrap_u16]; omega
theorem cv_u32 (a : Int) : ∃ q : Int, IntKind.u32.wrap a = a + 4294967296 * q ∧ 0 ≤ a + 4294967296 * q ∧ a + 4294967296 * q ≤ 4294967295 := by
  refine ⟨(IntKind.u32.wrap a - a) / 4294967296, ?_⟩
  rw [IntKind.wrap_u32]; omega

set_option maxRecDepth 100000 in
set_option maxHeartbeats 8000000 in
theorem converts_i8 (B : Hid BinC) (U1 : Hid UnC) (a : Int) (n : Nat) (w : World) (ha : I64 a) (hn : n ≤ 255) (hr : (n : Int) % 6 = 0) :
    Calls Try.prog 8 #[.int .i64 a, .int .u8 (n : Int)] w fun e w' => e = .returned (.bool true) ∧ Keep NoB w w' := by
  have g := Keep.refl NoB w
  have HAl := Lib.hid (fun W => alive_any B U1 W)
  have i (k : Int) (h0 : 0 ≤ k) (h1 : k ≤ 4294967296) : I64 k := by unfold I64; omega
  obtain ⟨q, hq, hlo, hhi⟩ := cv_i8 a
  have hN : ∃ N : Int, N = a + 256 * q := ⟨_, rfl⟩
  obtain ⟨N, hN⟩ := hN
  rw [← hN] at hq hlo hhi
  have iN : I64 N := by unfold I64; omega
  have hNN : IntKind.i8.wrap N = N := by
    obtain ⟨q2, e2, l2, h2⟩ := cv_i8 N
    rw [e2]; omega
  have H1 := Lib.hid (fun W => one_at U1 3 a N W (i 3 (by omega) (by omega)) ha (one_ok ((un_i8 a).trans hq) rfl))
  have H2 : Hid (∀ W : World, Calls Try.prog 12 #[.int .i64 3, .int .i64 N] W fun e w' => e = .returned (.tuple #[.int .i64 N, .int .i64 0]) ∧ Keep NoB W w') := Lib.hid (fun W => by
    have h := runary_any 3 N W iN
    rw [(un_i8 N).trans hNN, show unE 3 = 0 from rfl] at h
    exact h.mono fun e w' ⟨h1, h2⟩ => ⟨h1, by subst h2; exact Keep.refl _ _⟩)
  have H3 := Lib.hid (fun W => one_at U1 3 N N W (i 3 (by omega) (by omega)) iN (one_ok ((un_i8 N).trans hNN) rfl))
  have H4 := Lib.hid (fun W => two_at B 1 a N _ W (i 1 (by omega) (by omega)) ha iN (two_sub a N))
  have hdv : wrap64 (a - N) % 2 ^ 8 = 0 := by
    have e : (2 : Int) ^ 8 = 256 := by decide
    rw [e]
    unfold wrap64; omega
  have H5 := Lib.hid (fun W => two_at B 5 (wrap64 (a - N)) 255 0 W (i 5 (by omega) (by omega)) (w_I64 _) (i _ (by omega) (by omega)) (two_mask _ 8 255 (by decide) (by omega) hdv))
  have hcase : (N = a ∧ -128 ≤ a ∧ a ≤ 127) ∨ (N ≠ a ∧ a < -128) ∨ (N ≠ a ∧ 127 < a) := by omega
  obtain ⟨a1, a2⟩ := ha
  clear hdv hN hq hNN iN i
  generalize wrap64 (a - N) = D at H4 H5
  rcases hcase with ⟨rfl, c1, c2⟩ | ⟨c0, c1⟩ | ⟨c0, c1⟩
  · go_enter Try.func8, Try.ntmps8
    go_wp2_with fail
    refine (HAl.out _).mono ?_
    rintro e w1 ⟨rfl, k1⟩
    replace g := keepN g k1
    clear k1
    go_wp2_with fail
    refine (H1.out _).mono ?_
    rintro e w2 ⟨rfl, k1⟩
    replace g := keepN (g.alloc _) k1
    clear k1
    go_wp2_with fail
    refine (H2.out _).mono ?_
    rintro e w3 ⟨rfl, k1⟩
    replace g := keepN g k1
    clear k1
    go_wp2_with fail
    refine (H3.out _).mono ?_
    rintro e w4 ⟨rfl, k1⟩
    replace g := keepN g k1
    clear k1
    go_wp2_with fail
    refine (H4.out _).mono ?_
    rintro e w5 ⟨rfl, k1⟩
    replace g := keepN g k1
    clear k1
    go_wp2_with fail
    refine (H5.out _).mono ?_
    rintro e w6 ⟨rfl, k1⟩
    replace g := keepN g k1
    clear k1
    go_wp2
    go_ret
    exact ⟨rfl, g⟩
  · have c0' : (N == a) = false := by simpa using c0
    have c1' : decide (-128 ≤ a) = false := by simp; omega
    go_enter Try.func8, Try.ntmps8
    go_wp2_with fail
    refine (HAl.out _).mono ?_
    rintro e w1 ⟨rfl, k1⟩
    replace g := keepN g k1
    clear k1
    go_wp2_with fail
    refine (H1.out _).mono ?_
    rintro e w2 ⟨rfl, k1⟩
    replace g := keepN (g.alloc _) k1
    clear k1
    go_wp2_with fail
    refine (H2.out _).mono ?_
    rintro e w3 ⟨rfl, k1⟩
    replace g := keepN g k1
    clear k1
    go_wp2_with fail
    refine (H3.out _).mono ?_
    rintro e w4 ⟨rfl, k1⟩
    replace g := keepN g k1
    clear k1
    go_wp2_with fail
    refine (H4.out _).mono ?_
    rintro e w5 ⟨rfl, k1⟩
    replace g := keepN g k1
    clear k1
    go_wp2_with fail
    refine (H5.out _).mono ?_
    rintro e w6 ⟨rfl, k1⟩
    replace g := keepN g k1
    clear k1
    go_wp2
    go_ret
    exact ⟨rfl, g⟩
  · have c0' : (N == a) = false := by simpa using c0
    have c1' : decide (a ≤ 127) = false := by simp; omega
    have c2' : -128 ≤ a := by omega
    go_enter Try.func8, Try.ntmps8
    go_wp2_with fail
    refine (HAl.out _).mono ?_
    rintro e w1 ⟨rfl, k1⟩
    replace g := keepN g k1
    clear k1
    go_wp2_with fail
    refine (H1.out _).mono ?_
    rintro e w2 ⟨rfl, k1⟩
    replace g := keepN (g.alloc _) k1
    clear k1
    go_wp2_with fail
    refine (H2.out _).mono ?_
    rintro e w3 ⟨rfl, k1⟩
    replace g := keepN g k1
    clear k1
    go_wp2_with fail
    refine (H3.out _).mono ?_
    rintro e w4 ⟨rfl, k1⟩
    replace g := keepN g k1
    clear k1
    go_wp2_with fail
    refine (H4.out _).mono ?_
    rintro e w5 ⟨rfl, k1⟩
    replace g := keepN g k1
    clear k1
    go_wp2_with fail
    refine (H5.out _).mono ?_
    rintro e w6 ⟨rfl, k1⟩
    replace g := keepN g k1
    clear k1
    go_wp2
    go_ret
    exact ⟨rfl, g⟩

set_option maxRecDepth 100000 in
set_option maxHeartbeats 8000000 in
theorem converts_i16 (B : Hid BinC) (U1 : Hid UnC) (a : Int) (n : Nat) (w : World) (ha : I64 a) (hn : n ≤ 255) (hr : (n : Int) % 6 = 1) :
    Calls Try.prog 8 #[.int .i64 a, .int .u8 (n : Int)] w fun e w' => e = .returned (.bool true) ∧ Keep NoB w w' := by
  have g := Keep.refl NoB w
  have HAl := Lib.hid (fun W => alive_any B U1 W)
  have i (k : Int) (h0 : 0 ≤ k) (h1 : k ≤ 4294967296) : I64 k := by unfold I64; omega
  obtain ⟨q, hq, hlo, hhi⟩ := cv_i16 a
  have hN : ∃ N : Int, N = a + 65536 * q := ⟨_, rfl⟩
  obtain ⟨N, hN⟩ := hN
  rw [← hN] at hq hlo hhi
  have iN : I64 N := by unfold I64; omega
  have hNN : IntKind.i16.wrap N = N := by
    obtain ⟨q2, e2, l2, h2⟩ := cv_i16 N
    rw [e2]; omega
  have H1 := Lib.hid (fun W => one_at U1 4 a N W (i 4 (by omega) (by omega)) ha (one_ok ((un_i16 a).trans hq) rfl))
  have H2 : Hid (∀ W : World, Calls Try.prog 12 #[.int .i64 4, .int .i64 N] W fun e w' => e = .returned (.tuple #[.int .i64 N, .int .i64 0]) ∧ Keep NoB W w') := Lib.hid (fun W => by
    have h := runary_any 4 N W iN
    rw [(un_i16 N).trans hNN, show unE 4 = 0 from rfl] at h
    exact h.mono fun e w' ⟨h1, h2⟩ => ⟨h1, by subst h2; exact Keep.refl _ _⟩)
  have H3 := Lib.hid (fun W => one_at U1 4 N N W (i 4 (by omega) (by omega)) iN (one_ok ((un_i16 N).trans hNN) rfl))
  have H4 := Lib.hid (fun W => two_at B 1 a N _ W (i 1 (by omega) (by omega)) ha iN (two_sub a N))
  have hdv : wrap64 (a - N) % 2 ^ 16 = 0 := by
    have e : (2 : Int) ^ 16 = 65536 := by decide
    rw [e]
    unfold wrap64; omega
  have H5 := Lib.hid (fun W => two_at B 5 (wrap64 (a - N)) 65535 0 W (i 5 (by omega) (by omega)) (w_I64 _) (i _ (by omega) (by omega)) (two_mask _ 16 65535 (by decide) (by omega) hdv))
  have hcase : (N = a ∧ -32768 ≤ a ∧ a ≤ 32767) ∨ (N ≠ a ∧ a < -32768) ∨ (N ≠ a ∧ 32767 < a) := by omega
  obtain ⟨a1, a2⟩ := ha
  clear hdv hN hq hNN iN i
  generalize wrap64 (a - N) = D at H4 H5
  rcases hcase with ⟨rfl, c1, c2⟩ | ⟨c0, c1⟩ | ⟨c0, c1⟩
  · go_enter Try.func8, Try.ntmps8
    go_wp2_with fail
    refine (HAl.out _).mono ?_
    rintro e w1 ⟨rfl, k1⟩
    replace g := keepN g k1
    clear k1
    go_wp2_with fail
    refine (H1.out _).mono ?_
    rintro e w2 ⟨rfl, k1⟩
    replace g := keepN (g.alloc _) k1
    clear k1
    go_wp2_with fail
    refine (H2.out _).mono ?_
    rintro e w3 ⟨rfl, k1⟩
    replace g := keepN g k1
    clear k1
    go_wp2_with fail
    refine (H3.out _).mono ?_
    rintro e w4 ⟨rfl, k1⟩
    replace g := keepN g k1
    clear k1
    go_wp2_with fail
    refine (H4.out _).mono ?_
    rintro e w5 ⟨rfl, k1⟩
    replace g := keepN g k1
    clear k1
    go_wp2_with fail
    refine (H5.out _).mono ?_
    rintro e w6 ⟨rfl, k1⟩
    replace g := keepN g k1
    clear k1
    go_wp2
    go_ret
    exact ⟨rfl, g⟩
  · have c0' : (N == a) = false := by simpa using c0
    have c1' : decide (-32768 ≤ a) = false := by simp; omega
    go_enter Try.func8, Try.ntmps8
    go_wp2_with fail
    refine (HAl.out _).mono ?_
    rintro e w1 ⟨rfl, k1⟩
    replace g := keepN g k1
    clear k1
    go_wp2_with fail
    refine (H1.out _).mono ?_
    rintro e w2 ⟨rfl, k1⟩
    replace g := keepN (g.alloc _) k1
    clear k1
    go_wp2_with fail
    refine (H2.out _).mono ?_
    rintro e w3 ⟨rfl, k1⟩
    replace g := keepN g k1
    clear k1
    go_wp2_with fail
    refine (H3.out _).mono ?_
    rintro e w4 ⟨rfl, k1⟩
    replace g := keepN g k1
    clear k1
    go_wp2_with fail
    refine (H4.out _).mono ?_
    rintro e w5 ⟨rfl, k1⟩
    replace g := keepN g k1
    clear k1
    go_wp2_with fail
    refine (H5.out _).mono ?_
    rintro e w6 ⟨rfl, k1⟩
    replace g := keepN g k1
    clear k1
    go_wp2
    go_ret
    exact ⟨rfl, g⟩
  · have c0' : (N == a) = false := by simpa using c0
    have c1' : decide (a ≤ 32767) = false := by simp; omega
    have c2' : -32768 ≤ a := by omega
    go_enter Try.func8, Try.ntmps8
    go_wp2_with fail
    refine (HAl.out _).mono ?_
    rintro e w1 ⟨rfl, k1⟩
    replace g := keepN g k1
    clear k1
    go_wp2_with fail
    refine (H1.out _).mono ?_
    rintro e w2 ⟨rfl, k1⟩
    replace g := keepN (g.alloc _) k1
    clear k1
    go_wp2_with fail
    refine (H2.out _).mono ?_
    rintro e w3 ⟨rfl, k1⟩
    replace g := keepN g k1
    clear k1
    go_wp2_with fail
    refine (H3.out _).mono ?_
    rintro e w4 ⟨rfl, k1⟩
    replace g := keepN g k1
    clear k1
    go_wp2_with fail
    refine (H4.out _).mono ?_
    rintro e w5 ⟨rfl, k1⟩
    replace g := keepN g k1
    clear k1
    go_wp2_with fail
    refine (H5.out _).mono ?_
    rintro e w6 ⟨rfl, k1⟩
    replace g := keepN g k1
    clear k1
    go_wp2
    go_ret
    exact ⟨rfl, g⟩

set_option maxRecDepth 100000 in
set_option maxHeartbeats 8000000 in
theorem converts_i32 (B : Hid BinC) (U1 : Hid UnC) (a : Int) (n : Nat) (w : World) (ha : I64 a) (hn : n ≤ 255) (hr : (n : Int) % 6 = 2) :
    Calls Try.prog 8 #[.int .i64 a, .int .u8 (n : Int)] w fun e w' => e = .returned (.bool true) ∧ Keep NoB w w' := by
  have g := Keep.refl NoB w
  have HAl := Lib.hid (fun W => alive_any B U1 W)
  have i (k : Int) (h0 : 0 ≤ k) (h1 : k ≤ 4294967296) : I64 k := by unfold I64; omega
  obtain ⟨q, hq, hlo, hhi⟩ := cv_i32 a
  have hN : ∃ N : Int, N = a + 4294967296 * q := ⟨_, rfl⟩
  obtain ⟨N, hN⟩ := hN
  rw [← hN] at hq hlo hhi
  have iN : I64 N := by unfold I64; omega
  have hNN : IntKind.i32.wrap N = N := by
    obtain ⟨q2, e2, l2, h2⟩ := cv_i32 N
    rw [e2]; omega
  have H1 := Lib.hid (fun W => one_at U1 5 a N W (i 5 (by omega) (by omega)) ha (one_ok ((un_i32 a).trans hq) rfl))
  have H2 : Hid (∀ W : World, Calls Try.prog 12 #[.int .i64 5, .int .i64 N] W fun e w' => e = .returned (.tuple #[.int .i64 N, .int .i64 0]) ∧ Keep NoB W w') := Lib.hid (fun W => by
    have h := runary_any 5 N W iN
    rw [(un_i32 N).trans hNN, show unE 5 = 0 from rfl] at h
    exact h.mono fun e w' ⟨h1, h2⟩ => ⟨h1, by subst h2; exact Keep.refl _ _⟩)
  have H3 := Lib.hid (fun W => one_at U1 5 N N W (i 5 (by omega) (by omega)) iN (one_ok ((un_i32 N).trans hNN) rfl))
  have H4 := Lib.hid (fun W => two_at B 1 a N _ W (i 1 (by omega) (by omega)) ha iN (two_sub a N))
  have hdv : wrap64 (a - N) % 2 ^ 32 = 0 := by
    have e : (2 : Int) ^ 32 = 4294967296 := by decide
    rw [e]
    unfold wrap64; omega
  have H5 := Lib.hid (fun W => two_at B 5 (wrap64 (a - N)) 4294967295 0 W (i 5 (by omega) (by omega)) (w_I64 _) (i _ (by omega) (by omega)) (two_mask _ 32 4294967295 (by decide) (by omega) hdv))
  have hcase : (N = a ∧ -2147483648 ≤ a ∧ a ≤ 2147483647) ∨ (N ≠ a ∧ a < -2147483648) ∨ (N ≠ a ∧ 2147483647 < a) := by omega
  obtain ⟨a1, a2⟩ := ha
  clear hdv hN hq hNN iN i
  generalize wrap64 (a - N) = D at H4 H5
  rcases hcase with ⟨rfl, c1, c2⟩ | ⟨c0, c1⟩ | ⟨c0, c1⟩
  · go_enter Try.func8, Try.ntmps8
    go_wp2_with fail
    refine (HAl.out _).mono ?_
    rintro e w1 ⟨rfl, k1⟩
    replace g := keepN g k1
    clear k1
    go_wp2_with fail
    refine (H1.out _).mono ?_
    rintro e w2 ⟨rfl, k1⟩
    replace g := keepN (g.alloc _) k1
    clear k1
    go_wp2_with fail
    refine (H2.out _).mono ?_
    rintro e w3 ⟨rfl, k1⟩
    replace g := keepN g k1
    clear k1
    go_wp2_with fail
    refine (H3.out _).mono ?_
    rintro e w4 ⟨rfl, k1⟩
    replace g := keepN g k1
    clear k1
    go_wp2_with fail
    refine (H4.out _).mono ?_
    rintro e w5 ⟨rfl, k1⟩
    replace g := keepN g k1
    clear k1
    go_wp2_with fail
    refine (H5.out _).mono ?_
    rintro e w6 ⟨rfl, k1⟩
    replace g := keepN g k1
    clear k1
    go_wp2
    go_ret
    exact ⟨rfl, g⟩
  · have c0' : (N == a) = false := by simpa using c0
    have c1' : decide (-2147483648 ≤ a) = false := by simp; omega
    go_enter Try.func8, Try.ntmps8
    go_wp2_with fail
    refine (HAl.out _).mono ?_
    rintro e w1 ⟨rfl, k1⟩
    replace g := keepN g k1
    clear k1
    go_wp2_with fail
    refine (H1.out _).mono ?_
    rintro e w2 ⟨rfl, k1⟩
    replace g := keepN (g.alloc _) k1
    clear k1
    go_wp2_with fail
    refine (H2.out _).mono ?_
    rintro e w3 ⟨rfl, k1⟩
    replace g := keepN g k1
    clear k1
    go_wp2_with fail
    refine (H3.out _).mono ?_
    rintro e w4 ⟨rfl, k1⟩
    replace g := keepN g k1
    clear k1
    go_wp2_with fail
    refine (H4.out _).mono ?_
    rintro e w5 ⟨rfl, k1⟩
    replace g := keepN g k1
    clear k1
    go_wp2_with fail
    refine (H5.out _).mono ?_
    rintro e w6 ⟨rfl, k1⟩
    replace g := keepN g k1
    clear k1
    go_wp2
    go_ret
    exact ⟨rfl, g⟩
  · have c0' : (N == a) = false := by simpa using c0
    have c1' : decide (a ≤ 2147483647) = false := by simp; omega
    have c2' : -2147483648 ≤ a := by omega
    go_enter Try.func8, Try.ntmps8
    go_wp2_with fail
    refine (HAl.out _).mono ?_
    rintro e w1 ⟨rfl, k1⟩
    replace g := keepN g k1
    clear k1
    go_wp2_with fail
    refine (H1.out _).mono ?_
    rintro e w2 ⟨rfl, k1⟩
    replace g := keepN (g.alloc _) k1
    clear k1
    go_wp2_with fail
    refine (H2.out _).mono ?_
    rintro e w3 ⟨rfl, k1⟩
    replace g := keepN g k1
    clear k1
    go_wp2_with fail
    refine (H3.out _).mono ?_
    rintro e w4 ⟨rfl, k1⟩
    replace g := keepN g k1
    clear k1
    go_wp2_with fail
    refine (H4.out _).mono ?_
    rintro e w5 ⟨rfl, k1⟩
    replace g := keepN g k1
    clear k1
    go_wp2_with fail
    refine (H5.out _).mono ?_
    rintro e w6 ⟨rfl, k1⟩
    replace g := keepN g k1
    clear k1
    go_wp2
    go_ret
    exact ⟨rfl, g⟩

set_option maxRecDepth 100000 in
set_option maxHeartbeats 8000000 in
theorem converts_u8 (B : Hid BinC) (U1 : Hid UnC) (a : Int) (n : Nat) (w : World) (ha : I64 a) (hn : n ≤ 255) (hr : (n : Int) % 6 = 3) :
    Calls Try.prog 8 #[.int .i64 a, .int .u8 (n : Int)] w fun e w' => e = .returned (.bool true) ∧ Keep NoB w w' := by
  have g := Keep.refl NoB w
  have HAl := Lib.hid (fun W => alive_any B U1 W)
  have i (k : Int) (h0 : 0 ≤ k) (h1 : k ≤ 4294967296) : I64 k := by unfold I64; omega
  obtain ⟨q, hq, hlo, hhi⟩ := cv_u8 a
  have hN : ∃ N : Int, N = a + 256 * q := ⟨_, rfl⟩
  obtain ⟨N, hN⟩ := hN
  rw [← hN] at hq hlo hhi
  have iN : I64 N := by unfold I64; omega
  have hNN : IntKind.u8.wrap N = N := by
    obtain ⟨q2, e2, l2, h2⟩ := cv_u8 N
    rw [e2]; omega
  have H1 := Lib.hid (fun W => one_at U1 6 a N W (i 6 (by omega) (by omega)) ha (one_ok ((un_u8 a).trans hq) rfl))
  have H2 : Hid (∀ W : World, Calls Try.prog 12 #[.int .i64 6, .int .i64 N] W fun e w' => e = .returned (.tuple #[.int .i64 N, .int .i64 0]) ∧ Keep NoB W w') := Lib.hid (fun W => by
    have h := runary_any 6 N W iN
    rw [(un_u8 N).trans hNN, show unE 6 = 0 from rfl] at h
    exact h.mono fun e w' ⟨h1, h2⟩ => ⟨h1, by subst h2; exact Keep.refl _ _⟩)
  have H3 := Lib.hid (fun W => one_at U1 6 N N W (i 6 (by omega) (by omega)) iN (one_ok ((un_u8 N).trans hNN) rfl))
  have H4 := Lib.hid (fun W => two_at B 1 a N _ W (i 1 (by omega) (by omega)) ha iN (two_sub a N))
  have hdv : wrap64 (a - N) % 2 ^ 8 = 0 := by
    have e : (2 : Int) ^ 8 = 256 := by decide
    rw [e]
    unfold wrap64; omega
  have H5 := Lib.hid (fun W => two_at B 5 (wrap64 (a - N)) 255 0 W (i 5 (by omega) (by omega)) (w_I64 _) (i _ (by omega) (by omega)) (two_mask _ 8 255 (by decide) (by omega) hdv))
  have hcase : (N = a ∧ 0 ≤ a ∧ a ≤ 255) ∨ (N ≠ a ∧ a < 0) ∨ (N ≠ a ∧ 255 < a) := by omega
  obtain ⟨a1, a2⟩ := ha
  clear hdv hN hq hNN iN i
  generalize wrap64 (a - N) = D at H4 H5
  rcases hcase with ⟨rfl, c1, c2⟩ | ⟨c0, c1⟩ | ⟨c0, c1⟩
  · go_enter Try.func8, Try.ntmps8
    go_wp2_with fail
    refine (HAl.out _).mono ?_
    rintro e w1 ⟨rfl, k1⟩
    replace g := keepN g k1
    clear k1
    go_wp2_with fail
    refine (H1.out _).mono ?_
    rintro e w2 ⟨rfl, k1⟩
    replace g := keepN (g.alloc _) k1
    clear k1
    go_wp2_with fail
    refine (H2.out _).mono ?_
    rintro e w3 ⟨rfl, k1⟩
    replace g := keepN g k1
    clear k1
    go_wp2_with fail
    refine (H3.out _).mono ?_
    rintro e w4 ⟨rfl, k1⟩
    replace g := keepN g k1
    clear k1
    go_wp2_with fail
    refine (H4.out _).mono ?_
    rintro e w5 ⟨rfl, k1⟩
    replace g := keepN g k1
    clear k1
    go_wp2_with fail
    refine (H5.out _).mono ?_
    rintro e w6 ⟨rfl, k1⟩
    replace g := keepN g k1
    clear k1
    go_wp2
    go_ret
    exact ⟨rfl, g⟩
  · have c0' : (N == a) = false := by simpa using c0
    have c1' : decide (0 ≤ a) = false := by simp; omega
    go_enter Try.func8, Try.ntmps8
    go_wp2_with fail
    refine (HAl.out _).mono ?_
    rintro e w1 ⟨rfl, k1⟩
    replace g := keepN g k1
    clear k1
    go_wp2_with fail
    refine (H1.out _).mono ?_
    rintro e w2 ⟨rfl, k1⟩
    replace g := keepN (g.alloc _) k1
    clear k1
    go_wp2_with fail
    refine (H2.out _).mono ?_
    rintro e w3 ⟨rfl, k1⟩
    replace g := keepN g k1
    clear k1
    go_wp2_with fail
    refine (H3.out _).mono ?_
    rintro e w4 ⟨rfl, k1⟩
    replace g := keepN g k1
    clear k1
    go_wp2_with fail
    refine (H4.out _).mono ?_
    rintro e w5 ⟨rfl, k1⟩
    replace g := keepN g k1
    clear k1
    go_wp2_with fail
    refine (H5.out _).mono ?_
    rintro e w6 ⟨rfl, k1⟩
    replace g := keepN g k1
    clear k1
    go_wp2
    go_ret
    exact ⟨rfl, g⟩
  · have c0' : (N == a) = false := by simpa using c0
    have c1' : decide (a ≤ 255) = false := by simp; omega
    have c2' : 0 ≤ a := by omega
    go_enter Try.func8, Try.ntmps8
    go_wp2_with fail
    refine (HAl.out _).mono ?_
    rintro e w1 ⟨rfl, k1⟩
    replace g := keepN g k1
    clear k1
    go_wp2_with fail
    refine (H1.out _).mono ?_
    rintro e w2 ⟨rfl, k1⟩
    replace g := keepN (g.alloc _) k1
    clear k1
    go_wp2_with fail
    refine (H2.out _).mono ?_
    rintro e w3 ⟨rfl, k1⟩
    replace g := keepN g k1
    clear k1
    go_wp2_with fail
    refine (H3.out _).mono ?_
    rintro e w4 ⟨rfl, k1⟩
    replace g := keepN g k1
    clear k1
    go_wp2_with fail
    refine (H4.out _).mono ?_
    rintro e w5 ⟨rfl, k1⟩
    replace g := keepN g k1
    clear k1
    go_wp2_with fail
    refine (H5.out _).mono ?_
    rintro e w6 ⟨rfl, k1⟩
    replace g := keepN g k1
    clear k1
    go_wp2
    go_ret
    exact ⟨rfl, g⟩

set_option maxRecDepth 100000 in
set_option maxHeartbeats 8000000 in
theorem converts_u16 (B : Hid BinC) (U1 : Hid UnC) (a : Int) (n : Nat) (w : World) (ha : I64 a) (hn : n ≤ 255) (hr : (n : Int) % 6 = 4) :
    Calls Try.prog 8 #[.int .i64 a, .int .u8 (n : Int)] w fun e w' => e = .returned (.bool true) ∧ Keep NoB w w' := by
  have g := Keep.refl NoB w
  have HAl := Lib.hid (fun W => alive_any B U1 W)
  have i (k : Int) (h0 : 0 ≤ k) (h1 : k ≤ 4294967296) : I64 k := by unfold I64; omega
  obtain ⟨q, hq, hlo, hhi⟩ := cv_u16 a
  have hN : ∃ N : Int, N = a + 65536 * q := ⟨_, rfl⟩
  obtain ⟨N, hN⟩ := hN
  rw [← hN] at hq hlo hhi
  have iN : I64 N := by unfold I64; omega
  have hNN : IntKind.u16.wrap N = N := by
    obtain ⟨q2, e2, l2, h2⟩ := cv_u16 N
    rw [e2]; omega
  have H1 := Lib.hid (fun W => one_at U1 7 a N W (i 7 (by omega) (by omega)) ha (one_ok ((un_u16 a).trans hq) rfl))
  have H2 : Hid (∀ W : World, Calls Try.prog 12 #[.int .i64 7, .int .i64 N] W fun e w' => e = .returned (.tuple #[.int .i64 N, .int .i64 0]) ∧ Keep NoB W w') := Lib.hid (fun W => by
    have h := runary_any 7 N W iN
    rw [(un_u16 N).trans hNN, show unE 7 = 0 from rfl] at h
    exact h.mono fun e w' ⟨h1, h2⟩ => ⟨h1, by subst h2; exact Keep.refl _ _⟩)
  have H3 := Lib.hid (fun W => one_at U1 7 N N W (i 7 (by omega) (by omega)) iN (one_ok ((un_u16 N).trans hNN) rfl))
  have H4 := Lib.hid (fun W => two_at B 1 a N _ W (i 1 (by omega) (by omega)) ha iN (two_sub a N))
  have hdv : wrap64 (a - N) % 2 ^ 16 = 0 := by
    have e : (2 : Int) ^ 16 = 65536 := by decide
    rw [e]
    unfold wrap64; omega
  have H5 := Lib.hid (fun W => two_at B 5 (wrap64 (a - N)) 65535 0 W (i 5 (by omega) (by omega)) (w_I64 _) (i _ (by omega) (by omega)) (two_mask _ 16 65535 (by decide) (by omega) hdv))
  have hcase : (N = a ∧ 0 ≤ a ∧ a ≤ 65535) ∨ (N ≠ a ∧ a < 0) ∨ (N ≠ a ∧ 65535 < a) := by omega
  obtain ⟨a1, a2⟩ := ha
  clear hdv hN hq hNN iN i
  generalize wrap64 (a - N) = D at H4 H5
  rcases hcase with ⟨rfl, c1, c2⟩ | ⟨c0, c1⟩ | ⟨c0, c1⟩
  · go_enter Try.func8, Try.ntmps8
    go_wp2_with fail
    refine (HAl.out _).mono ?_
    rintro e w1 ⟨rfl, k1⟩
    replace g := keepN g k1
    clear k1
    go_wp2_with fail
    refine (H1.out _).mono ?_
    rintro e w2 ⟨rfl, k1⟩
    replace g := keepN (g.alloc _) k1
    clear k1
    go_wp2_with fail
    refine (H2.out _).mono ?_
    rintro e w3 ⟨rfl, k1⟩
    replace g := keepN g k1
    clear k1
    go_wp2_with fail
    refine (H3.out _).mono ?_
    rintro e w4 ⟨rfl, k1⟩
    replace g := keepN g k1
    clear k1
    go_wp2_with fail
    refine (H4.out _).mono ?_
    rintro e w5 ⟨rfl, k1⟩
    replace g := keepN g k1
    clear k1
    go_wp2_with fail
    refine (H5.out _).mono ?_
    rintro e w6 ⟨rfl, k1⟩
    replace g := keepN g k1
    clear k1
    go_wp2
    go_ret
    exact ⟨rfl, g⟩
  · have c0' : (N == a) = false := by simpa using c0
    have c1' : decide (0 ≤ a) = false := by simp; omega
    go_enter Try.func8, Try.ntmps8
    go_wp2_with fail
    refine (HAl.out _).mono ?_
    rintro e w1 ⟨rfl, k1⟩
    replace g := keepN g k1
    clear k1
    go_wp2_with fail
    refine (H1.out _).mono ?_
    rintro e w2 ⟨rfl, k1⟩
    replace g := keepN (g.alloc _) k1
    clear k1
    go_wp2_with fail
    refine (H2.out _).mono ?_
    rintro e w3 ⟨rfl, k1⟩
    replace g := keepN g k1
    clear k1
    go_wp2_with fail
    refine (H3.out _).mono ?_
    rintro e w4 ⟨rfl, k1⟩
    replace g := keepN g k1
    clear k1
    go_wp2_with fail
    refine (H4.out _).mono ?_
    rintro e w5 ⟨rfl, k1⟩
    replace g := keepN g k1
    clear k1
    go_wp2_with fail
    refine (H5.out _).mono ?_
    rintro e w6 ⟨rfl, k1⟩
    replace g := keepN g k1
    clear k1
    go_wp2
    go_ret
    exact ⟨rfl, g⟩
  · have c0' : (N == a) = false := by simpa using c0
    have c1' : decide (a ≤ 65535) = false := by simp; omega
    have c2' : 0 ≤ a := by omega
    go_enter Try.func8, Try.ntmps8
    go_wp2_with fail
    refine (HAl.out _).mono ?_
    rintro e w1 ⟨rfl, k1⟩
    replace g := keepN g k1
    clear k1
    go_wp2_with fail
    refine (H1.out _).mono ?_
    rintro e w2 ⟨rfl, k1⟩
    replace g := keepN (g.alloc _) k1
    clear k1
    go_wp2_with fail
    refine (H2.out _).mono ?_
    rintro e w3 ⟨rfl, k1⟩
    replace g := keepN g k1
    clear k1
    go_wp2_with fail
    refine (H3.out _).mono ?_
    rintro e w4 ⟨rfl, k1⟩
    replace g := keepN g k1
    clear k1
    go_wp2_with fail
    refine (H4.out _).mono ?_
    rintro e w5 ⟨rfl, k1⟩
    replace g := keepN g k1
    clear k1
    go_wp2_with fail
    refine (H5.out _).mono ?_
    rintro e w6 ⟨rfl, k1⟩
    replace g := keepN g k1
    clear k1
    go_wp2
    go_ret
    exact ⟨rfl, g⟩

set_option maxRecDepth 100000 in
set_option maxHeartbeats 8000000 in
theorem converts_u32 (B : Hid BinC) (U1 : Hid UnC) (a : Int) (n : Nat) (w : World) (ha : I64 a) (hn : n ≤ 255) (hr : (n : Int) % 6 = 5) :
    Calls Try.prog 8 #[.int .i64 a, .int .u8 (n : Int)] w fun e w' => e = .returned (.bool true) ∧ Keep NoB w w' := by
  have g := Keep.refl NoB w
  have HAl := Lib.hid (fun W => alive_any B U1 W)
  have i (k : Int) (h0 : 0 ≤ k) (h1 : k ≤ 4294967296) : I64 k := by unfold I64; omega
  obtain ⟨q, hq, hlo, hhi⟩ := cv_u32 a
  have hN : ∃ N : Int, N = a + 4294967296 * q := ⟨_, rfl⟩
  obtain ⟨N, hN⟩ := hN
  rw [← hN] at hq hlo hhi
  have iN : I64 N := by unfold I64; omega
  have hNN : IntKind.u32.wrap N = N := by
    obtain ⟨q2, e2, l2, h2⟩ := cv_u32 N
    rw [e2]; omega
  have H1 := Lib.hid (fun W => one_at U1 8 a N W (i 8 (by omega) (by omega)) ha (one_ok ((un_u32 a).trans hq) rfl))
  have H2 : Hid (∀ W : World, Calls Try.prog 12 #[.int .i64 8, .int .i64 N] W fun e w' => e = .returned (.tuple #[.int .i64 N, .int .i64 0]) ∧ Keep NoB W w') := Lib.hid (fun W => by
    have h := runary_any 8 N W iN
    rw [(un_u32 N).trans hNN, show unE 8 = 0 from rfl] at h
    exact h.mono fun e w' ⟨h1, h2⟩ => ⟨h1, by subst h2; exact Keep.refl _ _⟩)
  have H3 := Lib.hid (fun W => one_at U1 8 N N W (i 8 (by omega) (by omega)) iN (one_ok ((un_u32 N).trans hNN) rfl))
  have H4 := Lib.hid (fun W => two_at B 1 a N _ W (i 1 (by omega) (by omega)) ha iN (two_sub a N))
  have hdv : wrap64 (a - N) % 2 ^ 32 = 0 := by
    have e : (2 : Int) ^ 32 = 4294967296 := by decide
    rw [e]
    unfold wrap64; omega
  have H5 := Lib.hid (fun W => two_at B 5 (wrap64 (a - N)) 4294967295 0 W (i 5 (by omega) (by omega)) (w_I64 _) (i _ (by omega) (by omega)) (two_mask _ 32 4294967295 (by decide) (by omega) hdv))
  have hcase : (N = a ∧ 0 ≤ a ∧ a ≤ 4294967295) ∨ (N ≠ a ∧ a < 0) ∨ (N ≠ a ∧ 4294967295 < a) := by omega
  obtain ⟨a1, a2⟩ := ha
  clear hdv hN hq hNN iN i
  generalize wrap64 (a - N) = D at H4 H5
  rcases hcase with ⟨rfl, c1, c2⟩ | ⟨c0, c1⟩ | ⟨c0, c1⟩
  · go_enter Try.func8, Try.ntmps8
    go_wp2_with fail
    refine (HAl.out _).mono ?_
    rintro e w1 ⟨rfl, k1⟩
    replace g := keepN g k1
    clear k1
    go_wp2_with fail
    refine (H1.out _).mono ?_
    rintro e w2 ⟨rfl, k1⟩
    replace g := keepN (g.alloc _) k1
    clear k1
    go_wp2_with fail
    refine (H2.out _).mono ?_
    rintro e w3 ⟨rfl, k1⟩
    replace g := keepN g k1
    clear k1
    go_wp2_with fail
    refine (H3.out _).mono ?_
    rintro e w4 ⟨rfl, k1⟩
    replace g := keepN g k1
    clear k1
    go_wp2_with fail
    refine (H4.out _).mono ?_
    rintro e w5 ⟨rfl, k1⟩
    replace g := keepN g k1
    clear k1
    go_wp2_with fail
    refine (H5.out _).mono ?_
    rintro e w6 ⟨rfl, k1⟩
    replace g := keepN g k1
    clear k1
    go_wp2
    go_ret
    exact ⟨rfl, g⟩
  · have c0' : (N == a) = false := by simpa using c0
    have c1' : decide (0 ≤ a) = false := by simp; omega
    go_enter Try.func8, Try.ntmps8
    go_wp2_with fail
    refine (HAl.out _).mono ?_
    rintro e w1 ⟨rfl, k1⟩
    replace g := keepN g k1
    clear k1
    go_wp2_with fail
    refine (H1.out _).mono ?_
    rintro e w2 ⟨rfl, k1⟩
    replace g := keepN (g.alloc _) k1
    clear k1
    go_wp2_with fail
    refine (H2.out _).mono ?_
    rintro e w3 ⟨rfl, k1⟩
    replace g := keepN g k1
    clear k1
    go_wp2_with fail
    refine (H3.out _).mono ?_
    rintro e w4 ⟨rfl, k1⟩
    replace g := keepN g k1
    clear k1
    go_wp2_with fail
    refine (H4.out _).mono ?_
    rintro e w5 ⟨rfl, k1⟩
    replace g := keepN g k1
    clear k1
    go_wp2_with fail
    refine (H5.out _).mono ?_
    rintro e w6 ⟨rfl, k1⟩
    replace g := keepN g k1
    clear k1
    go_wp2
    go_ret
    exact ⟨rfl, g⟩
  · have c0' : (N == a) = false := by simpa using c0
    have c1' : decide (a ≤ 4294967295) = false := by simp; omega
    have c2' : 0 ≤ a := by omega
    go_enter Try.func8, Try.ntmps8
    go_wp2_with fail
    refine (HAl.out _).mono ?_
    rintro e w1 ⟨rfl, k1⟩
    replace g := keepN g k1
    clear k1
    go_wp2_with fail
    refine (H1.out _).mono ?_
    rintro e w2 ⟨rfl, k1⟩
    replace g := keepN (g.alloc _) k1
    clear k1
    go_wp2_with fail
    refine (H2.out _).mono ?_
    rintro e w3 ⟨rfl, k1⟩
    replace g := keepN g k1
    clear k1
    go_wp2_with fail
    refine (H3.out _).mono ?_
    rintro e w4 ⟨rfl, k1⟩
    replace g := keepN g k1
    clear k1
    go_wp2_with fail
    refine (H4.out _).mono ?_
    rintro e w5 ⟨rfl, k1⟩
    replace g := keepN g k1
    clear k1
    go_wp2_with fail
    refine (H5.out _).mono ?_
    rintro e w6 ⟨rfl, k1⟩
    replace g := keepN g k1
    clear k1
    go_wp2
    go_ret
    exact ⟨rfl, g⟩

theorem converts_walk (B : Hid BinC) (U1 : Hid UnC) (a : Int) (n : Nat) (w : World) (ha : I64 a) (hn : n ≤ 255) :
    Calls Try.prog 8 #[.int .i64 a, .int .u8 (n : Int)] w fun e w' => e = .returned (.bool true) ∧ Keep NoB w w' := by
  have : (n : Int) % 6 = 0 ∨ (n : Int) % 6 = 1 ∨ (n : Int) % 6 = 2 ∨ (n : Int) % 6 = 3 ∨ (n : Int) % 6 = 4 ∨ (n : Int) % 6 = 5 := by omega
  rcases this with h | h | h | h | h | h
  · exact converts_i8 B U1 a n w ha hn h
  · exact converts_i16 B U1 a n w ha hn h
  · exact converts_i32 B U1 a n w ha hn h
  · exact converts_u8 B U1 a n w ha hn h
  · exact converts_u16 B U1 a n w ha hn h
  · exact converts_u32 B U1 a n w ha hn h

end Go.Proofs.Ytoljghgmpilecaa
