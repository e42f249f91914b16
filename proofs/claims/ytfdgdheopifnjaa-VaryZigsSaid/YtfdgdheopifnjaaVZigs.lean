/-
  VaryZigs: whatever a number, two signed numbers and two bounds, the law returns true. No conditions.
-/
import Derived.Test.YtfdgdheopifnjaaVAlive
import Derived.Test.YtfdgdheopifnjaaVReel2
import Derived.Test.YtfdgdheopifnjaaVOrder
namespace Go.Proofs.Ytfdgdheopifnjaa
open Go.ChangeShapes Go.WideShapes Go.ChangeAt Go.RowKit

theorem zig_near (a b : Int) (h : max a (-a) < max b (-b)) : wd (zig a) ≤ wd (zig b) := by
  apply wd_mono
  unfold zig
  split <;> split <;> omega

theorem sig_enc (a lo hi : Int) (h1 : -9223372036854775808 ≤ a) (h2 : a ≤ 9223372036854775807) :
    SigR (encL (zig a)) 0 lo hi = if a < lo ∨ hi < a then (0, 12, 0) else (a, 0, wd (zig a)) := by
  have h := nx_enc (zig a) (zig_lt a h1 h2) []
  rw [List.append_nil] at h
  unfold SigR
  rw [List.drop_zero, h, zag_zig]
  simp

theorem zig_beq (a b : Int) : (((zig a : Nat) : Int) == ((zig b : Nat) : Int)) = (a == b) := by
  rw [Bool.eq_iff_iff, beq_iff_eq, beq_iff_eq]
  have := zig_inj a b
  omega

/-- The bytes of a signed number, written on a new Tape and read by a new Reel. -/
theorem on_at (w w0 : World) (A : Option Addr) (l : List UInt8) (c n : Nat) (hn : n = l.length) (hr : Rd w A l) (hb : l.length ≤ 9) (hk : Keep NoB w0 w) :
    Calls Try.prog 24 #[.slice A n c] w fun e w' => ∃ br, e = .returned (.pointer (some ⟨br, 0, none⟩)) ∧ ReelAt w' br (Fresh w0) l 0 ∧ Keep NoB w0 w' := by
  subst hn
  refine (on_any w A l c hr (by omega)).mono ?_
  rintro e w' ⟨br, he, h1, h2⟩
  exact ⟨br, he, h1.mono (fun k hk' _ => Nat.le_trans hk.size hk'), keepN hk h2⟩

theorem tsigned_new (w : World) (n : Int) (h1 : -9223372036854775808 ≤ n) (h2 : n ≤ 9223372036854775807) :
    Calls Try.prog 20 #[.pointer (some ⟨w.heap.size, 0, none⟩), .int .i64 n] (w.alloc (.cells #[.pointer none, .int .i64 0] 26)) fun e w' =>
      e = .returned (.pointer (some ⟨w.heap.size, 0, none⟩)) ∧ (∃ O, TapeAt w' w.heap.size O (encL (zig n))) ∧ Keep NoB w w' := by
  refine (tsigned_any _ w.heap.size (fun k => k = w.heap.size) [] n h1 h2 (TapeAt.new w) (fun k e => by subst e; simp) (by show 0 + 9 ≤ _; omega)).mono ?_
  rintro e w' ⟨he, ht, hk⟩
  exact ⟨he, ⟨_, ht⟩, ((Keep.refl NoB w).alloc _).trans hk (fun k e hk' => by omega)⟩

theorem all_at (w w0 : World) (bt : Nat) (l : List UInt8) (h : ∃ O, TapeAt w bt O l) (hb : l.length ≤ 9) (hk : Keep NoB w0 w) :
    Calls Try.prog 23 #[.pointer (some ⟨bt, 0, none⟩)] w fun e w' => ∃ A c, e = .returned (.slice A l.length c) ∧ Rd w' A l ∧ Keep NoB w0 w' := by
  obtain ⟨O, h⟩ := h
  refine (all_any w bt O l h (by omega)).mono ?_
  rintro e w' ⟨v, he, hv, hk'⟩
  obtain ⟨A, c, rfl, _, hr, _⟩ := hv.form
  exact ⟨A, c, he, hr, keepN hk hk'⟩

/-- Reading in a Reel of new memory keeps all that lay. -/
theorem rsigned_at (w w0 : World) (br : Nat) (l : List UInt8) (lo hi m : Int) (er q : Nat) (h : ReelAt w br (Fresh w0) l 0) (hk : Keep NoB w0 w) (hb : l.length ≤ 9) (hs : SigR l 0 lo hi = (m, er, q)) :
    Calls Try.prog 27 #[.pointer (some ⟨br, 0, none⟩), .int .i64 lo, .int .i64 hi] w fun e w' => e = .returned (.tuple #[.int .i64 m, .int .i64 er]) ∧ ReelAt w' br (Fresh w0) l q ∧ Keep NoB w0 w' := by
  refine (rsigned_any w br (Fresh w0) l 0 lo hi h (by omega)).mono ?_
  rintro e w' ⟨he, h1, h2⟩
  rw [hs] at he h1
  exact ⟨he, h1, hk.trans h2 (fun k e hk' => by have := h.1; unfold Fresh at this; omega)⟩

set_option maxRecDepth 100000 in
set_option maxHeartbeats 4000000 in
theorem zigs_near_in (n : Nat) (a b lo hi : Int) (w : World) (hn : Hid (n < 18446744073709551616)) (a1 : -9223372036854775808 ≤ a) (a2 : a ≤ 9223372036854775807) (b1 : -9223372036854775808 ≤ b) (b2 : b ≤ 9223372036854775807)
    (n1 : -4611686018427387904 < a) (n2 : a < 4611686018427387904) (n3 : -4611686018427387904 < b) (n4 : b < 4611686018427387904) (n5 : max a (-a) < max b (-b)) (i1 : lo ≤ a) (i2 : a ≤ hi) :
    Calls Try.prog 8 #[.int .u64 n, .int .i64 a, .int .i64 b, .int .i64 lo, .int .i64 hi] w fun e w' => e = .returned (.bool true) ∧ Keep NoB w w' := by
  have hl := encL_len (zig a)
  have HXY := Lib.hid (zig_beq a b)
  have HZA := Lib.hid (fun w => zig_any a w a1 a2)
  have HZB := Lib.hid (fun w => zig_any b w b1 b2)
  have HTS := Lib.hid (fun w => tsigned_new w a a1 a2)
  have HLA := Lib.hid (zig_lt a a1 a2)
  have HS := Lib.hid (sig_enc a lo hi a1 a2)
  have HNZ1 := Lib.hid (zag_ge n hn.out)
  have HNZ2 := Lib.hid (zag_le n hn.out)
  have hwle := zig_near a b n5
  go_enter Try.func8, Try.ntmps8
  go_wp2_with fail
  refine (alive_any _).mono ?_
  rintro e w1 ⟨rfl, hk1⟩
  go_wp2_with fail
  refine (HZA.out _).mono ?_
  rintro e w2 ⟨rfl, rfl⟩
  go_wp2_with fail
  refine (HZB.out _).mono ?_
  rintro e w2 ⟨rfl, rfl⟩
  go_wp2_with fail
  refine (HTS.out _).mono ?_
  rintro e w2 ⟨rfl, ht2, hk2⟩
  have hk2' := keepN hk1 hk2
  clear hk2
  go_wp2_with fail
  refine (all_at w2 w _ _ ht2 hl hk2').mono ?_
  rintro e w3 ⟨A, c, rfl, hr3, hk3⟩
  clear ht2 hk2'
  go_wp2_with fail
  refine (on_at w3 w A (encL (zig a)) c _ rfl hr3 hl hk3).mono ?_
  rintro e w4 ⟨br, rfl, h4, hk4⟩
  clear hr3 hk3
  go_wp2_with fail
  refine (rsigned_at w4 w br (encL (zig a)) lo hi a 0 (wd (zig a)) h4 hk4 hl (by rw [HS.out]; rw [if_neg (by omega)])).mono ?_
  rintro e w5 ⟨rfl, h5, hk5⟩
  clear h4 hk4
  go_wp2_with fail
  refine (zag_any (zig a) _ HLA.out).mono ?_
  rintro e w6 ⟨rfl, rfl⟩
  rw [zag_zig]
  go_wp2_with fail
  refine (zag_any n _ hn.out).mono ?_
  rintro e w6 ⟨rfl, rfl⟩
  go_wp2_with fail
  refine (zig_any (zag n) _ HNZ1.out HNZ2.out).mono ?_
  rintro e w6 ⟨rfl, rfl⟩
  rw [zig_zag]
  have hxy := HXY.out
  go_wp2_with fail
  refine (width_any (zig a) _).mono ?_
  rintro e w6 ⟨rfl, rfl⟩
  go_wp2_with fail
  refine (width_any (zig b) _).mono ?_
  rintro e w6 ⟨rfl, rfl⟩
  go_wp2_with fail
  go_ret
  exact ⟨rfl, hk5⟩

set_option maxRecDepth 100000 in
set_option maxHeartbeats 4000000 in
theorem zigs_far1_in (n : Nat) (a b lo hi : Int) (w : World) (hn : Hid (n < 18446744073709551616)) (a1 : -9223372036854775808 ≤ a) (a2 : a ≤ 9223372036854775807) (b1 : -9223372036854775808 ≤ b) (b2 : b ≤ 9223372036854775807)
    (f1 : a ≤ -4611686018427387904) (i1 : lo ≤ a) (i2 : a ≤ hi) :
    Calls Try.prog 8 #[.int .u64 n, .int .i64 a, .int .i64 b, .int .i64 lo, .int .i64 hi] w fun e w' => e = .returned (.bool true) ∧ Keep NoB w w' := by
  have hl := encL_len (zig a)
  have HXY := Lib.hid (zig_beq a b)
  have HZA := Lib.hid (fun w => zig_any a w a1 a2)
  have HZB := Lib.hid (fun w => zig_any b w b1 b2)
  have HTS := Lib.hid (fun w => tsigned_new w a a1 a2)
  have HLA := Lib.hid (zig_lt a a1 a2)
  have HS := Lib.hid (sig_enc a lo hi a1 a2)
  have HNZ1 := Lib.hid (zag_ge n hn.out)
  have HNZ2 := Lib.hid (zag_le n hn.out)
  go_enter Try.func8, Try.ntmps8
  go_wp2_with fail
  refine (alive_any _).mono ?_
  rintro e w1 ⟨rfl, hk1⟩
  go_wp2_with fail
  refine (HZA.out _).mono ?_
  rintro e w2 ⟨rfl, rfl⟩
  go_wp2_with fail
  refine (HZB.out _).mono ?_
  rintro e w2 ⟨rfl, rfl⟩
  go_wp2_with fail
  refine (HTS.out _).mono ?_
  rintro e w2 ⟨rfl, ht2, hk2⟩
  have hk2' := keepN hk1 hk2
  clear hk2
  go_wp2_with fail
  refine (all_at w2 w _ _ ht2 hl hk2').mono ?_
  rintro e w3 ⟨A, c, rfl, hr3, hk3⟩
  clear ht2 hk2'
  go_wp2_with fail
  refine (on_at w3 w A (encL (zig a)) c _ rfl hr3 hl hk3).mono ?_
  rintro e w4 ⟨br, rfl, h4, hk4⟩
  clear hr3 hk3
  go_wp2_with fail
  refine (rsigned_at w4 w br (encL (zig a)) lo hi a 0 (wd (zig a)) h4 hk4 hl (by rw [HS.out]; rw [if_neg (by omega)])).mono ?_
  rintro e w5 ⟨rfl, h5, hk5⟩
  clear h4 hk4
  go_wp2_with fail
  refine (zag_any (zig a) _ HLA.out).mono ?_
  rintro e w6 ⟨rfl, rfl⟩
  rw [zag_zig]
  go_wp2_with fail
  refine (zag_any n _ hn.out).mono ?_
  rintro e w6 ⟨rfl, rfl⟩
  go_wp2_with fail
  refine (zig_any (zag n) _ HNZ1.out HNZ2.out).mono ?_
  rintro e w6 ⟨rfl, rfl⟩
  rw [zig_zag]
  have hxy := HXY.out
  go_wp2_with fail
  go_ret
  exact ⟨rfl, hk5⟩

set_option maxRecDepth 100000 in
set_option maxHeartbeats 4000000 in
theorem zigs_far2_in (n : Nat) (a b lo hi : Int) (w : World) (hn : Hid (n < 18446744073709551616)) (a1 : -9223372036854775808 ≤ a) (a2 : a ≤ 9223372036854775807) (b1 : -9223372036854775808 ≤ b) (b2 : b ≤ 9223372036854775807)
    (f1 : -4611686018427387904 < a) (f2 : 4611686018427387904 ≤ a) (i1 : lo ≤ a) (i2 : a ≤ hi) :
    Calls Try.prog 8 #[.int .u64 n, .int .i64 a, .int .i64 b, .int .i64 lo, .int .i64 hi] w fun e w' => e = .returned (.bool true) ∧ Keep NoB w w' := by
  have hl := encL_len (zig a)
  have HXY := Lib.hid (zig_beq a b)
  have HZA := Lib.hid (fun w => zig_any a w a1 a2)
  have HZB := Lib.hid (fun w => zig_any b w b1 b2)
  have HTS := Lib.hid (fun w => tsigned_new w a a1 a2)
  have HLA := Lib.hid (zig_lt a a1 a2)
  have HS := Lib.hid (sig_enc a lo hi a1 a2)
  have HNZ1 := Lib.hid (zag_ge n hn.out)
  have HNZ2 := Lib.hid (zag_le n hn.out)
  go_enter Try.func8, Try.ntmps8
  go_wp2_with fail
  refine (alive_any _).mono ?_
  rintro e w1 ⟨rfl, hk1⟩
  go_wp2_with fail
  refine (HZA.out _).mono ?_
  rintro e w2 ⟨rfl, rfl⟩
  go_wp2_with fail
  refine (HZB.out _).mono ?_
  rintro e w2 ⟨rfl, rfl⟩
  go_wp2_with fail
  refine (HTS.out _).mono ?_
  rintro e w2 ⟨rfl, ht2, hk2⟩
  have hk2' := keepN hk1 hk2
  clear hk2
  go_wp2_with fail
  refine (all_at w2 w _ _ ht2 hl hk2').mono ?_
  rintro e w3 ⟨A, c, rfl, hr3, hk3⟩
  clear ht2 hk2'
  go_wp2_with fail
  refine (on_at w3 w A (encL (zig a)) c _ rfl hr3 hl hk3).mono ?_
  rintro e w4 ⟨br, rfl, h4, hk4⟩
  clear hr3 hk3
  go_wp2_with fail
  refine (rsigned_at w4 w br (encL (zig a)) lo hi a 0 (wd (zig a)) h4 hk4 hl (by rw [HS.out]; rw [if_neg (by omega)])).mono ?_
  rintro e w5 ⟨rfl, h5, hk5⟩
  clear h4 hk4
  go_wp2_with fail
  refine (zag_any (zig a) _ HLA.out).mono ?_
  rintro e w6 ⟨rfl, rfl⟩
  rw [zag_zig]
  go_wp2_with fail
  refine (zag_any n _ hn.out).mono ?_
  rintro e w6 ⟨rfl, rfl⟩
  go_wp2_with fail
  refine (zig_any (zag n) _ HNZ1.out HNZ2.out).mono ?_
  rintro e w6 ⟨rfl, rfl⟩
  rw [zig_zag]
  have hxy := HXY.out
  go_wp2_with fail
  go_ret
  exact ⟨rfl, hk5⟩

set_option maxRecDepth 100000 in
set_option maxHeartbeats 4000000 in
theorem zigs_far3_in (n : Nat) (a b lo hi : Int) (w : World) (hn : Hid (n < 18446744073709551616)) (a1 : -9223372036854775808 ≤ a) (a2 : a ≤ 9223372036854775807) (b1 : -9223372036854775808 ≤ b) (b2 : b ≤ 9223372036854775807)
    (f1 : -4611686018427387904 < a) (f2 : a < 4611686018427387904) (f3 : b ≤ -4611686018427387904) (i1 : lo ≤ a) (i2 : a ≤ hi) :
    Calls Try.prog 8 #[.int .u64 n, .int .i64 a, .int .i64 b, .int .i64 lo, .int .i64 hi] w fun e w' => e = .returned (.bool true) ∧ Keep NoB w w' := by
  have hl := encL_len (zig a)
  have HXY := Lib.hid (zig_beq a b)
  have HZA := Lib.hid (fun w => zig_any a w a1 a2)
  have HZB := Lib.hid (fun w => zig_any b w b1 b2)
  have HTS := Lib.hid (fun w => tsigned_new w a a1 a2)
  have HLA := Lib.hid (zig_lt a a1 a2)
  have HS := Lib.hid (sig_enc a lo hi a1 a2)
  have HNZ1 := Lib.hid (zag_ge n hn.out)
  have HNZ2 := Lib.hid (zag_le n hn.out)
  go_enter Try.func8, Try.ntmps8
  go_wp2_with fail
  refine (alive_any _).mono ?_
  rintro e w1 ⟨rfl, hk1⟩
  go_wp2_with fail
  refine (HZA.out _).mono ?_
  rintro e w2 ⟨rfl, rfl⟩
  go_wp2_with fail
  refine (HZB.out _).mono ?_
  rintro e w2 ⟨rfl, rfl⟩
  go_wp2_with fail
  refine (HTS.out _).mono ?_
  rintro e w2 ⟨rfl, ht2, hk2⟩
  have hk2' := keepN hk1 hk2
  clear hk2
  go_wp2_with fail
  refine (all_at w2 w _ _ ht2 hl hk2').mono ?_
  rintro e w3 ⟨A, c, rfl, hr3, hk3⟩
  clear ht2 hk2'
  go_wp2_with fail
  refine (on_at w3 w A (encL (zig a)) c _ rfl hr3 hl hk3).mono ?_
  rintro e w4 ⟨br, rfl, h4, hk4⟩
  clear hr3 hk3
  go_wp2_with fail
  refine (rsigned_at w4 w br (encL (zig a)) lo hi a 0 (wd (zig a)) h4 hk4 hl (by rw [HS.out]; rw [if_neg (by omega)])).mono ?_
  rintro e w5 ⟨rfl, h5, hk5⟩
  clear h4 hk4
  go_wp2_with fail
  refine (zag_any (zig a) _ HLA.out).mono ?_
  rintro e w6 ⟨rfl, rfl⟩
  rw [zag_zig]
  go_wp2_with fail
  refine (zag_any n _ hn.out).mono ?_
  rintro e w6 ⟨rfl, rfl⟩
  go_wp2_with fail
  refine (zig_any (zag n) _ HNZ1.out HNZ2.out).mono ?_
  rintro e w6 ⟨rfl, rfl⟩
  rw [zig_zag]
  have hxy := HXY.out
  go_wp2_with fail
  go_ret
  exact ⟨rfl, hk5⟩

set_option maxRecDepth 100000 in
set_option maxHeartbeats 4000000 in
theorem zigs_far4_in (n : Nat) (a b lo hi : Int) (w : World) (hn : Hid (n < 18446744073709551616)) (a1 : -9223372036854775808 ≤ a) (a2 : a ≤ 9223372036854775807) (b1 : -9223372036854775808 ≤ b) (b2 : b ≤ 9223372036854775807)
    (f1 : -4611686018427387904 < a) (f2 : a < 4611686018427387904) (f3 : -4611686018427387904 < b) (f4 : 4611686018427387904 ≤ b) (i1 : lo ≤ a) (i2 : a ≤ hi) :
    Calls Try.prog 8 #[.int .u64 n, .int .i64 a, .int .i64 b, .int .i64 lo, .int .i64 hi] w fun e w' => e = .returned (.bool true) ∧ Keep NoB w w' := by
  have hl := encL_len (zig a)
  have HXY := Lib.hid (zig_beq a b)
  have HZA := Lib.hid (fun w => zig_any a w a1 a2)
  have HZB := Lib.hid (fun w => zig_any b w b1 b2)
  have HTS := Lib.hid (fun w => tsigned_new w a a1 a2)
  have HLA := Lib.hid (zig_lt a a1 a2)
  have HS := Lib.hid (sig_enc a lo hi a1 a2)
  have HNZ1 := Lib.hid (zag_ge n hn.out)
  have HNZ2 := Lib.hid (zag_le n hn.out)
  go_enter Try.func8, Try.ntmps8
  go_wp2_with fail
  refine (alive_any _).mono ?_
  rintro e w1 ⟨rfl, hk1⟩
  go_wp2_with fail
  refine (HZA.out _).mono ?_
  rintro e w2 ⟨rfl, rfl⟩
  go_wp2_with fail
  refine (HZB.out _).mono ?_
  rintro e w2 ⟨rfl, rfl⟩
  go_wp2_with fail
  refine (HTS.out _).mono ?_
  rintro e w2 ⟨rfl, ht2, hk2⟩
  have hk2' := keepN hk1 hk2
  clear hk2
  go_wp2_with fail
  refine (all_at w2 w _ _ ht2 hl hk2').mono ?_
  rintro e w3 ⟨A, c, rfl, hr3, hk3⟩
  clear ht2 hk2'
  go_wp2_with fail
  refine (on_at w3 w A (encL (zig a)) c _ rfl hr3 hl hk3).mono ?_
  rintro e w4 ⟨br, rfl, h4, hk4⟩
  clear hr3 hk3
  go_wp2_with fail
  refine (rsigned_at w4 w br (encL (zig a)) lo hi a 0 (wd (zig a)) h4 hk4 hl (by rw [HS.out]; rw [if_neg (by omega)])).mono ?_
  rintro e w5 ⟨rfl, h5, hk5⟩
  clear h4 hk4
  go_wp2_with fail
  refine (zag_any (zig a) _ HLA.out).mono ?_
  rintro e w6 ⟨rfl, rfl⟩
  rw [zag_zig]
  go_wp2_with fail
  refine (zag_any n _ hn.out).mono ?_
  rintro e w6 ⟨rfl, rfl⟩
  go_wp2_with fail
  refine (zig_any (zag n) _ HNZ1.out HNZ2.out).mono ?_
  rintro e w6 ⟨rfl, rfl⟩
  rw [zig_zag]
  have hxy := HXY.out
  go_wp2_with fail
  go_ret
  exact ⟨rfl, hk5⟩

set_option maxRecDepth 100000 in
set_option maxHeartbeats 4000000 in
theorem zigs_far5_in (n : Nat) (a b lo hi : Int) (w : World) (hn : Hid (n < 18446744073709551616)) (a1 : -9223372036854775808 ≤ a) (a2 : a ≤ 9223372036854775807) (b1 : -9223372036854775808 ≤ b) (b2 : b ≤ 9223372036854775807)
    (f1 : -4611686018427387904 < a) (f2 : a < 4611686018427387904) (f3 : -4611686018427387904 < b) (f4 : b < 4611686018427387904) (f5 : max b (-b) ≤ max a (-a)) (i1 : lo ≤ a) (i2 : a ≤ hi) :
    Calls Try.prog 8 #[.int .u64 n, .int .i64 a, .int .i64 b, .int .i64 lo, .int .i64 hi] w fun e w' => e = .returned (.bool true) ∧ Keep NoB w w' := by
  have hl := encL_len (zig a)
  have HXY := Lib.hid (zig_beq a b)
  have HZA := Lib.hid (fun w => zig_any a w a1 a2)
  have HZB := Lib.hid (fun w => zig_any b w b1 b2)
  have HTS := Lib.hid (fun w => tsigned_new w a a1 a2)
  have HLA := Lib.hid (zig_lt a a1 a2)
  have HS := Lib.hid (sig_enc a lo hi a1 a2)
  have HNZ1 := Lib.hid (zag_ge n hn.out)
  have HNZ2 := Lib.hid (zag_le n hn.out)
  go_enter Try.func8, Try.ntmps8
  go_wp2_with fail
  refine (alive_any _).mono ?_
  rintro e w1 ⟨rfl, hk1⟩
  go_wp2_with fail
  refine (HZA.out _).mono ?_
  rintro e w2 ⟨rfl, rfl⟩
  go_wp2_with fail
  refine (HZB.out _).mono ?_
  rintro e w2 ⟨rfl, rfl⟩
  go_wp2_with fail
  refine (HTS.out _).mono ?_
  rintro e w2 ⟨rfl, ht2, hk2⟩
  have hk2' := keepN hk1 hk2
  clear hk2
  go_wp2_with fail
  refine (all_at w2 w _ _ ht2 hl hk2').mono ?_
  rintro e w3 ⟨A, c, rfl, hr3, hk3⟩
  clear ht2 hk2'
  go_wp2_with fail
  refine (on_at w3 w A (encL (zig a)) c _ rfl hr3 hl hk3).mono ?_
  rintro e w4 ⟨br, rfl, h4, hk4⟩
  clear hr3 hk3
  go_wp2_with fail
  refine (rsigned_at w4 w br (encL (zig a)) lo hi a 0 (wd (zig a)) h4 hk4 hl (by rw [HS.out]; rw [if_neg (by omega)])).mono ?_
  rintro e w5 ⟨rfl, h5, hk5⟩
  clear h4 hk4
  go_wp2_with fail
  refine (zag_any (zig a) _ HLA.out).mono ?_
  rintro e w6 ⟨rfl, rfl⟩
  rw [zag_zig]
  go_wp2_with fail
  refine (zag_any n _ hn.out).mono ?_
  rintro e w6 ⟨rfl, rfl⟩
  go_wp2_with fail
  refine (zig_any (zag n) _ HNZ1.out HNZ2.out).mono ?_
  rintro e w6 ⟨rfl, rfl⟩
  rw [zig_zag]
  have hxy := HXY.out
  go_wp2_with fail
  go_ret
  exact ⟨rfl, hk5⟩

set_option maxRecDepth 100000 in
set_option maxHeartbeats 4000000 in
theorem zigs_near_lo (n : Nat) (a b lo hi : Int) (w : World) (hn : Hid (n < 18446744073709551616)) (a1 : -9223372036854775808 ≤ a) (a2 : a ≤ 9223372036854775807) (b1 : -9223372036854775808 ≤ b) (b2 : b ≤ 9223372036854775807)
    (n1 : -4611686018427387904 < a) (n2 : a < 4611686018427387904) (n3 : -4611686018427387904 < b) (n4 : b < 4611686018427387904) (n5 : max a (-a) < max b (-b)) (i1 : a < lo) :
    Calls Try.prog 8 #[.int .u64 n, .int .i64 a, .int .i64 b, .int .i64 lo, .int .i64 hi] w fun e w' => e = .returned (.bool true) ∧ Keep NoB w w' := by
  have hl := encL_len (zig a)
  have HXY := Lib.hid (zig_beq a b)
  have HZA := Lib.hid (fun w => zig_any a w a1 a2)
  have HZB := Lib.hid (fun w => zig_any b w b1 b2)
  have HTS := Lib.hid (fun w => tsigned_new w a a1 a2)
  have HLA := Lib.hid (zig_lt a a1 a2)
  have HS := Lib.hid (sig_enc a lo hi a1 a2)
  have HNZ1 := Lib.hid (zag_ge n hn.out)
  have HNZ2 := Lib.hid (zag_le n hn.out)
  have hwle := zig_near a b n5
  go_enter Try.func8, Try.ntmps8
  go_wp2_with fail
  refine (alive_any _).mono ?_
  rintro e w1 ⟨rfl, hk1⟩
  go_wp2_with fail
  refine (HZA.out _).mono ?_
  rintro e w2 ⟨rfl, rfl⟩
  go_wp2_with fail
  refine (HZB.out _).mono ?_
  rintro e w2 ⟨rfl, rfl⟩
  go_wp2_with fail
  refine (HTS.out _).mono ?_
  rintro e w2 ⟨rfl, ht2, hk2⟩
  have hk2' := keepN hk1 hk2
  clear hk2
  go_wp2_with fail
  refine (all_at w2 w _ _ ht2 hl hk2').mono ?_
  rintro e w3 ⟨A, c, rfl, hr3, hk3⟩
  clear ht2 hk2'
  go_wp2_with fail
  refine (on_at w3 w A (encL (zig a)) c _ rfl hr3 hl hk3).mono ?_
  rintro e w4 ⟨br, rfl, h4, hk4⟩
  clear hr3 hk3
  go_wp2_with fail
  refine (rsigned_at w4 w br (encL (zig a)) lo hi 0 12 0 h4 hk4 hl (by rw [HS.out]; rw [if_pos (by omega)])).mono ?_
  rintro e w5 ⟨rfl, h5, hk5⟩
  clear h4 hk4
  go_wp2_with fail
  refine (zag_any (zig a) _ HLA.out).mono ?_
  rintro e w6 ⟨rfl, rfl⟩
  rw [zag_zig]
  go_wp2_with fail
  refine (zag_any n _ hn.out).mono ?_
  rintro e w6 ⟨rfl, rfl⟩
  go_wp2_with fail
  refine (zig_any (zag n) _ HNZ1.out HNZ2.out).mono ?_
  rintro e w6 ⟨rfl, rfl⟩
  rw [zig_zag]
  have hxy := HXY.out
  go_wp2_with fail
  refine (width_any (zig a) _).mono ?_
  rintro e w6 ⟨rfl, rfl⟩
  go_wp2_with fail
  refine (width_any (zig b) _).mono ?_
  rintro e w6 ⟨rfl, rfl⟩
  go_wp2_with fail
  refine (at_any w5 br (Fresh w) _ 0 h5).mono ?_
  rintro e w6 ⟨rfl, rfl⟩
  go_wp2_with fail
  go_ret
  exact ⟨rfl, hk5⟩

set_option maxRecDepth 100000 in
set_option maxHeartbeats 4000000 in
theorem zigs_far1_lo (n : Nat) (a b lo hi : Int) (w : World) (hn : Hid (n < 18446744073709551616)) (a1 : -9223372036854775808 ≤ a) (a2 : a ≤ 9223372036854775807) (b1 : -9223372036854775808 ≤ b) (b2 : b ≤ 9223372036854775807)
    (f1 : a ≤ -4611686018427387904) (i1 : a < lo) :
    Calls Try.prog 8 #[.int .u64 n, .int .i64 a, .int .i64 b, .int .i64 lo, .int .i64 hi] w fun e w' => e = .returned (.bool true) ∧ Keep NoB w w' := by
  have hl := encL_len (zig a)
  have HXY := Lib.hid (zig_beq a b)
  have HZA := Lib.hid (fun w => zig_any a w a1 a2)
  have HZB := Lib.hid (fun w => zig_any b w b1 b2)
  have HTS := Lib.hid (fun w => tsigned_new w a a1 a2)
  have HLA := Lib.hid (zig_lt a a1 a2)
  have HS := Lib.hid (sig_enc a lo hi a1 a2)
  have HNZ1 := Lib.hid (zag_ge n hn.out)
  have HNZ2 := Lib.hid (zag_le n hn.out)
  go_enter Try.func8, Try.ntmps8
  go_wp2_with fail
  refine (alive_any _).mono ?_
  rintro e w1 ⟨rfl, hk1⟩
  go_wp2_with fail
  refine (HZA.out _).mono ?_
  rintro e w2 ⟨rfl, rfl⟩
  go_wp2_with fail
  refine (HZB.out _).mono ?_
  rintro e w2 ⟨rfl, rfl⟩
  go_wp2_with fail
  refine (HTS.out _).mono ?_
  rintro e w2 ⟨rfl, ht2, hk2⟩
  have hk2' := keepN hk1 hk2
  clear hk2
  go_wp2_with fail
  refine (all_at w2 w _ _ ht2 hl hk2').mono ?_
  rintro e w3 ⟨A, c, rfl, hr3, hk3⟩
  clear ht2 hk2'
  go_wp2_with fail
  refine (on_at w3 w A (encL (zig a)) c _ rfl hr3 hl hk3).mono ?_
  rintro e w4 ⟨br, rfl, h4, hk4⟩
  clear hr3 hk3
  go_wp2_with fail
  refine (rsigned_at w4 w br (encL (zig a)) lo hi 0 12 0 h4 hk4 hl (by rw [HS.out]; rw [if_pos (by omega)])).mono ?_
  rintro e w5 ⟨rfl, h5, hk5⟩
  clear h4 hk4
  go_wp2_with fail
  refine (zag_any (zig a) _ HLA.out).mono ?_
  rintro e w6 ⟨rfl, rfl⟩
  rw [zag_zig]
  go_wp2_with fail
  refine (zag_any n _ hn.out).mono ?_
  rintro e w6 ⟨rfl, rfl⟩
  go_wp2_with fail
  refine (zig_any (zag n) _ HNZ1.out HNZ2.out).mono ?_
  rintro e w6 ⟨rfl, rfl⟩
  rw [zig_zag]
  have hxy := HXY.out
  go_wp2_with fail
  refine (at_any w5 br (Fresh w) _ 0 h5).mono ?_
  rintro e w6 ⟨rfl, rfl⟩
  go_wp2_with fail
  go_ret
  exact ⟨rfl, hk5⟩

set_option maxRecDepth 100000 in
set_option maxHeartbeats 4000000 in
theorem zigs_far2_lo (n : Nat) (a b lo hi : Int) (w : World) (hn : Hid (n < 18446744073709551616)) (a1 : -9223372036854775808 ≤ a) (a2 : a ≤ 9223372036854775807) (b1 : -9223372036854775808 ≤ b) (b2 : b ≤ 9223372036854775807)
    (f1 : -4611686018427387904 < a) (f2 : 4611686018427387904 ≤ a) (i1 : a < lo) :
    Calls Try.prog 8 #[.int .u64 n, .int .i64 a, .int .i64 b, .int .i64 lo, .int .i64 hi] w fun e w' => e = .returned (.bool true) ∧ Keep NoB w w' := by
  have hl := encL_len (zig a)
  have HXY := Lib.hid (zig_beq a b)
  have HZA := Lib.hid (fun w => zig_any a w a1 a2)
  have HZB := Lib.hid (fun w => zig_any b w b1 b2)
  have HTS := Lib.hid (fun w => tsigned_new w a a1 a2)
  have HLA := Lib.hid (zig_lt a a1 a2)
  have HS := Lib.hid (sig_enc a lo hi a1 a2)
  have HNZ1 := Lib.hid (zag_ge n hn.out)
  have HNZ2 := Lib.hid (zag_le n hn.out)
  go_enter Try.func8, Try.ntmps8
  go_wp2_with fail
  refine (alive_any _).mono ?_
  rintro e w1 ⟨rfl, hk1⟩
  go_wp2_with fail
  refine (HZA.out _).mono ?_
  rintro e w2 ⟨rfl, rfl⟩
  go_wp2_with fail
  refine (HZB.out _).mono ?_
  rintro e w2 ⟨rfl, rfl⟩
  go_wp2_with fail
  refine (HTS.out _).mono ?_
  rintro e w2 ⟨rfl, ht2, hk2⟩
  have hk2' := keepN hk1 hk2
  clear hk2
  go_wp2_with fail
  refine (all_at w2 w _ _ ht2 hl hk2').mono ?_
  rintro e w3 ⟨A, c, rfl, hr3, hk3⟩
  clear ht2 hk2'
  go_wp2_with fail
  refine (on_at w3 w A (encL (zig a)) c _ rfl hr3 hl hk3).mono ?_
  rintro e w4 ⟨br, rfl, h4, hk4⟩
  clear hr3 hk3
  go_wp2_with fail
  refine (rsigned_at w4 w br (encL (zig a)) lo hi 0 12 0 h4 hk4 hl (by rw [HS.out]; rw [if_pos (by omega)])).mono ?_
  rintro e w5 ⟨rfl, h5, hk5⟩
  clear h4 hk4
  go_wp2_with fail
  refine (zag_any (zig a) _ HLA.out).mono ?_
  rintro e w6 ⟨rfl, rfl⟩
  rw [zag_zig]
  go_wp2_with fail
  refine (zag_any n _ hn.out).mono ?_
  rintro e w6 ⟨rfl, rfl⟩
  go_wp2_with fail
  refine (zig_any (zag n) _ HNZ1.out HNZ2.out).mono ?_
  rintro e w6 ⟨rfl, rfl⟩
  rw [zig_zag]
  have hxy := HXY.out
  go_wp2_with fail
  refine (at_any w5 br (Fresh w) _ 0 h5).mono ?_
  rintro e w6 ⟨rfl, rfl⟩
  go_wp2_with fail
  go_ret
  exact ⟨rfl, hk5⟩

set_option maxRecDepth 100000 in
set_option maxHeartbeats 4000000 in
theorem zigs_far3_lo (n : Nat) (a b lo hi : Int) (w : World) (hn : Hid (n < 18446744073709551616)) (a1 : -9223372036854775808 ≤ a) (a2 : a ≤ 9223372036854775807) (b1 : -9223372036854775808 ≤ b) (b2 : b ≤ 9223372036854775807)
    (f1 : -4611686018427387904 < a) (f2 : a < 4611686018427387904) (f3 : b ≤ -4611686018427387904) (i1 : a < lo) :
    Calls Try.prog 8 #[.int .u64 n, .int .i64 a, .int .i64 b, .int .i64 lo, .int .i64 hi] w fun e w' => e = .returned (.bool true) ∧ Keep NoB w w' := by
  have hl := encL_len (zig a)
  have HXY := Lib.hid (zig_beq a b)
  have HZA := Lib.hid (fun w => zig_any a w a1 a2)
  have HZB := Lib.hid (fun w => zig_any b w b1 b2)
  have HTS := Lib.hid (fun w => tsigned_new w a a1 a2)
  have HLA := Lib.hid (zig_lt a a1 a2)
  have HS := Lib.hid (sig_enc a lo hi a1 a2)
  have HNZ1 := Lib.hid (zag_ge n hn.out)
  have HNZ2 := Lib.hid (zag_le n hn.out)
  go_enter Try.func8, Try.ntmps8
  go_wp2_with fail
  refine (alive_any _).mono ?_
  rintro e w1 ⟨rfl, hk1⟩
  go_wp2_with fail
  refine (HZA.out _).mono ?_
  rintro e w2 ⟨rfl, rfl⟩
  go_wp2_with fail
  refine (HZB.out _).mono ?_
  rintro e w2 ⟨rfl, rfl⟩
  go_wp2_with fail
  refine (HTS.out _).mono ?_
  rintro e w2 ⟨rfl, ht2, hk2⟩
  have hk2' := keepN hk1 hk2
  clear hk2
  go_wp2_with fail
  refine (all_at w2 w _ _ ht2 hl hk2').mono ?_
  rintro e w3 ⟨A, c, rfl, hr3, hk3⟩
  clear ht2 hk2'
  go_wp2_with fail
  refine (on_at w3 w A (encL (zig a)) c _ rfl hr3 hl hk3).mono ?_
  rintro e w4 ⟨br, rfl, h4, hk4⟩
  clear hr3 hk3
  go_wp2_with fail
  refine (rsigned_at w4 w br (encL (zig a)) lo hi 0 12 0 h4 hk4 hl (by rw [HS.out]; rw [if_pos (by omega)])).mono ?_
  rintro e w5 ⟨rfl, h5, hk5⟩
  clear h4 hk4
  go_wp2_with fail
  refine (zag_any (zig a) _ HLA.out).mono ?_
  rintro e w6 ⟨rfl, rfl⟩
  rw [zag_zig]
  go_wp2_with fail
  refine (zag_any n _ hn.out).mono ?_
  rintro e w6 ⟨rfl, rfl⟩
  go_wp2_with fail
  refine (zig_any (zag n) _ HNZ1.out HNZ2.out).mono ?_
  rintro e w6 ⟨rfl, rfl⟩
  rw [zig_zag]
  have hxy := HXY.out
  go_wp2_with fail
  refine (at_any w5 br (Fresh w) _ 0 h5).mono ?_
  rintro e w6 ⟨rfl, rfl⟩
  go_wp2_with fail
  go_ret
  exact ⟨rfl, hk5⟩

set_option maxRecDepth 100000 in
set_option maxHeartbeats 4000000 in
theorem zigs_far4_lo (n : Nat) (a b lo hi : Int) (w : World) (hn : Hid (n < 18446744073709551616)) (a1 : -9223372036854775808 ≤ a) (a2 : a ≤ 9223372036854775807) (b1 : -9223372036854775808 ≤ b) (b2 : b ≤ 9223372036854775807)
    (f1 : -4611686018427387904 < a) (f2 : a < 4611686018427387904) (f3 : -4611686018427387904 < b) (f4 : 4611686018427387904 ≤ b) (i1 : a < lo) :
    Calls Try.prog 8 #[.int .u64 n, .int .i64 a, .int .i64 b, .int .i64 lo, .int .i64 hi] w fun e w' => e = .returned (.bool true) ∧ Keep NoB w w' := by
  have hl := encL_len (zig a)
  have HXY := Lib.hid (zig_beq a b)
  have HZA := Lib.hid (fun w => zig_any a w a1 a2)
  have HZB := Lib.hid (fun w => zig_any b w b1 b2)
  have HTS := Lib.hid (fun w => tsigned_new w a a1 a2)
  have HLA := Lib.hid (zig_lt a a1 a2)
  have HS := Lib.hid (sig_enc a lo hi a1 a2)
  have HNZ1 := Lib.hid (zag_ge n hn.out)
  have HNZ2 := Lib.hid (zag_le n hn.out)
  go_enter Try.func8, Try.ntmps8
  go_wp2_with fail
  refine (alive_any _).mono ?_
  rintro e w1 ⟨rfl, hk1⟩
  go_wp2_with fail
  refine (HZA.out _).mono ?_
  rintro e w2 ⟨rfl, rfl⟩
  go_wp2_with fail
  refine (HZB.out _).mono ?_
  rintro e w2 ⟨rfl, rfl⟩
  go_wp2_with fail
  refine (HTS.out _).mono ?_
  rintro e w2 ⟨rfl, ht2, hk2⟩
  have hk2' := keepN hk1 hk2
  clear hk2
  go_wp2_with fail
  refine (all_at w2 w _ _ ht2 hl hk2').mono ?_
  rintro e w3 ⟨A, c, rfl, hr3, hk3⟩
  clear ht2 hk2'
  go_wp2_with fail
  refine (on_at w3 w A (encL (zig a)) c _ rfl hr3 hl hk3).mono ?_
  rintro e w4 ⟨br, rfl, h4, hk4⟩
  clear hr3 hk3
  go_wp2_with fail
  refine (rsigned_at w4 w br (encL (zig a)) lo hi 0 12 0 h4 hk4 hl (by rw [HS.out]; rw [if_pos (by omega)])).mono ?_
  rintro e w5 ⟨rfl, h5, hk5⟩
  clear h4 hk4
  go_wp2_with fail
  refine (zag_any (zig a) _ HLA.out).mono ?_
  rintro e w6 ⟨rfl, rfl⟩
  rw [zag_zig]
  go_wp2_with fail
  refine (zag_any n _ hn.out).mono ?_
  rintro e w6 ⟨rfl, rfl⟩
  go_wp2_with fail
  refine (zig_any (zag n) _ HNZ1.out HNZ2.out).mono ?_
  rintro e w6 ⟨rfl, rfl⟩
  rw [zig_zag]
  have hxy := HXY.out
  go_wp2_with fail
  refine (at_any w5 br (Fresh w) _ 0 h5).mono ?_
  rintro e w6 ⟨rfl, rfl⟩
  go_wp2_with fail
  go_ret
  exact ⟨rfl, hk5⟩

set_option maxRecDepth 100000 in
set_option maxHeartbeats 4000000 in
theorem zigs_far5_lo (n : Nat) (a b lo hi : Int) (w : World) (hn : Hid (n < 18446744073709551616)) (a1 : -9223372036854775808 ≤ a) (a2 : a ≤ 9223372036854775807) (b1 : -9223372036854775808 ≤ b) (b2 : b ≤ 9223372036854775807)
    (f1 : -4611686018427387904 < a) (f2 : a < 4611686018427387904) (f3 : -4611686018427387904 < b) (f4 : b < 4611686018427387904) (f5 : max b (-b) ≤ max a (-a)) (i1 : a < lo) :
    Calls Try.prog 8 #[.int .u64 n, .int .i64 a, .int .i64 b, .int .i64 lo, .int .i64 hi] w fun e w' => e = .returned (.bool true) ∧ Keep NoB w w' := by
  have hl := encL_len (zig a)
  have HXY := Lib.hid (zig_beq a b)
  have HZA := Lib.hid (fun w => zig_any a w a1 a2)
  have HZB := Lib.hid (fun w => zig_any b w b1 b2)
  have HTS := Lib.hid (fun w => tsigned_new w a a1 a2)
  have HLA := Lib.hid (zig_lt a a1 a2)
  have HS := Lib.hid (sig_enc a lo hi a1 a2)
  have HNZ1 := Lib.hid (zag_ge n hn.out)
  have HNZ2 := Lib.hid (zag_le n hn.out)
  go_enter Try.func8, Try.ntmps8
  go_wp2_with fail
  refine (alive_any _).mono ?_
  rintro e w1 ⟨rfl, hk1⟩
  go_wp2_with fail
  refine (HZA.out _).mono ?_
  rintro e w2 ⟨rfl, rfl⟩
  go_wp2_with fail
  refine (HZB.out _).mono ?_
  rintro e w2 ⟨rfl, rfl⟩
  go_wp2_with fail
  refine (HTS.out _).mono ?_
  rintro e w2 ⟨rfl, ht2, hk2⟩
  have hk2' := keepN hk1 hk2
  clear hk2
  go_wp2_with fail
  refine (all_at w2 w _ _ ht2 hl hk2').mono ?_
  rintro e w3 ⟨A, c, rfl, hr3, hk3⟩
  clear ht2 hk2'
  go_wp2_with fail
  refine (on_at w3 w A (encL (zig a)) c _ rfl hr3 hl hk3).mono ?_
  rintro e w4 ⟨br, rfl, h4, hk4⟩
  clear hr3 hk3
  go_wp2_with fail
  refine (rsigned_at w4 w br (encL (zig a)) lo hi 0 12 0 h4 hk4 hl (by rw [HS.out]; rw [if_pos (by omega)])).mono ?_
  rintro e w5 ⟨rfl, h5, hk5⟩
  clear h4 hk4
  go_wp2_with fail
  refine (zag_any (zig a) _ HLA.out).mono ?_
  rintro e w6 ⟨rfl, rfl⟩
  rw [zag_zig]
  go_wp2_with fail
  refine (zag_any n _ hn.out).mono ?_
  rintro e w6 ⟨rfl, rfl⟩
  go_wp2_with fail
  refine (zig_any (zag n) _ HNZ1.out HNZ2.out).mono ?_
  rintro e w6 ⟨rfl, rfl⟩
  rw [zig_zag]
  have hxy := HXY.out
  go_wp2_with fail
  refine (at_any w5 br (Fresh w) _ 0 h5).mono ?_
  rintro e w6 ⟨rfl, rfl⟩
  go_wp2_with fail
  go_ret
  exact ⟨rfl, hk5⟩

set_option maxRecDepth 100000 in
set_option maxHeartbeats 4000000 in
theorem zigs_near_hi (n : Nat) (a b lo hi : Int) (w : World) (hn : Hid (n < 18446744073709551616)) (a1 : -9223372036854775808 ≤ a) (a2 : a ≤ 9223372036854775807) (b1 : -9223372036854775808 ≤ b) (b2 : b ≤ 9223372036854775807)
    (n1 : -4611686018427387904 < a) (n2 : a < 4611686018427387904) (n3 : -4611686018427387904 < b) (n4 : b < 4611686018427387904) (n5 : max a (-a) < max b (-b)) (i1 : lo ≤ a) (i2 : hi < a) :
    Calls Try.prog 8 #[.int .u64 n, .int .i64 a, .int .i64 b, .int .i64 lo, .int .i64 hi] w fun e w' => e = .returned (.bool true) ∧ Keep NoB w w' := by
  have hl := encL_len (zig a)
  have HXY := Lib.hid (zig_beq a b)
  have HZA := Lib.hid (fun w => zig_any a w a1 a2)
  have HZB := Lib.hid (fun w => zig_any b w b1 b2)
  have HTS := Lib.hid (fun w => tsigned_new w a a1 a2)
  have HLA := Lib.hid (zig_lt a a1 a2)
  have HS := Lib.hid (sig_enc a lo hi a1 a2)
  have HNZ1 := Lib.hid (zag_ge n hn.out)
  have HNZ2 := Lib.hid (zag_le n hn.out)
  have hwle := zig_near a b n5
  go_enter Try.func8, Try.ntmps8
  go_wp2_with fail
  refine (alive_any _).mono ?_
  rintro e w1 ⟨rfl, hk1⟩
  go_wp2_with fail
  refine (HZA.out _).mono ?_
  rintro e w2 ⟨rfl, rfl⟩
  go_wp2_with fail
  refine (HZB.out _).mono ?_
  rintro e w2 ⟨rfl, rfl⟩
  go_wp2_with fail
  refine (HTS.out _).mono ?_
  rintro e w2 ⟨rfl, ht2, hk2⟩
  have hk2' := keepN hk1 hk2
  clear hk2
  go_wp2_with fail
  refine (all_at w2 w _ _ ht2 hl hk2').mono ?_
  rintro e w3 ⟨A, c, rfl, hr3, hk3⟩
  clear ht2 hk2'
  go_wp2_with fail
  refine (on_at w3 w A (encL (zig a)) c _ rfl hr3 hl hk3).mono ?_
  rintro e w4 ⟨br, rfl, h4, hk4⟩
  clear hr3 hk3
  go_wp2_with fail
  refine (rsigned_at w4 w br (encL (zig a)) lo hi 0 12 0 h4 hk4 hl (by rw [HS.out]; rw [if_pos (by omega)])).mono ?_
  rintro e w5 ⟨rfl, h5, hk5⟩
  clear h4 hk4
  go_wp2_with fail
  refine (zag_any (zig a) _ HLA.out).mono ?_
  rintro e w6 ⟨rfl, rfl⟩
  rw [zag_zig]
  go_wp2_with fail
  refine (zag_any n _ hn.out).mono ?_
  rintro e w6 ⟨rfl, rfl⟩
  go_wp2_with fail
  refine (zig_any (zag n) _ HNZ1.out HNZ2.out).mono ?_
  rintro e w6 ⟨rfl, rfl⟩
  rw [zig_zag]
  have hxy := HXY.out
  go_wp2_with fail
  refine (width_any (zig a) _).mono ?_
  rintro e w6 ⟨rfl, rfl⟩
  go_wp2_with fail
  refine (width_any (zig b) _).mono ?_
  rintro e w6 ⟨rfl, rfl⟩
  go_wp2_with fail
  refine (at_any w5 br (Fresh w) _ 0 h5).mono ?_
  rintro e w6 ⟨rfl, rfl⟩
  go_wp2_with fail
  go_ret
  exact ⟨rfl, hk5⟩

set_option maxRecDepth 100000 in
set_option maxHeartbeats 4000000 in
theorem zigs_far1_hi (n : Nat) (a b lo hi : Int) (w : World) (hn : Hid (n < 18446744073709551616)) (a1 : -9223372036854775808 ≤ a) (a2 : a ≤ 9223372036854775807) (b1 : -9223372036854775808 ≤ b) (b2 : b ≤ 9223372036854775807)
    (f1 : a ≤ -4611686018427387904) (i1 : lo ≤ a) (i2 : hi < a) :
    Calls Try.prog 8 #[.int .u64 n, .int .i64 a, .int .i64 b, .int .i64 lo, .int .i64 hi] w fun e w' => e = .returned (.bool true) ∧ Keep NoB w w' := by
  have hl := encL_len (zig a)
  have HXY := Lib.hid (zig_beq a b)
  have HZA := Lib.hid (fun w => zig_any a w a1 a2)
  have HZB := Lib.hid (fun w => zig_any b w b1 b2)
  have HTS := Lib.hid (fun w => tsigned_new w a a1 a2)
  have HLA := Lib.hid (zig_lt a a1 a2)
  have HS := Lib.hid (sig_enc a lo hi a1 a2)
  have HNZ1 := Lib.hid (zag_ge n hn.out)
  have HNZ2 := Lib.hid (zag_le n hn.out)
  go_enter Try.func8, Try.ntmps8
  go_wp2_with fail
  refine (alive_any _).mono ?_
  rintro e w1 ⟨rfl, hk1⟩
  go_wp2_with fail
  refine (HZA.out _).mono ?_
  rintro e w2 ⟨rfl, rfl⟩
  go_wp2_with fail
  refine (HZB.out _).mono ?_
  rintro e w2 ⟨rfl, rfl⟩
  go_wp2_with fail
  refine (HTS.out _).mono ?_
  rintro e w2 ⟨rfl, ht2, hk2⟩
  have hk2' := keepN hk1 hk2
  clear hk2
  go_wp2_with fail
  refine (all_at w2 w _ _ ht2 hl hk2').mono ?_
  rintro e w3 ⟨A, c, rfl, hr3, hk3⟩
  clear ht2 hk2'
  go_wp2_with fail
  refine (on_at w3 w A (encL (zig a)) c _ rfl hr3 hl hk3).mono ?_
  rintro e w4 ⟨br, rfl, h4, hk4⟩
  clear hr3 hk3
  go_wp2_with fail
  refine (rsigned_at w4 w br (encL (zig a)) lo hi 0 12 0 h4 hk4 hl (by rw [HS.out]; rw [if_pos (by omega)])).mono ?_
  rintro e w5 ⟨rfl, h5, hk5⟩
  clear h4 hk4
  go_wp2_with fail
  refine (zag_any (zig a) _ HLA.out).mono ?_
  rintro e w6 ⟨rfl, rfl⟩
  rw [zag_zig]
  go_wp2_with fail
  refine (zag_any n _ hn.out).mono ?_
  rintro e w6 ⟨rfl, rfl⟩
  go_wp2_with fail
  refine (zig_any (zag n) _ HNZ1.out HNZ2.out).mono ?_
  rintro e w6 ⟨rfl, rfl⟩
  rw [zig_zag]
  have hxy := HXY.out
  go_wp2_with fail
  refine (at_any w5 br (Fresh w) _ 0 h5).mono ?_
  rintro e w6 ⟨rfl, rfl⟩
  go_wp2_with fail
  go_ret
  exact ⟨rfl, hk5⟩

set_option maxRecDepth 100000 in
set_option maxHeartbeats 4000000 in
theorem zigs_far2_hi (n : Nat) (a b lo hi : Int) (w : World) (hn : Hid (n < 18446744073709551616)) (a1 : -9223372036854775808 ≤ a) (a2 : a ≤ 9223372036854775807) (b1 : -9223372036854775808 ≤ b) (b2 : b ≤ 9223372036854775807)
    (f1 : -4611686018427387904 < a) (f2 : 4611686018427387904 ≤ a) (i1 : lo ≤ a) (i2 : hi < a) :
    Calls Try.prog 8 #[.int .u64 n, .int .i64 a, .int .i64 b, .int .i64 lo, .int .i64 hi] w fun e w' => e = .returned (.bool true) ∧ Keep NoB w w' := by
  have hl := encL_len (zig a)
  have HXY := Lib.hid (zig_beq a b)
  have HZA := Lib.hid (fun w => zig_any a w a1 a2)
  have HZB := Lib.hid (fun w => zig_any b w b1 b2)
  have HTS := Lib.hid (fun w => tsigned_new w a a1 a2)
  have HLA := Lib.hid (zig_lt a a1 a2)
  have HS := Lib.hid (sig_enc a lo hi a1 a2)
  have HNZ1 := Lib.hid (zag_ge n hn.out)
  have HNZ2 := Lib.hid (zag_le n hn.out)
  go_enter Try.func8, Try.ntmps8
  go_wp2_with fail
  refine (alive_any _).mono ?_
  rintro e w1 ⟨rfl, hk1⟩
  go_wp2_with fail
  refine (HZA.out _).mono ?_
  rintro e w2 ⟨rfl, rfl⟩
  go_wp2_with fail
  refine (HZB.out _).mono ?_
  rintro e w2 ⟨rfl, rfl⟩
  go_wp2_with fail
  refine (HTS.out _).mono ?_
  rintro e w2 ⟨rfl, ht2, hk2⟩
  have hk2' := keepN hk1 hk2
  clear hk2
  go_wp2_with fail
  refine (all_at w2 w _ _ ht2 hl hk2').mono ?_
  rintro e w3 ⟨A, c, rfl, hr3, hk3⟩
  clear ht2 hk2'
  go_wp2_with fail
  refine (on_at w3 w A (encL (zig a)) c _ rfl hr3 hl hk3).mono ?_
  rintro e w4 ⟨br, rfl, h4, hk4⟩
  clear hr3 hk3
  go_wp2_with fail
  refine (rsigned_at w4 w br (encL (zig a)) lo hi 0 12 0 h4 hk4 hl (by rw [HS.out]; rw [if_pos (by omega)])).mono ?_
  rintro e w5 ⟨rfl, h5, hk5⟩
  clear h4 hk4
  go_wp2_with fail
  refine (zag_any (zig a) _ HLA.out).mono ?_
  rintro e w6 ⟨rfl, rfl⟩
  rw [zag_zig]
  go_wp2_with fail
  refine (zag_any n _ hn.out).mono ?_
  rintro e w6 ⟨rfl, rfl⟩
  go_wp2_with fail
  refine (zig_any (zag n) _ HNZ1.out HNZ2.out).mono ?_
  rintro e w6 ⟨rfl, rfl⟩
  rw [zig_zag]
  have hxy := HXY.out
  go_wp2_with fail
  refine (at_any w5 br (Fresh w) _ 0 h5).mono ?_
  rintro e w6 ⟨rfl, rfl⟩
  go_wp2_with fail
  go_ret
  exact ⟨rfl, hk5⟩

set_option maxRecDepth 100000 in
set_option maxHeartbeats 4000000 in
theorem zigs_far3_hi (n : Nat) (a b lo hi : Int) (w : World) (hn : Hid (n < 18446744073709551616)) (a1 : -9223372036854775808 ≤ a) (a2 : a ≤ 9223372036854775807) (b1 : -9223372036854775808 ≤ b) (b2 : b ≤ 9223372036854775807)
    (f1 : -4611686018427387904 < a) (f2 : a < 4611686018427387904) (f3 : b ≤ -4611686018427387904) (i1 : lo ≤ a) (i2 : hi < a) :
    Calls Try.prog 8 #[.int .u64 n, .int .i64 a, .int .i64 b, .int .i64 lo, .int .i64 hi] w fun e w' => e = .returned (.bool true) ∧ Keep NoB w w' := by
  have hl := encL_len (zig a)
  have HXY := Lib.hid (zig_beq a b)
  have HZA := Lib.hid (fun w => zig_any a w a1 a2)
  have HZB := Lib.hid (fun w => zig_any b w b1 b2)
  have HTS := Lib.hid (fun w => tsigned_new w a a1 a2)
  have HLA := Lib.hid (zig_lt a a1 a2)
  have HS := Lib.hid (sig_enc a lo hi a1 a2)
  have HNZ1 := Lib.hid (zag_ge n hn.out)
  have HNZ2 := Lib.hid (zag_le n hn.out)
  go_enter Try.func8, Try.ntmps8
  go_wp2_with fail
  refine (alive_any _).mono ?_
  rintro e w1 ⟨rfl, hk1⟩
  go_wp2_with fail
  refine (HZA.out _).mono ?_
  rintro e w2 ⟨rfl, rfl⟩
  go_wp2_with fail
  refine (HZB.out _).mono ?_
  rintro e w2 ⟨rfl, rfl⟩
  go_wp2_with fail
  refine (HTS.out _).mono ?_
  rintro e w2 ⟨rfl, ht2, hk2⟩
  have hk2' := keepN hk1 hk2
  clear hk2
  go_wp2_with fail
  refine (all_at w2 w _ _ ht2 hl hk2').mono ?_
  rintro e w3 ⟨A, c, rfl, hr3, hk3⟩
  clear ht2 hk2'
  go_wp2_with fail
  refine (on_at w3 w A (encL (zig a)) c _ rfl hr3 hl hk3).mono ?_
  rintro e w4 ⟨br, rfl, h4, hk4⟩
  clear hr3 hk3
  go_wp2_with fail
  refine (rsigned_at w4 w br (encL (zig a)) lo hi 0 12 0 h4 hk4 hl (by rw [HS.out]; rw [if_pos (by omega)])).mono ?_
  rintro e w5 ⟨rfl, h5, hk5⟩
  clear h4 hk4
  go_wp2_with fail
  refine (zag_any (zig a) _ HLA.out).mono ?_
  rintro e w6 ⟨rfl, rfl⟩
  rw [zag_zig]
  go_wp2_with fail
  refine (zag_any n _ hn.out).mono ?_
  rintro e w6 ⟨rfl, rfl⟩
  go_wp2_with fail
  refine (zig_any (zag n) _ HNZ1.out HNZ2.out).mono ?_
  rintro e w6 ⟨rfl, rfl⟩
  rw [zig_zag]
  have hxy := HXY.out
  go_wp2_with fail
  refine (at_any w5 br (Fresh w) _ 0 h5).mono ?_
  rintro e w6 ⟨rfl, rfl⟩
  go_wp2_with fail
  go_ret
  exact ⟨rfl, hk5⟩

set_option maxRecDepth 100000 in
set_option maxHeartbeats 4000000 in
theorem zigs_far4_hi (n : Nat) (a b lo hi : Int) (w : World) (hn : Hid (n < 18446744073709551616)) (a1 : -9223372036854775808 ≤ a) (a2 : a ≤ 9223372036854775807) (b1 : -9223372036854775808 ≤ b) (b2 : b ≤ 9223372036854775807)
    (f1 : -4611686018427387904 < a) (f2 : a < 4611686018427387904) (f3 : -4611686018427387904 < b) (f4 : 4611686018427387904 ≤ b) (i1 : lo ≤ a) (i2 : hi < a) :
    Calls Try.prog 8 #[.int .u64 n, .int .i64 a, .int .i64 b, .int .i64 lo, .int .i64 hi] w fun e w' => e = .returned (.bool true) ∧ Keep NoB w w' := by
  have hl := encL_len (zig a)
  have HXY := Lib.hid (zig_beq a b)
  have HZA := Lib.hid (fun w => zig_any a w a1 a2)
  have HZB := Lib.hid (fun w => zig_any b w b1 b2)
  have HTS := Lib.hid (fun w => tsigned_new w a a1 a2)
  have HLA := Lib.hid (zig_lt a a1 a2)
  have HS := Lib.hid (sig_enc a lo hi a1 a2)
  have HNZ1 := Lib.hid (zag_ge n hn.out)
  have HNZ2 := Lib.hid (zag_le n hn.out)
  go_enter Try.func8, Try.ntmps8
  go_wp2_with fail
  refine (alive_any _).mono ?_
  rintro e w1 ⟨rfl, hk1⟩
  go_wp2_with fail
  refine (HZA.out _).mono ?_
  rintro e w2 ⟨rfl, rfl⟩
  go_wp2_with fail
  refine (HZB.out _).mono ?_
  rintro e w2 ⟨rfl, rfl⟩
  go_wp2_with fail
  refine (HTS.out _).mono ?_
  rintro e w2 ⟨rfl, ht2, hk2⟩
  have hk2' := keepN hk1 hk2
  clear hk2
  go_wp2_with fail
  refine (all_at w2 w _ _ ht2 hl hk2').mono ?_
  rintro e w3 ⟨A, c, rfl, hr3, hk3⟩
  clear ht2 hk2'
  go_wp2_with fail
  refine (on_at w3 w A (encL (zig a)) c _ rfl hr3 hl hk3).mono ?_
  rintro e w4 ⟨br, rfl, h4, hk4⟩
  clear hr3 hk3
  go_wp2_with fail
  refine (rsigned_at w4 w br (encL (zig a)) lo hi 0 12 0 h4 hk4 hl (by rw [HS.out]; rw [if_pos (by omega)])).mono ?_
  rintro e w5 ⟨rfl, h5, hk5⟩
  clear h4 hk4
  go_wp2_with fail
  refine (zag_any (zig a) _ HLA.out).mono ?_
  rintro e w6 ⟨rfl, rfl⟩
  rw [zag_zig]
  go_wp2_with fail
  refine (zag_any n _ hn.out).mono ?_
  rintro e w6 ⟨rfl, rfl⟩
  go_wp2_with fail
  refine (zig_any (zag n) _ HNZ1.out HNZ2.out).mono ?_
  rintro e w6 ⟨rfl, rfl⟩
  rw [zig_zag]
  have hxy := HXY.out
  go_wp2_with fail
  refine (at_any w5 br (Fresh w) _ 0 h5).mono ?_
  rintro e w6 ⟨rfl, rfl⟩
  go_wp2_with fail
  go_ret
  exact ⟨rfl, hk5⟩

set_option maxRecDepth 100000 in
set_option maxHeartbeats 4000000 in
theorem zigs_far5_hi (n : Nat) (a b lo hi : Int) (w : World) (hn : Hid (n < 18446744073709551616)) (a1 : -9223372036854775808 ≤ a) (a2 : a ≤ 9223372036854775807) (b1 : -9223372036854775808 ≤ b) (b2 : b ≤ 9223372036854775807)
    (f1 : -4611686018427387904 < a) (f2 : a < 4611686018427387904) (f3 : -4611686018427387904 < b) (f4 : b < 4611686018427387904) (f5 : max b (-b) ≤ max a (-a)) (i1 : lo ≤ a) (i2 : hi < a) :
    Calls Try.prog 8 #[.int .u64 n, .int .i64 a, .int .i64 b, .int .i64 lo, .int .i64 hi] w fun e w' => e = .returned (.bool true) ∧ Keep NoB w w' := by
  have hl := encL_len (zig a)
  have HXY := Lib.hid (zig_beq a b)
  have HZA := Lib.hid (fun w => zig_any a w a1 a2)
  have HZB := Lib.hid (fun w => zig_any b w b1 b2)
  have HTS := Lib.hid (fun w => tsigned_new w a a1 a2)
  have HLA := Lib.hid (zig_lt a a1 a2)
  have HS := Lib.hid (sig_enc a lo hi a1 a2)
  have HNZ1 := Lib.hid (zag_ge n hn.out)
  have HNZ2 := Lib.hid (zag_le n hn.out)
  go_enter Try.func8, Try.ntmps8
  go_wp2_with fail
  refine (alive_any _).mono ?_
  rintro e w1 ⟨rfl, hk1⟩
  go_wp2_with fail
  refine (HZA.out _).mono ?_
  rintro e w2 ⟨rfl, rfl⟩
  go_wp2_with fail
  refine (HZB.out _).mono ?_
  rintro e w2 ⟨rfl, rfl⟩
  go_wp2_with fail
  refine (HTS.out _).mono ?_
  rintro e w2 ⟨rfl, ht2, hk2⟩
  have hk2' := keepN hk1 hk2
  clear hk2
  go_wp2_with fail
  refine (all_at w2 w _ _ ht2 hl hk2').mono ?_
  rintro e w3 ⟨A, c, rfl, hr3, hk3⟩
  clear ht2 hk2'
  go_wp2_with fail
  refine (on_at w3 w A (encL (zig a)) c _ rfl hr3 hl hk3).mono ?_
  rintro e w4 ⟨br, rfl, h4, hk4⟩
  clear hr3 hk3
  go_wp2_with fail
  refine (rsigned_at w4 w br (encL (zig a)) lo hi 0 12 0 h4 hk4 hl (by rw [HS.out]; rw [if_pos (by omega)])).mono ?_
  rintro e w5 ⟨rfl, h5, hk5⟩
  clear h4 hk4
  go_wp2_with fail
  refine (zag_any (zig a) _ HLA.out).mono ?_
  rintro e w6 ⟨rfl, rfl⟩
  rw [zag_zig]
  go_wp2_with fail
  refine (zag_any n _ hn.out).mono ?_
  rintro e w6 ⟨rfl, rfl⟩
  go_wp2_with fail
  refine (zig_any (zag n) _ HNZ1.out HNZ2.out).mono ?_
  rintro e w6 ⟨rfl, rfl⟩
  rw [zig_zag]
  have hxy := HXY.out
  go_wp2_with fail
  refine (at_any w5 br (Fresh w) _ 0 h5).mono ?_
  rintro e w6 ⟨rfl, rfl⟩
  go_wp2_with fail
  go_ret
  exact ⟨rfl, hk5⟩

end Go.Proofs.Ytfdgdheopifnjaa
