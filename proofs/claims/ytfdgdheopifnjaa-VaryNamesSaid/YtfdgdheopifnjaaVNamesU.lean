/-
  What VaryNames calls: strings.Repeat seven times, the law's own reads, the Tape and the Reel that are nil, a Reel that has nothing, bytes that are written out. Conditions: no more than 2^47 bytes.
-/
import Derived.Test.YtfdgdheopifnjaaVReadsU
import Derived.Test.YtfdgdheopifnjaaVAlive
import Derived.Test.YtfdgdheopifnjaaVShelf2
import Derived.Lib.SlBytesConst
namespace Go.Proofs.Ytfdgdheopifnjaa
open Go.RowKit

theorem rep_at (b : UInt8) (l : List UInt8) (w : World) (h : Lib.repeatL [b] 7 = l) :
    Calls Try.prog 36 #[.string (str [b]), .int .i64 7] w fun e w' => e = .returned (.string (str l)) ∧ Keep NoB w w' := by
  refine (Try.strings_Repeat (str [b]) 7 w (by decide) (by show 1 * 7 ≤ _; decide)).mono ?_
  rintro e w' ⟨rfl, hb⟩
  subst h
  exact ⟨rfl, Keep.of_below hb⟩

/-- Bytes in a row of their own. -/
theorem rd_row (w : World) (l : List UInt8) (C : Array Value) (fr : Nat × Nat) (hC : ∀ (j : Nat) (u : Value), (bvs l)[j]? = some u → C[j]? = some u) :
    Rd (w.alloc (.cells C 5 fr)) (some ⟨w.heap.size, 0, none⟩) l := fun _ =>
  ⟨_, rfl, fun j u hu => by
    have e : (⟨w.heap.size, 0, none⟩ : Addr).add j = ⟨w.heap.size, j, none⟩ := by unfold Addr.add; split <;> simp_all
    rw [e, World.cell?_alloc_mark]
    exact hC j u hu⟩

theorem conv_str (w : World) (l : List UInt8) : ∃ w' c, (convert 9 27 (.string (str l))).run Try.prog w = .ok (.slice (some ⟨w.heap.size, 0, none⟩) l.length c) w' ∧ Rd w' (some ⟨w.heap.size, 0, none⟩) l ∧ Keep NoB w w' := by
  have h := run_bytes_of_string w 9 27 5 (str l) Try.underlying9 Try.underlying27 Try.underlying5
  refine ⟨_, _, h, ?_, ((Keep.refl NoB w).drew).alloc _⟩
  refine rd_row w.drew l _ _ (fun j u hu => ?_)
  obtain ⟨hj, rfl⟩ := List.getElem?_eq_some_iff.1 hu
  rw [bytesRow_at (str l) _ j (by simpa using hj)]
  simp

theorem vnum_at (w : World) (br : Nat) (O : Nat → Prop) (s : List UInt8) (p n : Nat) (N : Int) (h : ReelAt w br O s p) (hlen : s.length ≤ 140737488355328) (hN : N = n) (v er q : Nat) (hs : Hid (NumR s p n = (v, er, q))) :
    Calls Try.prog 25 #[.pointer (some ⟨br, 0, none⟩), .int .u64 N] w fun e w' => e = .returned (.tuple #[.int .u64 (v : Int), .int .i64 (er : Int)]) ∧ ReelAt w' br O s q ∧ Keep (fun k => k = br) w w' := by
  subst hN
  have := rnumber_any w br O s p n h hlen
  rw [hs.out] at this
  exact this
theorem vsig_at (w : World) (br : Nat) (O : Nat → Prop) (s : List UInt8) (p : Nat) (lo hi : Int) (h : ReelAt w br O s p) (hlen : s.length ≤ 140737488355328) (v : Int) (er q : Nat) (hs : Hid (SigR s p lo hi = (v, er, q))) :
    Calls Try.prog 27 #[.pointer (some ⟨br, 0, none⟩), .int .i64 lo, .int .i64 hi] w fun e w' => e = .returned (.tuple #[.int .i64 v, .int .i64 (er : Int)]) ∧ ReelAt w' br O s q ∧ Keep (fun k => k = br) w w' := by
  have := rsigned_any w br O s p lo hi h hlen
  rw [hs.out] at this
  exact this
theorem at_is (w : World) (br : Nat) (O : Nat → Prop) (l : List UInt8) (p : Nat) (h : ReelAt w br O l p) :
    Calls Try.prog 33 #[.pointer (some ⟨br, 0, none⟩)] w fun e w' => e = .returned (.int .i64 p) ∧ w' = w :=
  (at_any w br O l p h).mono fun _ _ ⟨h1, h2⟩ => ⟨h1, h2.symm⟩

set_option maxRecDepth 100000 in
set_option maxHeartbeats 2000000 in
/-- The law's own reads: true, where the bytes are read so. -/
theorem reads_at (l : List UInt8) (most want er : Nat) (M N E : Int) (w : World) (hl : l.length ≤ 140737488355328) (hM : M = most) (hN : N = want) (hE : E = er) (hs : Hid (NumR l 0 most = (want, er, if er = 0 then wd want else 0))) :
    Calls Try.prog 38 #[.string (str l), .int .u64 M, .int .u64 N, .int .i64 E] w fun e w' => e = .returned (.bool true) ∧ Keep NoB w w' := by
  subst hM hN hE
  obtain ⟨w1, c, hcv, hr1, hk1⟩ := conv_str w l
  by_cases her : er = 0
  · have hs' : Hid (NumR l 0 most = (want, er, wd want)) := by
      have := hs.out
      rw [if_pos her] at this
      exact Lib.hid this
    have he : ((er : Int) == 0) = true := by rw [beq_iff_eq]; omega
    clear hs her
    go_enter Try.func38, Try.ntmps38
    go_wp2_with fail
    refine (on_any w1 _ l c hr1 hl).mono ?_
    rintro e w2 ⟨br, rfl, hR, hk2⟩
    have hk := keepN hk1 hk2
    have hb0 := hR.1
    have hsz := hk1.size
    unfold Fresh at hb0
    clear hk1 hk2 hcv hr1
    go_wp2_with fail
    refine (vnum_at w2 br _ l 0 most _ hR hl rfl want er (wd want) hs').mono ?_
    rintro e w3 ⟨rfl, hR3, hk3⟩
    have hK : Keep NoB w w3 := hk.trans hk3 (fun k e h => by omega)
    clear hk hk3 hR
    go_wp2_with fail
    refine (width_any want w3).mono ?_
    rintro e w4 ⟨rfl, rfl⟩
    go_wp2_with fail
    refine (at_is _ br _ l _ hR3).mono ?_
    rintro e w5 ⟨rfl, rfl⟩
    go_wp2
    go_ret
    exact ⟨rfl, hK⟩
  · have hs' : Hid (NumR l 0 most = (want, er, 0)) := by
      have := hs.out
      rw [if_neg her] at this
      exact Lib.hid this
    have he : ((er : Int) == 0) = false := by rw [beq_eq_false_iff_ne]; omega
    clear hs her
    go_enter Try.func38, Try.ntmps38
    go_wp2_with fail
    refine (on_any w1 _ l c hr1 hl).mono ?_
    rintro e w2 ⟨br, rfl, hR, hk2⟩
    have hk := keepN hk1 hk2
    have hb0 := hR.1
    have hsz := hk1.size
    unfold Fresh at hb0
    clear hk1 hk2 hcv hr1
    go_wp2_with fail
    refine (vnum_at w2 br _ l 0 most _ hR hl rfl want er 0 hs').mono ?_
    rintro e w3 ⟨rfl, hR3, hk3⟩
    have hK : Keep NoB w w3 := hk.trans hk3 (fun k e h => by omega)
    clear hk hk3 hR
    go_wp2_with fail
    refine (at_is w3 br _ l _ hR3).mono ?_
    rintro e w5 ⟨rfl, rfl⟩
    go_wp2
    go_ret
    exact ⟨rfl, hK⟩

section
set_option maxHeartbeats 400000
theorem write_no (w : World) (A : Option Addr) (n c : Nat) :
    Calls Try.prog 42 #[.pointer none, .slice A n c] w fun e w' => e = .returned (.pointer none) ∧ w' = w := by
  go_enter Try.func42, Try.ntmps42
  go_wp2
  go_ret
  exact ⟨rfl, rfl⟩
theorem tnumber_no (w : World) (n : Nat) (N : Int) (hN : N = n) :
    Calls Try.prog 19 #[.pointer none, .int .u64 N] w fun e w' => e = .returned (.pointer none) ∧ Keep NoB w w' := by
  subst hN
  go_enter Try.func19, Try.ntmps19
  go_wp2_with fail
  refine (encode_own n w).mono ?_
  rintro e w1 ⟨v, rfl, hv1, hk1⟩
  obtain ⟨A, c, rfl, _⟩ := hv1.form
  go_wp2_with fail
  refine (write_no w1 A _ c).mono ?_
  rintro e w2 ⟨rfl, rfl⟩
  go_wp2
  go_ret
  exact ⟨rfl, hk1⟩
theorem tsigned_no (w : World) (n : Int) (h1 : -9223372036854775808 ≤ n) (h2 : n ≤ 9223372036854775807) :
    Calls Try.prog 20 #[.pointer none, .int .i64 n] w fun e w' => e = .returned (.pointer none) ∧ Keep NoB w w' := by
  go_enter Try.func20, Try.ntmps20
  go_wp2_with fail
  refine (zig_any n w h1 h2).mono ?_
  rintro e w1 ⟨rfl, rfl⟩
  go_wp2_with fail
  refine (tnumber_no _ (zig n) _ rfl).mono ?_
  rintro e w2 ⟨rfl, hk⟩
  go_wp2
  go_ret
  exact ⟨rfl, hk⟩
theorem tbytes_no (w : World) :
    Calls Try.prog 22 #[.pointer none, .slice none 0 0] w fun e w' => e = .returned (.pointer none) ∧ Keep NoB w w' := by
  go_enter Try.func22, Try.ntmps22
  go_wp2_with fail
  refine (tnumber_no w 0 _ rfl).mono ?_
  rintro e w1 ⟨rfl, hk⟩
  go_wp2_with fail
  refine (write_no w1 none 0 0).mono ?_
  rintro e w2 ⟨rfl, rfl⟩
  go_wp2
  go_ret
  exact ⟨rfl, hk⟩
theorem all_no (w : World) :
    Calls Try.prog 23 #[.pointer none] w fun e w' => e = .returned (.slice none 0 0) ∧ w' = w := by
  go_enter Try.func23, Try.ntmps23
  go_wp2
  go_ret
  exact ⟨rfl, rfl⟩
theorem rnumber_no (w : World) (N : Int) :
    Calls Try.prog 25 #[.pointer none, .int .u64 N] w fun e w' => e = .returned (.tuple #[.int .u64 0, .int .i64 1]) ∧ w' = w := by
  go_enter Try.func25, Try.ntmps25
  go_wp2
  go_ret2
  exact ⟨rfl, rfl⟩
theorem rsigned_no (w : World) (a b : Int) :
    Calls Try.prog 27 #[.pointer none, .int .i64 a, .int .i64 b] w fun e w' => e = .returned (.tuple #[.int .i64 0, .int .i64 1]) ∧ w' = w := by
  go_enter Try.func27, Try.ntmps27
  go_wp2
  go_ret2
  exact ⟨rfl, rfl⟩
theorem rbytes_no (w : World) (a : Int) :
    Calls Try.prog 29 #[.pointer none, .int .i64 a] w fun e w' => e = .returned (.tuple #[.slice none 0 0, .int .i64 1]) ∧ w' = w := by
  go_enter Try.func29, Try.ntmps29
  go_wp2
  go_ret2
  exact ⟨rfl, rfl⟩
theorem rraw_no (w : World) (a : Int) :
    Calls Try.prog 31 #[.pointer none, .int .i64 a] w fun e w' => e = .returned (.tuple #[.slice none 0 0, .int .i64 1]) ∧ w' = w := by
  go_enter Try.func31, Try.ntmps31
  go_wp2
  go_ret2
  exact ⟨rfl, rfl⟩
theorem at_no (w : World) :
    Calls Try.prog 33 #[.pointer none] w fun e w' => e = .returned (.int .i64 0) ∧ w' = w := by
  go_enter Try.func33, Try.ntmps33
  go_wp2
  go_ret
  exact ⟨rfl, rfl⟩
theorem end_no (w : World) :
    Calls Try.prog 34 #[.pointer none] w fun e w' => e = .returned (.int .i64 1) ∧ w' = w := by
  go_enter Try.func34, Try.ntmps34
  go_wp2
  go_ret
  exact ⟨rfl, rfl⟩
end

/-- A Reel that has nothing. -/
theorem ReelAt.zero (w : World) : ReelAt (w.alloc (.cells #[.slice none 0 0, .int .i64 0] 68)) w.heap.size (Fresh w) [] 0 :=
  ⟨Nat.le_refl _, Nat.le_refl _, none, 0, Blk.new _ _ _, Rd.none_ _ _, Nat.le_refl _, by simp, by simp⟩

theorem ReelAt.lt {w : World} {br p : Nat} {O : Nat → Prop} {l : List UInt8} (h : ReelAt w br O l p) : br < w.heap.size := by
  obtain ⟨A, c, hb, _⟩ := h.cells
  exact hb.lt

/-- On of bytes that are written out. -/
theorem on_lit (w : World) (l : List UInt8) (C : Array Value) (fr : Nat × Nat) (n c : Nat) (hn : n = l.length) (hb : l.length ≤ 140737488355328) (hC : C = (bvs l).toArray) :
    Calls Try.prog 24 #[.slice (some ⟨w.heap.size, 0, none⟩) n c] (w.alloc (.cells C 5 fr)) fun e w' => ∃ br, e = .returned (.pointer (some ⟨br, 0, none⟩)) ∧ ReelAt w' br (Fresh w) l 0 ∧ Keep NoB w w' ∧ w.heap.size ≤ br := by
  subst hn hC
  refine (on_any _ _ l c (rd_row w l _ fr (fun j u hu => by simpa using hu)) hb).mono ?_
  rintro e w' ⟨br, he, hR, hk⟩
  have h0 : Keep NoB w (w.alloc (.cells (bvs l).toArray 5 fr)) := (Keep.refl NoB w).alloc _
  have hsz := h0.size
  have hbr := hR.1
  unfold Fresh at hbr
  exact ⟨br, he, hR.mono (fun k h _ => by unfold Fresh at h ⊢; omega), keepN h0 hk, by omega⟩

/-- Bytes were handed out, and they read as the string S. -/
def GaveS (w : World) (br : Nat) (O : Nat → Prop) (s : List UInt8) (q n er : Nat) (S : ByteArray) (e : Ending) (w' : World) : Prop :=
  ∃ A c, e = .returned (.tuple #[.slice A n c, .int .i64 (er : Int)]) ∧ Hid (∀ w'', Keep (fun k => k = br) w' w'' → (convert 27 9 (.slice A n c)).run Try.prog w'' = .ok (.string S) w'') ∧ ReelAt w' br O s q ∧ Keep (fun k => k = br) w w'
theorem gaves {w w' : World} {br q n er : Nat} {O : Nat → Prop} {s l : List UInt8} {S : ByteArray} {e : Ending} (hbr : br < w.heap.size) (hn : l.length = n) (hS : str l = S) (h : Gave w br l er (fun w' => ReelAt w' br O s q) e w') : GaveS w br O s q n er S e w' := by
  subst hn hS
  obtain ⟨A, c, he, ho, hR, hk⟩ := h
  refine ⟨A, c, he, ?_, hR, hk⟩
  show ∀ w'', _ → _
  intro w'' hk'
  obtain ⟨A', c', ee, _, hr, _⟩ := (ho.keep hk' (fun k h e => by unfold Fresh at h; omega)).form
  simp only [Value.slice.injEq, true_and] at ee
  obtain ⟨rfl, rfl⟩ := ee
  exact conv_rd hr
theorem bytes_str (w : World) (br : Nat) (O : Nat → Prop) (s : List UInt8) (p : Nat) (most : Int) (h : ReelAt w br O s p) (hlen : s.length ≤ 140737488355328) (hm1 : -9223372036854775808 ≤ most) (hm2 : most ≤ 9223372036854775807) (l : List UInt8) (er q n : Nat) (S : ByteArray) (hB : Hid (BytR s p (max most 0).toNat = (l, er, q))) (hn : l.length = n) (hS : str l = S) :
    Calls Try.prog 29 #[.pointer (some ⟨br, 0, none⟩), .int .i64 most] w (GaveS w br O s q n er S) :=
  (ubytes w br O s p most h hlen hm1 hm2 l er q hB).mono fun _ _ hh => gaves h.lt hn hS hh
theorem raw_str (w : World) (br : Nat) (O : Nat → Prop) (s : List UInt8) (p : Nat) (n : Int) (h : ReelAt w br O s p) (hlen : s.length ≤ 140737488355328) (hm2 : n ≤ 9223372036854775807) (l : List UInt8) (er q m : Nat) (S : ByteArray) (hB : Hid (RawR s p n = (l, er, q))) (hn : l.length = m) (hS : str l = S) :
    Calls Try.prog 31 #[.pointer (some ⟨br, 0, none⟩), .int .i64 n] w (GaveS w br O s q m er S) :=
  (uraw w br O s p n h hlen hm2 l er q hB).mono fun _ _ hh => gaves h.lt hn hS hh
theorem end_str (w : World) (br : Nat) (O : Nat → Prop) (l : List UInt8) (p : Nat) (h : ReelAt w br O l p) (E : Int) (hE : (if p < l.length then 13 else 0) = E) :
    Calls Try.prog 34 #[.pointer (some ⟨br, 0, none⟩)] w fun e w' => e = .returned (.int .i64 E) ∧ Keep NoB w w' := by
  subst hE; exact end_any w br O l p h

end Go.Proofs.Ytfdgdheopifnjaa
