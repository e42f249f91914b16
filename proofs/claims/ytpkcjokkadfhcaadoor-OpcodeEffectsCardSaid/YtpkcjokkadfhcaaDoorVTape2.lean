/-
  Tape.Number, Signed, Bytes over a Tape in memory; the law's own number: a number's bytes as a string. Conditions: no more than 2^47 bytes in all.
-/
import Derived.Test.YtpkcjokkadfhcaaDoorVTape
namespace Go.Proofs.YtpkcjokkadfhcaaDoor.V
open Go.RowKit

theorem encL_len (n : Nat) : (encL n).length ≤ 9 := by
  unfold encL; have := encF_len n (down 9); simpa [down] using this

theorem More.trans {O : Nat → Prop} {w w1 w2 : World} (h : w.heap.size ≤ w1.heap.size) : ∀ k, More O w1 w2 k → k < w2.heap.size → More O w w2 k := by
  rintro k (h1 | ⟨h1, h2⟩) _
  · exact .inl h1
  · exact .inr ⟨by omega, h2⟩

theorem encode_own (n : Nat) (w : World) :
    Calls Tryd.prog 39 #[.int .u64 n] w fun e w' => ∃ v, e = .returned v ∧ OwnB w' (Fresh w) v (encL n) ∧ Keep NoB w w' := by
  refine (encode_any n w).mono ?_
  rintro e w' ⟨v, he, hrow, hb⟩
  refine ⟨v, he, ⟨⟨hrow.1, ?_⟩, fun g hg => (hrow.lt g hg).1⟩, Keep.of_below hb⟩
  rcases hrow.2 with h | ⟨g, cap, cur, h1, _, h2⟩
  · exact .inl h
  · exact .inr ⟨g, cap, cur, h1, Nat.zero_le _, h2⟩

/-- What a Tape's writing method leaves: the Tape itself, with so much more; nothing else has turned. -/
def Wrote (w : World) (bt : Nat) (O : Nat → Prop) (xs : List UInt8) (e : Ending) (w' : World) : Prop :=
  e = .returned (.pointer (some ⟨bt, 0, none⟩)) ∧ TapeAt w' bt (More O w w') xs ∧ Keep O w w'

theorem wrote_from {w w1 w' : World} {bt : Nat} {O : Nat → Prop} {xs : List UInt8} (hk : Keep O w w1) (h : TapeAt w' bt (More O w1 w') xs ∧ Keep O w1 w') :
    TapeAt w' bt (More O w w') xs ∧ Keep O w w' :=
  ⟨h.1.mono (More.trans hk.size), hk.trans h.2 (fun _ ho _ => ho)⟩

set_option maxHeartbeats 400000 in
theorem tnumber_any (w : World) (bt : Nat) (O : Nat → Prop) (l : List UInt8) (n : Nat) (h : TapeAt w bt O l) (hO : ∀ k, O k → k < w.heap.size) (hb : l.length + 9 ≤ 140737488355328) :
    Calls Tryd.prog 26 #[.pointer (some ⟨bt, 0, none⟩), .int .u64 n] w (Wrote w bt O (l ++ encL n)) := by
  have hl := encL_len n
  go_enter Tryd.func26, Tryd.ntmps26
  go_wp2_with (first | (go_at_call 39; refine (encode_own n w).mono ?_; rintro e w1 ⟨v, rfl, hv1, hk1⟩; obtain ⟨A, c, rfl, _, hr1, hA1, _⟩ := hv1.form; have h1 : TapeAt w1 bt O l := h.keep hk1 (fun _ _ => id)) | (go_at_call 38; refine (write_any w1 bt O l (encL n) A c h1 hr1 (fun ad e ho => by have := hO _ ho; have := (hA1 ad e).1; unfold Fresh at this; omega) (by omega)).mono ?_; rintro e w2 ⟨rfl, h2⟩))
  go_ret
  exact ⟨rfl, wrote_from (hk1.mono (fun _ hf _ => hf.elim)) h2⟩

set_option maxHeartbeats 400000 in
theorem tsigned_any (w : World) (bt : Nat) (O : Nat → Prop) (l : List UInt8) (n : Int) (h1 : -9223372036854775808 ≤ n) (h2 : n ≤ 9223372036854775807) (h : TapeAt w bt O l) (hO : ∀ k, O k → k < w.heap.size) (hb : l.length + 9 ≤ 140737488355328) :
    Calls Tryd.prog 40 #[.pointer (some ⟨bt, 0, none⟩), .int .i64 n] w (Wrote w bt O (l ++ encL (zig n))) := by
  go_enter Tryd.func40, Tryd.ntmps40
  go_wp2_with (first | (go_at_call 53; refine (zig_any n _ h1 h2).mono ?_; rintro e w1 ⟨rfl, rfl⟩) | (go_at_call 26; refine (tnumber_any w bt O l (zig n) h hO hb).mono ?_; rintro e w2 ⟨rfl, h3⟩))
  go_ret
  exact ⟨rfl, h3⟩

/-- Bytes as a string. -/
abbrev str (l : List UInt8) : ByteArray := ⟨l.toArray⟩

theorem conv_rd {w : World} {A : Option Addr} {l : List UInt8} {c : Nat} (h : Rd w A l) :
    (convert 49 9 (.slice A l.length c)).run Tryd.prog w = .ok (.string (str l)) w := by
  rcases A with _ | ad
  · have hl : l = [] := by
      rcases Nat.eq_zero_or_pos l.length with h0 | h0
      · exact List.length_eq_zero_iff.1 h0
      · obtain ⟨ad, e, _⟩ := h h0; cases e
    subst hl
    exact run_convert_bytes_nil _ _ _ Tryd.underlying49 Tryd.underlying5 0 c _ Tryd.underlying9
  · refine run_convert_bytes_back w _ _ _ ad c l Tryd.underlying49 Tryd.underlying5 Tryd.underlying9 ?_
    intro j hj
    obtain ⟨ad', e, hc⟩ := h (by omega)
    cases e
    exact hc j _ (by simp [hj])

theorem TapeAt.new (w : World) : TapeAt (w.alloc (.cells #[.pointer none, .int .i64 0] 65)) w.heap.size (fun k => k = w.heap.size) [] :=
  ⟨rfl, .inl ⟨Blk.new _ _ _, rfl⟩⟩

end Go.Proofs.YtpkcjokkadfhcaaDoor.V
