/-
  The Reel's take, Bytes, Raw over a Reel in memory. Conditions: no more than 2^47 bytes.
-/
import Derived.Test.YtfdgdheopifnjaaVReel2
import Derived.Test.YtfdgdheopifnjaaVAlive
namespace Go.Proofs.Ytfdgdheopifnjaa
open Go.RowKit

/-- Bytes were taken, or there were too few of them. -/
def Taken (w : World) (br : Nat) (O : Nat → Prop) (l : List UInt8) (p fr : Nat) (S : Int) (e : Ending) (w' : World) : Prop :=
  ((l.length : Int) - fr < S ∧ e = .returned (.tuple #[.slice none 0 0, .int .i64 10]) ∧ ReelAt w' br O l p ∧ Keep NoB w w') ∨
  (S ≤ (l.length : Int) - fr ∧ ∃ A c, e = .returned (.tuple #[.slice A S.toNat c, .int .i64 0]) ∧ OwnB w' (Fresh w) (.slice A S.toNat c) ((l.drop fr).take S.toNat) ∧ ReelAt w' br O l (fr + S.toNat) ∧ Keep (fun k => k = br) w w')

set_option maxRecDepth 100000 in
set_option maxHeartbeats 1000000 in
theorem take_any (w : World) (br : Nat) (O : Nat → Prop) (l : List UInt8) (p fr : Nat) (S : Int) (h : ReelAt w br O l p) (hlen : l.length ≤ 140737488355328) (hfr : fr ≤ l.length) (hS0 : 0 ≤ S) (hS1 : S ≤ 9223372036854775807) :
    Calls Try.prog 48 #[.pointer (some ⟨br, 0, none⟩), .int .i64 fr, .int .i64 S] w (Taken w br O l p fr S) := by
  obtain ⟨A, c, hb, hr, hc, hm, hA⟩ := h.cells
  unfold maxLen at hm
  have hk0 : Keep NoB w (w.alloc (.cells #[.slice none 0 0] 108)) := (Keep.refl NoB w).alloc _
  have hb0 := hb.keep hk0 id
  have hr0 := hr.keep hk0 (fun _ _ _ => id)
  have hs0 := Blk.new w 108 #[.slice none 0 0]
  have hlt := hb.lt
  go_enter Try.func48, Try.ntmps48
  go_wp2_with fail
  refine (look_set _ br w.heap.size p fr (.slice none 0 0) S A l c hb0 hr0 hc hs0 hlen hm hfr hS0 hS1).mono ?_
  rintro e w1 (⟨hsh, rfl, hk1⟩ | ⟨hle, rfl, ⟨v, hs1, hv1⟩, hk1⟩)
  · have hk01 := hk0.trans hk1 (fun _ hf _ => hf.elim)
    go_wp2
    go_ret2
    exact .inl ⟨hsh, rfl, h.keep hk01 (fun _ _ => id), hk01⟩
  · obtain ⟨s, rfl⟩ := Int.eq_ofNat_of_zero_le hS0
    have hk01 : Keep NoB w w1 := hk0.trans hk1 (fun k e hk => by omega)
    have hb1 := hb0.keep hk1 (by omega)
    obtain ⟨A1, c1, rfl, _⟩ := hv1.form
    rw [Int.toNat_natCast] at hv1 hs1
    have hpl : ((l.drop fr).take s).length = s := by simp; omega
    rw [hpl] at hs1 hv1
    have q0 := hs1.cell 0
    have q1 := hb1.cell 1
    have f1 := hb1.frozen 1
    have hne : w.heap.size ≠ br := by omega
    have hne2 : ∀ g, (Value.slice A1 s c1).ownBlock = some g → g ≠ br := fun g e => by have := hv1.2 g e; unfold Fresh at this; simp at this; omega
    simp at q0 q1
    go_wp2
    go_ret2
    obtain ⟨m1, m2⟩ := h.moved (q := fr + s) (Q := (fr : Int) + s) hk01 (by omega) (by omega)
    refine .inr ⟨hle, A1, c1, rfl, ?_, m1, m2⟩
    exact (hv1.mono (O' := Fresh w) (fun k hk _ => by unfold Fresh at hk ⊢; simp at hk; omega)).keep (O' := fun k => k = br) ((Keep.refl (fun k => k = br) w1).setCell (p := ⟨br, 1, none⟩) (fun _ => rfl) _) (fun k hk e => by unfold Fresh at hk; omega)

theorem bounded_at (w : World) (br : Nat) (O : Nat → Prop) (l : List UInt8) (p most : Nat) (N : Int) (h : ReelAt w br O l p) (hlen : l.length ≤ 140737488355328) (hN : N = most) :
    Calls Try.prog 45 #[.pointer (some ⟨br, 0, none⟩), .int .u64 N] w fun e w' => e = NxR (bnd (nx (l.drop p)) most) ∧ Keep NoB w w' := by
  subst hN; exact bounded_any w br O l p most h hlen

theorem bnd_le (r : Nat × Nat × Nat) (most : Nat) : (bnd r most).1 ≤ most := by
  unfold bnd
  split
  · exact Nat.zero_le _
  · rename_i h1
    split
    · exact Nat.zero_le _
    · omega

/-- What Bytes leaves. -/
def BytesP (w : World) (br : Nat) (O : Nat → Prop) (l : List UInt8) (p : Nat) (b : Nat × Nat × Nat) (e : Ending) (w' : World) : Prop :=
  (b.2.2 ≠ 0 ∧ e = .returned (.tuple #[.slice none 0 0, .int .i64 b.2.2]) ∧ ReelAt w' br O l p ∧ Keep NoB w w') ∨ (b.2.2 = 0 ∧ Taken w br O l p (p + b.2.1) b.1 e w')

theorem Taken.from {w w1 w' : World} {br : Nat} {O : Nat → Prop} {l : List UInt8} {p fr : Nat} {S : Int} {e : Ending} (hk : Keep NoB w w1) (h : Taken w1 br O l p fr S e w') : Taken w br O l p fr S e w' := by
  rcases h with ⟨h1, h2, h3, h4⟩ | ⟨h1, A, c, h2, h3, h4, h5⟩
  · exact .inl ⟨h1, h2, h3, keepN hk h4⟩
  · exact .inr ⟨h1, A, c, h2, h3.mono (fun k hk' _ => Nat.le_trans hk.size hk'), h4, hk.mono (O' := fun k => k = br) (fun _ hf _ => hf.elim) |>.trans h5 (fun k e _ => e)⟩

set_option maxRecDepth 100000 in
set_option maxHeartbeats 1000000 in
theorem rbytes_any (w : World) (br : Nat) (O : Nat → Prop) (l : List UInt8) (p : Nat) (most : Int) (h : ReelAt w br O l p) (hlen : l.length ≤ 140737488355328) (hm1 : -9223372036854775808 ≤ most) (hm2 : most ≤ 9223372036854775807) :
    Calls Try.prog 29 #[.pointer (some ⟨br, 0, none⟩), .int .i64 most] w (BytesP w br O l p (bnd (nx (l.drop p)) (max most 0).toNat)) := by
  have hx := bnd_width (l.drop p) (max most 0).toNat
  have hle := bnd_le (nx (l.drop p)) (max most 0).toNat
  have hp := h.2.1
  rw [List.length_drop] at hx
  have HB := Lib.hid (bounded_at w br O l p (max most 0).toNat (max most 0) h hlen (by omega))
  obtain ⟨b, hb⟩ : ∃ b, bnd (nx (l.drop p)) (max most 0).toNat = b := ⟨_, rfl⟩
  rw [hb] at hx hle HB ⊢
  clear hb
  obtain ⟨n, d, r⟩ := b
  dsimp only at hx hle
  by_cases hr : r = 0
  · subst hr
    have hn := hle
    clear hle
    obtain ⟨hx1, hx2, hx3, _⟩ := hx
    go_enter Try.func29, Try.ntmps29
    go_wp2_with fail
    refine HB.out.mono ?_
    rintro e w1 ⟨he, hk1⟩
    unfold NxR at he
    subst he
    have h1 := h.keep hk1 (fun _ _ => id)
    obtain ⟨A, c, hb1, _⟩ := h1.cells
    have q1 := hb1.cell 1
    simp at q1
    clear hb1
    go_wp2_with fail
    have HT := fun (F S : Int) (hF : F = ((p + d : Nat) : Int)) (hS : S = (n : Int)) => (show Calls Try.prog 48 #[.pointer (some ⟨br, 0, none⟩), .int .i64 F, .int .i64 S] w1 (Taken w1 br O l p (p + d) n) by subst hF hS; exact take_any w1 br O l p (p + d) n h1 hlen (by omega) (by omega) (by omega))
    refine (HT _ _ (by omega) (by omega)).mono ?_
    clear HT
    intro e w2 ht
    have ht' := Taken.from hk1 ht
    clear ht
    rcases ht' with ⟨h1', rfl, h3, h4⟩ | ⟨h1', A2, c2, rfl, h3, h4, h5⟩
    · go_wp2
      go_ret2
      exact .inr ⟨rfl, .inl ⟨h1', rfl, h3, h4⟩⟩
    · go_wp2
      go_ret2
      exact .inr ⟨rfl, .inr ⟨h1', A2, c2, rfl, h3, h4, h5⟩⟩
  · have hr1 : ((r : Int) != 0) = true := by rw [bne_iff_ne]; omega
    clear hle hx
    go_enter Try.func29, Try.ntmps29
    go_wp2_with fail
    refine HB.out.mono ?_
    rintro e w1 ⟨he, hk1⟩
    unfold NxR at he
    subst he
    go_wp2
    go_ret2
    exact .inl ⟨hr, rfl, h.keep hk1 (fun _ _ => id), hk1⟩

set_option maxRecDepth 100000 in
set_option maxHeartbeats 1000000 in
theorem rraw_any (w : World) (br : Nat) (O : Nat → Prop) (l : List UInt8) (p : Nat) (n : Int) (h : ReelAt w br O l p) (hlen : l.length ≤ 140737488355328) (hm2 : n ≤ 9223372036854775807) :
    Calls Try.prog 31 #[.pointer (some ⟨br, 0, none⟩), .int .i64 n] w fun e w' =>
      (n < 0 ∧ e = .returned (.tuple #[.slice none 0 0, .int .i64 2]) ∧ ReelAt w' br O l p ∧ Keep NoB w w') ∨ (0 ≤ n ∧ Taken w br O l p p n e w') := by
  by_cases hn : n < 0
  · go_enter Try.func31, Try.ntmps31
    go_wp2
    go_ret2
    exact .inl ⟨hn, rfl, h, Keep.refl _ _⟩
  · have hp := h.2.1
    obtain ⟨A, c, hb1, _⟩ := h.cells
    have q1 := hb1.cell 1
    simp at q1
    clear hb1
    go_enter Try.func31, Try.ntmps31
    go_wp2_with fail
    refine (take_any w br O l p p n h hlen hp (by omega) hm2).mono ?_
    rintro e w2 (⟨h1', rfl, h3, h4⟩ | ⟨h1', A2, c2, rfl, h3, h4, h5⟩)
    · go_wp2
      go_ret2
      exact .inr ⟨by omega, .inl ⟨h1', rfl, h3, h4⟩⟩
    · go_wp2
      go_ret2
      exact .inr ⟨by omega, .inr ⟨h1', A2, c2, rfl, h3, h4, h5⟩⟩

end Go.Proofs.Ytfdgdheopifnjaa
