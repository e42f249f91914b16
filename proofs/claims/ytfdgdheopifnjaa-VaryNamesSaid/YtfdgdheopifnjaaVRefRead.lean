/-
  The document's own Reel: Number, Signed, Raw, Bytes, End: as vary's. Conditions: no more than 2^47 bytes.
-/
import Derived.Test.YtfdgdheopifnjaaVRefLook
namespace Go.Proofs.Ytfdgdheopifnjaa
open Go.RowKit

/-- A reading method's end. -/
def RReads (w : World) (br : Nat) (O : Nat → Prop) (l : List UInt8) (q : Nat) (v : Value) (er : Nat) (e : Ending) (w' : World) : Prop :=
  e = .returned (.tuple #[v, .int .i64 er]) ∧ RefAt w' br O l q ∧ Keep (fun k => k = br) w w'

set_option maxRecDepth 100000 in
set_option maxHeartbeats 2000000 in
theorem refnumber_any (w : World) (br : Nat) (O : Nat → Prop) (l : List UInt8) (p most : Nat) (h : RefAt w br O l p) (hlen : l.length ≤ 140737488355328) :
    Calls Try.prog 26 #[.pointer (some ⟨br, 0, none⟩), .int .u64 most] w (RReads w br O l (NumR l p most).2.2 (.int .u64 (NumR l p most).1) (NumR l p most).2.1) := by
  have hx := nx_width (l.drop p)
  have hp := h.2.1
  rw [List.length_drop] at hx
  have HB := Lib.hid (fun R hR => reflook_any w br O l p h hlen R hR)
  unfold NumR bnd
  obtain ⟨⟨n, d, r⟩, hn⟩ : ∃ t, nx (l.drop p) = t := ⟨_, rfl⟩
  rw [hn] at hx ⊢
  have HL := Lib.hid (HB.out (n, d, r) hn.symm)
  clear hn HB
  dsimp only at hx ⊢
  by_cases hr : r = 0
  · subst hr
    rw [if_neg (by simp)]
    by_cases hm : most < n
    · rw [if_pos hm]
      go_enter Try.func26, Try.ntmps26
      go_wp2_with fail
      refine HL.out.mono ?_
      rintro e w1 ⟨he, hk1⟩
      unfold NxR at he
      subst he
      go_wp2
      go_ret2
      exact ⟨rfl, h.keep hk1 (fun _ _ => id), hk1.mono (fun _ hf _ => hf.elim)⟩
    · rw [if_neg hm]
      go_enter Try.func26, Try.ntmps26
      go_wp2_with fail
      refine HL.out.mono ?_
      rintro e w1 ⟨he, hk1⟩
      unfold NxR at he
      subst he
      have h1 := h.keep hk1 (fun _ _ => id)
      obtain ⟨A, c, hb1, _⟩ := h1.cells
      have q1 := hb1.cell 1
      have f1 := hb1.frozen 1
      simp at q1
      go_wp2
      go_ret2
      exact ⟨rfl, h.moved hk1 (by omega) (by omega)⟩
  · have hr1 : ((r : Int) != 0) = true := by rw [bne_iff_ne]; omega
    rw [if_pos hr]
    go_enter Try.func26, Try.ntmps26
    go_wp2_with fail
    refine HL.out.mono ?_
    rintro e w1 ⟨he, hk1⟩
    unfold NxR at he
    subst he
    go_wp2
    go_ret2
    exact ⟨rfl, h.keep hk1 (fun _ _ => id), hk1.mono (fun _ hf _ => hf.elim)⟩

set_option maxRecDepth 100000 in
set_option maxHeartbeats 2000000 in
theorem refsigned_any (w : World) (br : Nat) (O : Nat → Prop) (l : List UInt8) (p : Nat) (lo hi : Int) (h : RefAt w br O l p) (hlen : l.length ≤ 140737488355328) :
    Calls Try.prog 28 #[.pointer (some ⟨br, 0, none⟩), .int .i64 lo, .int .i64 hi] w (RReads w br O l (SigR l p lo hi).2.2 (.int .i64 (SigR l p lo hi).1) (SigR l p lo hi).2.1) := by
  have hx := nx_width (l.drop p)
  have hp := h.2.1
  rw [List.length_drop] at hx
  have HB := Lib.hid (fun R hR => reflook_any w br O l p h hlen R hR)
  unfold SigR
  obtain ⟨⟨n, d, r⟩, hn⟩ : ∃ t, nx (l.drop p) = t := ⟨_, rfl⟩
  rw [hn] at hx ⊢
  have HL := Lib.hid (HB.out (n, d, r) hn.symm)
  clear hn HB
  dsimp only at hx ⊢
  by_cases hr : r = 0
  · subst hr
    obtain ⟨hx1, hx2, _, hn64⟩ := hx
    have hz1 := zag_ge n hn64
    have hz2 := zag_le n hn64
    have HZ := Lib.hid (fun w => rzag_any n w hn64)
    clear hn64
    rw [if_neg (by simp)]
    obtain ⟨z, hz⟩ : ∃ z, zag n = z := ⟨_, rfl⟩
    rw [hz] at hz1 hz2 HZ ⊢
    clear hz
    by_cases hlo : z < lo
    · rw [if_pos (.inl hlo)]
      go_enter Try.func28, Try.ntmps28
      go_wp2_with fail
      refine HL.out.mono ?_
      rintro e w1 ⟨he, hk1⟩
      unfold NxR at he
      subst he
      go_wp2_with fail
      refine (HZ.out _).mono ?_
      rintro e w2 ⟨rfl, rfl⟩
      go_wp2
      go_ret2
      exact ⟨rfl, h.keep hk1 (fun _ _ => id), hk1.mono (fun _ hf _ => hf.elim)⟩
    · by_cases hhi : hi < z
      · rw [if_pos (.inr hhi)]
        go_enter Try.func28, Try.ntmps28
        go_wp2_with fail
        refine HL.out.mono ?_
        rintro e w1 ⟨he, hk1⟩
        unfold NxR at he
        subst he
        go_wp2_with fail
        refine (HZ.out _).mono ?_
        rintro e w2 ⟨rfl, rfl⟩
        go_wp2
        go_ret2
        exact ⟨rfl, h.keep hk1 (fun _ _ => id), hk1.mono (fun _ hf _ => hf.elim)⟩
      · rw [if_neg (by omega)]
        go_enter Try.func28, Try.ntmps28
        go_wp2_with fail
        refine HL.out.mono ?_
        rintro e w1 ⟨he, hk1⟩
        unfold NxR at he
        subst he
        have h1 := h.keep hk1 (fun _ _ => id)
        obtain ⟨A, c, hb1, _⟩ := h1.cells
        have q1 := hb1.cell 1
        have f1 := hb1.frozen 1
        simp at q1
        go_wp2_with fail
        refine (HZ.out _).mono ?_
        rintro e w2 ⟨rfl, rfl⟩
        go_wp2
        go_ret2
        exact ⟨rfl, h.moved hk1 (by omega) (by omega)⟩
  · have hr1 : ((r : Int) != 0) = true := by rw [bne_iff_ne]; omega
    rw [if_pos hr]
    go_enter Try.func28, Try.ntmps28
    go_wp2_with fail
    refine HL.out.mono ?_
    rintro e w1 ⟨he, hk1⟩
    unfold NxR at he
    subst he
    go_wp2
    go_ret2
    exact ⟨rfl, h.keep hk1 (fun _ _ => id), hk1.mono (fun _ hf _ => hf.elim)⟩

set_option maxHeartbeats 400000 in
theorem refend_any (w : World) (br : Nat) (O : Nat → Prop) (l : List UInt8) (p : Nat) (h : RefAt w br O l p) (E : Nat) (hE : Hid (E = if p < l.length then 13 else 0)) :
    Calls Try.prog 35 #[.pointer (some ⟨br, 0, none⟩)] w fun e w' => e = .returned (.int .i64 E) ∧ ∃ m, w' = w.drewN m := by
  obtain ⟨A, c, hb1, _, hc, hm, _⟩ := h.cells
  have q0 := hb1.cell 0
  have q1 := hb1.cell 1
  simp at q0 q1
  unfold maxLen at hm
  by_cases hp : p < l.length
  · have hE' := hE.out
    rw [if_pos hp] at hE'
    subst hE'
    go_enter Try.func35, Try.ntmps35
    go_wp2
    go_quiet (fail)
    go_wp2
    go_ret
    exact ⟨rfl, _, rfl⟩
  · have hE' := hE.out
    rw [if_neg hp] at hE'
    subst hE'
    go_enter Try.func35, Try.ntmps35
    go_wp2
    go_quiet (fail)
    go_wp2
    go_ret
    exact ⟨rfl, _, rfl⟩

set_option maxHeartbeats 400000 in
theorem end_quiet (w : World) (br : Nat) (O : Nat → Prop) (l : List UInt8) (p : Nat) (h : ReelAt w br O l p) (E : Nat) (hE : Hid (E = if p < l.length then 13 else 0)) :
    Calls Try.prog 34 #[.pointer (some ⟨br, 0, none⟩)] w fun e w' => e = .returned (.int .i64 E) ∧ ∃ m, w' = w.drewN m := by
  obtain ⟨A, c, hb1, _, hc, hm, _⟩ := h.cells
  have q0 := hb1.cell 0
  have q1 := hb1.cell 1
  simp at q0 q1
  unfold maxLen at hm
  by_cases hp : p < l.length
  · have hE' := hE.out
    rw [if_pos hp] at hE'
    subst hE'
    go_enter Try.func34, Try.ntmps34
    go_wp2
    go_quiet (fail)
    go_wp2
    go_ret
    exact ⟨rfl, _, rfl⟩
  · have hE' := hE.out
    rw [if_neg hp] at hE'
    subst hE'
    go_enter Try.func34, Try.ntmps34
    go_wp2
    go_quiet (fail)
    go_wp2
    go_ret
    exact ⟨rfl, _, rfl⟩

/-- Bytes were taken, or there were too few of them. -/
def RTaken (w : World) (br : Nat) (O : Nat → Prop) (l : List UInt8) (p fr : Nat) (S : Int) (e : Ending) (w' : World) : Prop :=
  ((l.length : Int) - fr < S ∧ e = .returned (.tuple #[.slice none 0 0, .int .i64 10]) ∧ RefAt w' br O l p ∧ Keep (fun k => k = br) w w') ∨
  (S ≤ (l.length : Int) - fr ∧ ∃ A c, e = .returned (.tuple #[.slice A S.toNat c, .int .i64 0]) ∧ OwnB w' (Fresh w) (.slice A S.toNat c) ((l.drop fr).take S.toNat) ∧ RefAt w' br O l (fr + S.toNat) ∧ Keep (fun k => k = br) w w')

set_option maxRecDepth 100000 in
set_option maxHeartbeats 2000000 in
theorem refraw_any (w : World) (br : Nat) (O : Nat → Prop) (l : List UInt8) (p : Nat) (n : Int) (hRef : RefAt w br O l p) (hlen : l.length ≤ 140737488355328) (hm2 : n ≤ 9223372036854775807) :
    Calls Try.prog 32 #[.pointer (some ⟨br, 0, none⟩), .int .i64 n] w fun e w' =>
      (n < 0 ∧ e = .returned (.tuple #[.slice none 0 0, .int .i64 2]) ∧ RefAt w' br O l p ∧ Keep (fun k => k = br) w w') ∨ (0 ≤ n ∧ RTaken w br O l p p n e w') := by
  by_cases hn : n < 0
  · go_enter Try.func32, Try.ntmps32
    go_wp2
    go_ret2
    exact .inl ⟨hn, rfl, hRef, Keep.refl _ _⟩
  · obtain ⟨s, rfl⟩ := Int.eq_ofNat_of_zero_le (show 0 ≤ n by omega)
    have hp := hRef.2.1
    obtain ⟨A, c, hb1, hr, hc, hm, hA⟩ := hRef.cells
    have q0 := hb1.cell 0
    have q1 := hb1.cell 1
    simp at q0 q1
    unfold maxLen at hm
    have hws : IntKind.i64.wrap ((l.length : Int) - (p : Int)) = (l.length : Int) - (p : Int) := IntWalk.i64_in _ (by omega)
    by_cases hsh : (l.length : Int) - (p : Int) < (s : Int)
    · go_enter Try.func32, Try.ntmps32
      go_wp2
      go_quiet (fail)
      go_wp2
      go_ret2
      exact .inr ⟨by omega, .inl ⟨hsh, rfl, hRef.keep ((Keep.refl NoB w).drewN _) (fun _ _ => id), (Keep.refl _ w).drewN _⟩⟩
    · have hsh' : (s : Int) ≤ (l.length : Int) - (p : Int) := by omega
      have hs0 : (0 : Int) ≤ (p : Int) + (s : Int) := by omega
      have hs1 : (p : Int) + (s : Int) ≤ (c : Int) := by omega
      have hs2 : ((p : Int) + (s : Int)).toNat = p + s := by omega
      have hs4 : (p : Int) ≤ (p : Int) + (s : Int) := by omega
      have hcs : (c : Int) ≤ 9223372036854775807 := by omega
      have hwa : IntKind.i64.wrap ((p : Int) + (s : Int)) = (p : Int) + (s : Int) := IntWalk.i64_in _ (by omega)
      have hps : p + s - p = s := by omega
      have hpl : ((l.drop p).take s).length = s := by rw [List.length_take, List.length_drop]; omega
      have hrp := hr.part (c := c) (k := p) (m := s) hc
      have HT0 := Lib.hid (fun (wq : World) (hkq : Keep NoB w wq) (A' : Option Addr) (c' : Nat) (hA' : (if c = p then A else A.map (·.add p)) = A') => by
        have hrq := hrp.keep hkq (fun _ _ _ => id)
        have HT := twin_any wq.drew _ ((l.drop p).take s) c' (hrq.keep ((Keep.refl NoB wq).drew) (fun _ _ _ => id)) (by omega)
        rw [hpl, hA'] at HT
        exact HT)
      clear hrp
      go_enter Try.func32, Try.ntmps32
      go_wp2
      go_quiet (fail)
      obtain ⟨wq, hwq⟩ : ∃ wq, w.drewN nq = wq := ⟨_, rfl⟩
      rw [hwq]
      have hkq : Keep NoB w wq := hwq ▸ (Keep.refl NoB w).drewN nq
      clear hwq
      have hbq := hb1.keep hkq id
      have q0 := hbq.cell 0
      have q1 := hbq.cell 1
      simp at q0 q1
      go_wp2
      go_still_tail 15, (by kernel_rfl)
      change wpList _ _ _ _ _ wq.drew
      go_wp2_with fail
      all_goals
        first
          | refine (HT0.out wq hkq A 0 (if_pos ‹c = p›)).mono ?_
          | refine (HT0.out wq hkq (A.map (·.add p)) (c - p) (if_neg ‹¬ c = p›)).mono ?_
        rintro e w2 ⟨v, rfl, hv2, hk2⟩
        have hk02 := keepN hkq.drew hk2
        have hb2 := hb1.keep hk02 id
        obtain ⟨A2, c2, rfl, _⟩ := hv2.form
        rw [hpl] at hv2
        have q0 := hb2.cell 0
        have q1 := hb2.cell 1
        have f1 := hb2.frozen 1
        simp at q0 q1
        go_wp2
        go_ret2
        obtain ⟨m1, m2⟩ := hRef.moved (q := p + s) (Q := (p : Int) + s) hk02 (by omega) (by omega)
        have hbl := hb1.lt
        have hsz := hkq.size
        refine .inr ⟨by omega, .inr ⟨hsh', A2, c2, rfl, ?_, m1, m2⟩⟩
        exact (hv2.mono (O' := Fresh w) (fun k hk _ => Nat.le_trans hsz hk)).keep (O' := fun k => k = br) ((Keep.refl (fun k => k = br) w2).setCell (p := ⟨br, 1, none⟩) (fun _ => rfl) _) (fun k hk e => by unfold Fresh at hk; omega)

/-- What Bytes leaves. -/
def RBytesP (w : World) (br : Nat) (O : Nat → Prop) (l : List UInt8) (p : Nat) (b : Nat × Nat × Nat) (e : Ending) (w' : World) : Prop :=
  (b.2.2 ≠ 0 ∧ e = .returned (.tuple #[.slice none 0 0, .int .i64 b.2.2]) ∧ RefAt w' br O l p ∧ Keep (fun k => k = br) w w') ∨ (b.2.2 = 0 ∧ RTaken w br O l p (p + b.2.1) b.1 e w')

theorem refnumber_at (w : World) (br : Nat) (O : Nat → Prop) (l : List UInt8) (p most : Nat) (N : Int) (n r q : Nat) (h : RefAt w br O l p) (hlen : l.length ≤ 140737488355328) (hN : N = most) (hs : NumR l p most = (n, r, q)) :
    Calls Try.prog 26 #[.pointer (some ⟨br, 0, none⟩), .int .u64 N] w (RReads w br O l q (.int .u64 (n : Int)) r) := by
  subst hN
  have := refnumber_any w br O l p most h hlen
  rw [hs] at this
  exact this

theorem refraw_at (w : World) (br : Nat) (O : Nat → Prop) (l : List UInt8) (p : Nat) (n : Nat) (N : Int) (h : RefAt w br O l p) (hlen : l.length ≤ 140737488355328) (hN : N = (n : Int)) (hm2 : n ≤ 9223372036854775807) :
    Calls Try.prog 32 #[.pointer (some ⟨br, 0, none⟩), .int .i64 N] w (RTaken w br O l p p n) := by
  subst hN
  refine (refraw_any w br O l p n h hlen (by omega)).mono ?_
  rintro e w' (⟨h1, _⟩ | ⟨_, h2⟩)
  · omega
  · exact h2

set_option maxRecDepth 100000 in
set_option maxHeartbeats 2000000 in
theorem refbytesr_any (w : World) (br : Nat) (O : Nat → Prop) (l : List UInt8) (p : Nat) (most : Int) (hRef : RefAt w br O l p) (hlen : l.length ≤ 140737488355328) (hm1 : -9223372036854775808 ≤ most) (hm2 : most ≤ 9223372036854775807) :
    Calls Try.prog 30 #[.pointer (some ⟨br, 0, none⟩), .int .i64 most] w (RBytesP w br O l p (bnd (nx (l.drop p)) (max most 0).toNat)) := by
  have hx := bnd_width (l.drop p) (max most 0).toNat
  have hz := bnd_zero (l.drop p) (max most 0).toNat
  have hle := bnd_le (nx (l.drop p)) (max most 0).toNat
  have hp := hRef.2.1
  obtain ⟨A, c, hb0, _⟩ := hRef.cells
  have q0 := hb0.cell 1
  simp at q0
  rw [List.length_drop] at hx
  have HB := Lib.hid (fun N n r q => refnumber_at w br O l p (max most 0).toNat N n r q hRef hlen)
  obtain ⟨b, hb⟩ : ∃ b, bnd (nx (l.drop p)) (max most 0).toNat = b := ⟨_, rfl⟩
  have HN : Hid (NumR l p (max most 0).toNat = (b.1, b.2.2, p + b.2.1)) := by show _ = _; unfold NumR; rw [hb]
  rw [hb] at hx hle hz ⊢
  clear hb hb0
  obtain ⟨n, d, r⟩ := b
  dsimp only at hx hle HN hz
  by_cases hr : r = 0
  · subst hr
    have hn := hle
    clear hle hz
    obtain ⟨hx1, hx2, hx3, _⟩ := hx
    by_cases hneg : most < 0
    all_goals
      go_enter Try.func30, Try.ntmps30
      go_wp2_with fail
      refine (HB.out _ n 0 (p + d) (by omega) HN.out).mono ?_
      rintro e w1 ⟨rfl, h1, hk1⟩
      go_wp2_with fail
      refine (refraw_at w1 br O l (p + d) n _ h1 hlen (by omega) (by omega)).mono ?_
      rintro e w2 (⟨hs, rfl, h2, hk2⟩ | ⟨hs, A2, c2, rfl, hv2, h2, hk2⟩)
      · first
          | omega
          | (obtain ⟨A', c', hb2, _⟩ := h2.cells
             have q2 := hb2.cell 1
             have f2 := hb2.frozen 1
             have q3 := hb2.cell 0
             simp at q2 q3
             clear hb2 q0
             obtain ⟨m1, m2⟩ := h2.moved (q := p) (Q := (p : Int)) (Keep.refl NoB w2) (by omega) rfl
             go_wp2
             go_ret2
             exact .inr ⟨rfl, .inl ⟨hs, rfl, m1, (hk1.trans hk2 (fun _ h _ => h)).trans m2 (fun _ h _ => h)⟩⟩)
      · go_wp2
        go_ret2
        have hsz := hk1.size
        exact .inr ⟨rfl, .inr ⟨hs, A2, c2, rfl, hv2.mono (fun k hk _ => Nat.le_trans hsz hk), h2, hk1.trans hk2 (fun _ h _ => h)⟩⟩
  · obtain ⟨rfl, rfl⟩ := hz hr
    have hr1 : ((r : Int) != 0) = true := by rw [bne_iff_ne]; omega
    clear hle hx hz
    by_cases hneg : most < 0
    all_goals
      go_enter Try.func30, Try.ntmps30
      go_wp2_with fail
      refine (HB.out _ 0 r p (by omega) HN.out).mono ?_
      rintro e w1 ⟨rfl, h1, hk1⟩
      go_wp2
      go_ret2
      exact .inl ⟨hr, rfl, h1, hk1⟩

end Go.Proofs.Ytfdgdheopifnjaa
