/-
  A Reel's next: what comes next, its width, the error; the place stays. Conditions: no more than 2^47 bytes.
-/
import Derived.Test.YtfdgdheopifnjaaVLook
import Derived.Test.YtfdgdheopifnjaaVDec
namespace Go.Proofs.Ytfdgdheopifnjaa
open Go.RowKit

/-- A Reel at block br that has the bytes l and the place p; all its blocks are of O. -/
def ReelAt (w : World) (br : Nat) (O : Nat → Prop) (l : List UInt8) (p : Nat) : Prop :=
  O br ∧ p ≤ l.length ∧ ∃ A c, Blk w br 68 #[.slice A l.length c, .int .i64 p] ∧ Rd w A l ∧ l.length ≤ c ∧ c ≤ maxLen ∧ ∀ ad, A = some ad → O ad.block ∧ ad.block < w.heap.size

theorem ReelAt.keep {w w' : World} {br p : Nat} {O O' : Nat → Prop} {l : List UInt8} (h : ReelAt w br O l p) (hk : Keep O' w w') (hn : ∀ k, O k → ¬ O' k) : ReelAt w' br O l p := by
  obtain ⟨h1, h2, A, c, hb, hr, hc, hm, hA⟩ := h
  exact ⟨h1, h2, A, c, hb.keep hk (hn _ h1), hr.keep hk (fun ad e _ => hn _ (hA ad e).1), hc, hm, fun ad e => ⟨(hA ad e).1, Nat.lt_of_lt_of_le (hA ad e).2 hk.size⟩⟩
theorem ReelAt.mono {w : World} {br p : Nat} {O O' : Nat → Prop} {l : List UInt8} (h : ReelAt w br O l p) (hO : ∀ k, O k → k < w.heap.size → O' k) : ReelAt w br O' l p := by
  obtain ⟨h1, h2, A, c, hb, hr, hc, hm, hA⟩ := h
  exact ⟨hO _ h1 hb.lt, h2, A, c, hb, hr, hc, hm, fun ad e => ⟨hO _ (hA ad e).1 (hA ad e).2, (hA ad e).2⟩⟩

/-- What next hands back. -/
def NxR (r : Nat × Nat × Nat) : Ending := .returned (.tuple #[.int .u64 r.1, .int .i64 r.2.1, .int .i64 r.2.2])

theorem drop_cons {l : List UInt8} {p : Nat} (h : p < l.length) : l.drop p = l[p] :: l.drop (p + 1) := List.drop_eq_getElem_cons h

set_option maxRecDepth 100000 in
set_option maxHeartbeats 1000000 in
theorem next_any (w : World) (br : Nat) (O : Nat → Prop) (l : List UInt8) (p : Nat) (h : ReelAt w br O l p) (hlen : l.length ≤ 140737488355328) :
    Calls Try.prog 47 #[.pointer (some ⟨br, 0, none⟩)] w fun e w' => e = NxR (nx (l.drop p)) ∧ Keep NoB w w' := by
  obtain ⟨_, hp, A, c, hb, hr, hc, hm, hA⟩ := h
  unfold maxLen at hm
  have hlt := hb.lt
  have q0 := hb.cell 0
  have q1 := hb.cell 1
  simp at q0 q1
  have hA1 : ∀ ad, A = some ad → ad.block ≠ w.heap.size := fun ad e => by have := (hA ad e).2; omega
  have hA2 : ∀ ad, A = some ad → ad.block ≠ w.heap.size + 1 := fun ad e => by have := (hA ad e).2; omega
  have hk0 : Keep NoB w ((w.alloc (.cells #[.int .u64 0] 101)).alloc (.cells #[.int .u64 0] 101)) := ((Keep.refl NoB w).alloc _).alloc _
  have hb0 := hb.keep hk0 id
  have hr0 := hr.keep hk0 (fun _ _ _ => id)
  have hs0 := (Blk.new w 101 #[.int .u64 0]).alloc (.cells #[.int .u64 0] 101)
  have hs1 := Blk.new (w.alloc (.cells #[.int .u64 0] 101)) 101 #[.int .u64 0]
  rw [World.size_alloc] at hs1
  go_enter Try.func47, Try.ntmps47
  go_wp2_with fail
  refine (look_add _ br w.heap.size 0 p p 1 A l c hb0 hr0 hc hA1 hs0 hlen hm hp (by omega) (by omega)).mono ?_
  rintro e w1 (⟨hsh, rfl, hk1⟩ | ⟨hle, rfl, hsum1, hk1⟩)
  · have hd : l.drop p = [] := List.drop_eq_nil_of_le (by omega)
    go_wp2
    go_ret3
    exact ⟨by rw [hd]; rfl, hk0.trans hk1 (fun _ hf _ => hf.elim)⟩
  · have hpl : p < l.length := by omega
    obtain ⟨b, hbd⟩ : ∃ b, b = l[p] := ⟨_, rfl⟩
    have hdc := drop_cons hpl
    rw [← hbd] at hdc
    have hb256 := b.toNat_lt
    have hsb : Blk w1 w.heap.size 101 #[.int .u64 (b.toNat : Nat)] := by
      have e : acc 0 (List.take (Int.toNat 1) (l.drop p)) = b.toNat := by rw [hdc]; simp [acc]
      rw [e] at hsum1; exact hsum1
    have hne : ¬ br = w.heap.size := by omega
    have hb1 := hb0.keep hk1 hne
    have hr1 := hr0.keep hk1 (fun ad e _ => hA1 ad e)
    have hs2 := hs1.keep hk1 (by omega)
    have hk01 := hk0.trans hk1 (fun k e hk => by omega)
    obtain ⟨m, hm'⟩ : ∃ m, w.heap.size = m := ⟨_, rfl⟩
    rw [hm'] at hsb hs2 hA2 ⊢
    have hmw : w.heap.size ≤ m := by omega
    clear hsum1 hk1 hb0 hr0 hs0 hs1 hk0 hA1 hb hr hA q0 q1 hbd hm'
    have q0 := hb1.cell 0
    have q1 := hb1.cell 1
    have q2 := hsb.cell 0
    simp at q0 q1 q2
    go_wp2_with fail
    refine (told_any b.toNat _ (by omega)).mono ?_
    rintro e w2 ⟨rfl, rfl⟩
    obtain ⟨t1, t9, _⟩ := td_rng b.toNat (by omega)
    go_wp2_with fail
    refine (look_add _ br (m + 1) 0 p p (td b.toNat) A l c hb1 hr1 hc hA2 hs2 hlen hm hp (by omega) (by omega)).mono ?_
    rintro e w2 (⟨hsh, rfl, hk2⟩ | ⟨hle2, rfl, hsum2, hk2⟩)
    · go_wp2
      go_ret3
      refine ⟨?_, (hk01.trans hk2 (fun _ hf _ => hf.elim))⟩
      have hx : nx (l.drop p) = (0, 0, 10) := by
        rw [hdc, nx_cons, if_pos (by rw [List.length_drop]; omega)]
      rw [hx]; rfl
    · have q3 := hsum2.cell 0
      simp at q3
      have hkk := hk01.trans hk2 (O := NoB) (fun k e hk => by omega)
      go_wp2_with fail
      have hmk := mk_lt (td b.toNat)
      have hq := fun (n : Nat) => Calls.quiet_of_same ((mark_any (td b.toNat) (w2.drewN n) t1 t9).mono fun e w' h => (⟨h.1, h.2.symm⟩ : e = .returned (.int .u8 (mk (td b.toNat))) ∧ w' = w2.drewN n))
      obtain ⟨t, ht⟩ : ∃ t, td b.toNat = t := ⟨_, rfl⟩
      rw [ht] at t1 t9 hmk hq hsum2 q3 hle2 ⊢
      have HT := Lib.hid ht
      clear ht
      have htl : t ≤ (l.drop (p + 1)).length + 1 := by rw [List.length_drop]; omega
      have HF := Lib.hid (nx_form b (l.drop (p + 1)) t HT.out htl)
      have e1 : IntKind.i64.wrap ((t : Int) - 1) = (t : Int) - 1 := IntWalk.i64_in _ (by omega)
      have e2 : IntKind.i64.wrap (8 * ((t : Int) - 1)) = 8 * ((t : Int) - 1) := IntWalk.i64_in _ (by omega)
      have e3 : (0 : Int) ≤ 8 * ((t : Int) - 1) := by omega
      have e4 : (8 * ((t : Int) - 1)).toNat = 8 * (t - 1) := by omega
      have e5 : IntKind.u64.wrap ((mk t : Nat) : Int) = ((mk t : Nat) : Int) := by rw [IntKind.wrap_u64]; omega
      go_quiet ((go_at_call 56; exact hq _))
      clear e1 e2 e3 e4 e5 hq
      rw [HF.out]
      generalize hD : dc t ((b :: l.drop (p + 1)).take t) = D at *
      have HD := Lib.hid hD
      clear hD
      have hnx : Hid (nx (l.drop p) = if wd D < t then (0, 0, 11) else (D, t, 0)) := by
        show nx (l.drop p) = _
        rw [hdc, nx_cons, HT.out, HD.out, if_neg (by omega)]
      go_wp2_with fail
      refine (width_any D _).mono ?_
      rintro e w3 ⟨rfl, rfl⟩
      by_cases hwd : wd D < t
      · go_wp2
        go_ret3
        exact ⟨by rw [hnx.out, if_pos hwd]; rfl, hkk.drewN _⟩
      · go_wp2
        go_ret3
        exact ⟨by rw [hnx.out, if_neg hwd]; rfl, hkk.drewN _⟩

end Go.Proofs.Ytfdgdheopifnjaa
