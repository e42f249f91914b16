/-
  The Reel: On, bounded, take, Number, Signed, Bytes, Raw, At, End over a Reel in memory. Conditions: no more than 2^47 bytes.
  The Reel's methods: Number, Signed, Bytes, Raw, At, End over a Reel in memory. Conditions: no more than 2^47 bytes.
  The plain mathematics of reading an instruction from bytes: what is read, and that an instruction's bytes, whatever stands behind them, are read as it was. No program, no conditions.
  The plain mathematics of reading a body: what so many instructions one behind the other are, and what is read of a body's bytes. No program, no conditions.
  What the program's Decode answers. Conditions: a Reel stands on the bytes; they are not too many.
  The Reel's take, Bytes, Raw over a Reel in memory. Conditions: no more than 2^47 bytes.
  The document's own Reel: look: what comes next, as vary's next tells it. Conditions: no more than 2^47 bytes.
  The document's own Reel: look: what comes next, as vary's next tells it. Conditions: no more than 2^47 bytes.
  The document's own Reel: Number, Signed, Raw, Bytes, End: as vary's. Conditions: no more than 2^47 bytes.
  What the document's Decode answers. Conditions: its Reel stands on the bytes; they are not too many.
-/
import Derived.Test.YtonpplpfipfnfaaGreatDoorQ6
import Derived.Test.YtonpplpfipfnfaaGreatDoorQ5
import Derived.Test.YtonpplpfipfnfaaGreatDoorQ3
import Derived.Test.YtonpplpfipfnfaaGreatDoorQ4
namespace Go.Proofs.YtonpplpfipfnfaaGreatDoor.V
open Go.RowKit

/-- The number that comes next, if it is at most so great. -/
def bnd (r : Nat × Nat × Nat) (most : Nat) : Nat × Nat × Nat := if r.2.2 ≠ 0 then (0, 0, r.2.2) else if most < r.1 then (0, 0, 12) else r

theorem nx_err (l : List UInt8) : (nx l).2.2 ≠ 0 → (nx l).1 = 0 ∧ (nx l).2.1 = 0 := by
  intro h
  rcases l with _ | ⟨b, r⟩
  · exact ⟨rfl, rfl⟩
  · rw [nx_cons] at h ⊢
    split
    · exact ⟨rfl, rfl⟩
    · split
      · exact ⟨rfl, rfl⟩
      · rw [if_neg ‹_›, if_neg ‹_›] at h; exact absurd rfl h
theorem nx_width (l : List UInt8) : (nx l).2.1 ≤ l.length ∧ (nx l).2.1 ≤ 9 ∧ (nx l).2.2 ≤ 11 ∧ (nx l).1 < 18446744073709551616 := by
  rcases l with _ | ⟨b, r⟩
  · simp [nx]
  · rw [nx_cons]
    have hb := b.toNat_lt
    have h9 := (td_rng b.toNat (by simpa using hb))
    split
    · simp
    · rename_i hl
      split
      · simp
      · obtain ⟨k, hk⟩ : ∃ k, td b.toNat = k + 1 := ⟨td b.toNat - 1, by omega⟩
        have h2 := (vl_split b (r.take k) (td b.toNat) rfl (by simp; omega)).2.1
        rw [hk] at h2 hl h9 ⊢
        rw [List.take_succ_cons]
        simp only [List.length_cons]
        exact ⟨by omega, by omega, by omega, h2⟩
theorem bnd_width (l : List UInt8) (most : Nat) : (bnd (nx l) most).2.1 ≤ l.length ∧ (bnd (nx l) most).2.1 ≤ 9 ∧ (bnd (nx l) most).1 < 18446744073709551616 ∧ (bnd (nx l) most).2.2 ≤ 12 := by
  have h := nx_width l
  unfold bnd
  split
  · simp; omega
  · split
    · simp
    · omega

set_option maxHeartbeats 400000 in
theorem on_any (w : World) (A : Option Addr) (l : List UInt8) (c : Nat) (hr : Rd w A l) (hb : l.length ≤ 140737488355328) :
    Calls Tryz.prog 12 #[.slice A l.length c] w fun e w' => ∃ br, e = .returned (.pointer (some ⟨br, 0, none⟩)) ∧ ReelAt w' br (Fresh w) l 0 ∧ Keep NoB w w' := by
  go_enter Tryz.func12, Tryz.ntmps12
  go_wp2_with (go_at_call 34; refine (clone_any w A l c hr hb).mono ?_; rintro e w1 ⟨v, rfl, hv1, hk1⟩; obtain ⟨A1, c1, rfl, hc1, hr1, hA1, hm1⟩ := hv1.form)
  go_ret
  refine ⟨w1.heap.size, rfl, ⟨hk1.size, Nat.zero_le _, A1, c1, Blk.new _ _ _, ?_, hc1, hm1, fun ad e => ?_⟩, hk1.alloc _⟩
  · exact hr1.keep ((Keep.refl NoB w1).alloc _) (fun _ _ _ => id)
  · refine ⟨(hA1 ad e).1, ?_⟩
    have := (hv1.1.lt ad.block (by rw [e]; rfl)).2
    simp; omega

set_option maxRecDepth 100000 in
set_option maxHeartbeats 1000000 in
theorem bounded_any (w : World) (br : Nat) (O : Nat → Prop) (l : List UInt8) (p most : Nat) (h : ReelAt w br O l p) (hlen : l.length ≤ 140737488355328) :
    Calls Tryz.prog 57 #[.pointer (some ⟨br, 0, none⟩), .int .u64 most] w fun e w' => e = NxR (bnd (nx (l.drop p)) most) ∧ Keep NoB w w' := by
  have hx := nx_width (l.drop p)
  go_enter Tryz.func57, Tryz.ntmps57
  go_wp2_with fail
  refine (next_any w br O l p h hlen).mono ?_
  rintro e w1 ⟨he, hk1⟩
  obtain ⟨⟨n, d, r⟩, hn⟩ : ∃ t, nx (l.drop p) = t := ⟨_, rfl⟩
  rw [hn] at he hx
  have HN := Lib.hid hn
  clear hn
  unfold NxR at he
  subst he
  by_cases hr : r = 0
  · have hr1 : ((r : Int) != 0) = false := by rw [bne_eq_false_iff_eq]; omega
    by_cases hm : most < n
    · go_wp2
      go_ret3
      exact ⟨by rw [HN.out]; unfold bnd NxR; simp [hr, hm], hk1⟩
    · go_wp2
      go_ret3
      exact ⟨by rw [HN.out]; unfold bnd NxR; simp [hr, hm], hk1⟩
  · have hr1 : ((r : Int) != 0) = true := by rw [bne_iff_ne]; omega
    go_wp2
    go_ret3
    exact ⟨by rw [HN.out]; unfold bnd NxR; simp [hr], hk1⟩

end Go.Proofs.YtonpplpfipfnfaaGreatDoor.V

namespace Go.Proofs.YtonpplpfipfnfaaGreatDoor.V
open Go.RowKit

/-- The Reel stands at another place; nothing else has turned. -/
theorem ReelAt.moved {w w1 : World} {br p : Nat} {O : Nat → Prop} {l : List UInt8} {q : Nat} {Q : Int} (h : ReelAt w br O l p) (hk : Keep NoB w w1) (hq : q ≤ l.length) (hQ : Q = q) :
    ReelAt (w1.setCell ⟨br, 1, none⟩ (.int .i64 Q)) br O l q ∧ Keep (fun k => k = br) w (w1.setCell ⟨br, 1, none⟩ (.int .i64 Q)) := by
  subst hQ
  obtain ⟨h1, h2, A, c, hb, hr, hc, hm, hA⟩ := h
  have hb1 := hb.keep hk id
  have hk2 : Keep (fun k => k = br) w (w1.setCell ⟨br, 1, none⟩ (.int .i64 q)) := (hk.mono (O' := fun k => k = br) (fun _ hf _ => hf.elim)).setCell (p := ⟨br, 1, none⟩) (fun _ => rfl) _
  refine ⟨⟨h1, hq, A, c, hb1.put 1 _, ?_, hc, hm, fun ad e => ⟨(hA ad e).1, Nat.lt_of_lt_of_le (hA ad e).2 hk2.size⟩⟩, hk2⟩
  intro h0
  obtain ⟨ad, e, hcell⟩ := hr h0
  refine ⟨ad, e, fun j u hu => ?_⟩
  have hcu := hk.cell (hcell j u hu) id
  have hne : (⟨br, 1, none⟩ : Addr) ≠ ad.add j := by
    intro e'
    rw [← e'] at hcu
    have hb2 := hb1.cell 1
    rw [hb2] at hcu
    simp at hcu
    subst hcu
    have := (List.getElem?_eq_some_iff.1 hu)
    obtain ⟨hj, hju⟩ := this
    simp at hju
  exact (World.cell?_setCell_other _ _ _ _ hne).trans hcu

/-- What Number answers, and the place behind it. -/
def NumR (l : List UInt8) (p most : Nat) : Nat × Nat × Nat := ((bnd (nx (l.drop p)) most).1, (bnd (nx (l.drop p)) most).2.2, p + (bnd (nx (l.drop p)) most).2.1)

/-- A reading method's end. -/
def Reads (w : World) (br : Nat) (O : Nat → Prop) (l : List UInt8) (q : Nat) (v : Value) (er : Nat) (e : Ending) (w' : World) : Prop :=
  e = .returned (.tuple #[v, .int .i64 er]) ∧ ReelAt w' br O l q ∧ Keep (fun k => k = br) w w'

theorem bnd_zero (l : List UInt8) (most : Nat) (h : (bnd (nx l) most).2.2 ≠ 0) : (bnd (nx l) most).1 = 0 ∧ (bnd (nx l) most).2.1 = 0 := by
  unfold bnd at h ⊢
  split
  · exact ⟨rfl, rfl⟩
  · rename_i h1
    split
    · exact ⟨rfl, rfl⟩
    · rename_i h2
      rw [if_neg h1, if_neg h2] at h
      exact absurd h h1

theorem ReelAt.cells {w : World} {br p : Nat} {O : Nat → Prop} {l : List UInt8} (h : ReelAt w br O l p) : ∃ A c, Blk w br 75 #[.slice A l.length c, .int .i64 p] ∧ Rd w A l ∧ l.length ≤ c ∧ c ≤ maxLen ∧ ∀ ad, A = some ad → O ad.block ∧ ad.block < w.heap.size := h.2.2

set_option maxRecDepth 100000 in
set_option maxHeartbeats 1000000 in
theorem rnumber_any (w : World) (br : Nat) (O : Nat → Prop) (l : List UInt8) (p most : Nat) (h : ReelAt w br O l p) (hlen : l.length ≤ 140737488355328) :
    Calls Tryz.prog 35 #[.pointer (some ⟨br, 0, none⟩), .int .u64 most] w (Reads w br O l (NumR l p most).2.2 (.int .u64 (NumR l p most).1) (NumR l p most).2.1) := by
  have hx := bnd_width (l.drop p) most
  have hz := bnd_zero (l.drop p) most
  have hp := h.2.1
  rw [List.length_drop] at hx
  have hbd := bounded_any w br O l p most h hlen
  unfold NumR
  obtain ⟨⟨n, d, r⟩, hn⟩ : ∃ t, bnd (nx (l.drop p)) most = t := ⟨_, rfl⟩
  rw [hn] at hx hz hbd ⊢
  clear hn
  dsimp only at hx hz ⊢
  unfold NxR at hbd
  dsimp only at hbd
  have HB := Lib.hid hbd
  clear hbd
  by_cases hr : r = 0
  · subst hr
    clear hz
    go_enter Tryz.func35, Tryz.ntmps35
    go_wp2_with fail
    refine HB.out.mono ?_
    rintro e w1 ⟨rfl, hk1⟩
    have h1 := h.keep hk1 (fun _ _ => id)
    obtain ⟨A, c, hb1, _⟩ := h1.cells
    have q1 := hb1.cell 1
    have f1 := hb1.frozen 1
    simp at q1
    go_wp2
    go_ret2
    exact ⟨rfl, h.moved hk1 (by omega) (by omega)⟩
  · have hr1 : ((r : Int) != 0) = true := by rw [bne_iff_ne]; omega
    obtain ⟨rfl, rfl⟩ := hz hr
    clear hz
    go_enter Tryz.func35, Tryz.ntmps35
    go_wp2_with fail
    refine HB.out.mono ?_
    rintro e w1 ⟨rfl, hk1⟩
    go_wp2
    go_ret2
    exact ⟨rfl, h.keep hk1 (fun _ _ => id), hk1.mono (fun _ hf _ => hf.elim)⟩

/-- What Signed answers, and the place behind it. -/
def SigR (l : List UInt8) (p : Nat) (lo hi : Int) : Int × Nat × Nat :=
  if (nx (l.drop p)).2.2 ≠ 0 then (0, (nx (l.drop p)).2.2, p) else if zag (nx (l.drop p)).1 < lo ∨ hi < zag (nx (l.drop p)).1 then (0, 12, p) else (zag (nx (l.drop p)).1, 0, p + (nx (l.drop p)).2.1)

set_option maxRecDepth 100000 in
set_option maxHeartbeats 1000000 in
theorem rsigned_any (w : World) (br : Nat) (O : Nat → Prop) (l : List UInt8) (p : Nat) (lo hi : Int) (h : ReelAt w br O l p) (hlen : l.length ≤ 140737488355328) :
    Calls Tryz.prog 90 #[.pointer (some ⟨br, 0, none⟩), .int .i64 lo, .int .i64 hi] w (Reads w br O l (SigR l p lo hi).2.2 (.int .i64 (SigR l p lo hi).1) (SigR l p lo hi).2.1) := by
  have hx := nx_width (l.drop p)
  have hp := h.2.1
  rw [List.length_drop] at hx
  have hnx := next_any w br O l p h hlen
  unfold SigR
  obtain ⟨⟨n, d, r⟩, hn⟩ : ∃ t, nx (l.drop p) = t := ⟨_, rfl⟩
  rw [hn] at hx hnx ⊢
  clear hn
  dsimp only at hx ⊢
  unfold NxR at hnx
  dsimp only at hnx
  have HB := Lib.hid hnx
  clear hnx
  by_cases hr : r = 0
  · subst hr
    obtain ⟨hx1, hx2, _, hn64⟩ := hx
    have hz1 := zag_ge n hn64
    have hz2 := zag_le n hn64
    have HZ := Lib.hid (fun w => zag_any n w hn64)
    clear hn64
    rw [if_neg (by simp)]
    by_cases hlo : zag n < lo
    · rw [if_pos (.inl hlo)]
      go_enter Tryz.func90, Tryz.ntmps90
      go_wp2_with fail
      refine HB.out.mono ?_
      rintro e w1 ⟨rfl, hk1⟩
      go_wp2_with fail
      refine (HZ.out _).mono ?_
      rintro e w2 ⟨rfl, rfl⟩
      go_wp2
      go_ret2
      exact ⟨rfl, h.keep hk1 (fun _ _ => id), hk1.mono (fun _ hf _ => hf.elim)⟩
    · by_cases hhi : hi < zag n
      · rw [if_pos (.inr hhi)]
        go_enter Tryz.func90, Tryz.ntmps90
        go_wp2_with fail
        refine HB.out.mono ?_
        rintro e w1 ⟨rfl, hk1⟩
        go_wp2_with fail
        refine (HZ.out _).mono ?_
        rintro e w2 ⟨rfl, rfl⟩
        go_wp2
        go_ret2
        exact ⟨rfl, h.keep hk1 (fun _ _ => id), hk1.mono (fun _ hf _ => hf.elim)⟩
      · rw [if_neg (by omega)]
        go_enter Tryz.func90, Tryz.ntmps90
        go_wp2_with fail
        refine HB.out.mono ?_
        rintro e w1 ⟨rfl, hk1⟩
        have h1 := h.keep hk1 (fun _ _ => id)
        obtain ⟨A, c, hb1, _⟩ := h1.cells
        have q1 := hb1.cell 1
        have f1 := hb1.frozen 1
        simp at q1
        go_wp2_with fail
        refine (HZ.out _).mono ?_
        rintro e w2 ⟨rfl, rfl⟩
        go_wp2
        go_ret2
        exact ⟨rfl, h.moved hk1 (by omega) (by omega)⟩
  · have hr1 : ((r : Int) != 0) = true := by rw [bne_iff_ne]; omega
    rw [if_pos hr]
    go_enter Tryz.func90, Tryz.ntmps90
    go_wp2_with fail
    refine HB.out.mono ?_
    rintro e w1 ⟨rfl, hk1⟩
    go_wp2
    go_ret2
    exact ⟨rfl, h.keep hk1 (fun _ _ => id), hk1.mono (fun _ hf _ => hf.elim)⟩

set_option maxHeartbeats 400000 in
theorem at_any (w : World) (br : Nat) (O : Nat → Prop) (l : List UInt8) (p : Nat) (h : ReelAt w br O l p) :
    Calls Tryz.prog 16 #[.pointer (some ⟨br, 0, none⟩)] w fun e w' => e = .returned (.int .i64 p) ∧ w = w' := by
  obtain ⟨A, c, hb1, _⟩ := h.cells
  have q1 := hb1.cell 1
  simp at q1
  go_enter Tryz.func16, Tryz.ntmps16
  go_wp2
  go_ret
  exact ⟨rfl, rfl⟩

end Go.Proofs.YtonpplpfipfnfaaGreatDoor.V

namespace Go.Proofs.YtonpplpfipfnfaaGreatDoor.O

/-- What comes next, if nothing is wrong with it, is its number's bytes. -/
theorem nx_ok {l : List UInt8} (h : (V.nx l).2.2 = 0) : l = V.encL (V.nx l).1 ++ l.drop (V.nx l).2.1 ∧ (V.encL (V.nx l).1).length = (V.nx l).2.1 := by
  rcases l with _ | ⟨b, r⟩
  · cases h
  · rw [V.nx_cons] at h ⊢
    split at h
    · cases h
    · rename_i h1
      split at h
      · cases h
      · rename_i h2
        rw [if_neg h1, if_neg h2]
        have ht := V.td_rng b.toNat (by simpa using b.toNat_lt)
        obtain ⟨t, hT⟩ : ∃ t, V.td b.toNat = t + 1 := ⟨V.td b.toNat - 1, by omega⟩
        simp only
        have hw := V.dc_width b (r.take t) (V.td b.toNat) rfl (by rw [hT]; simp; omega)
        rw [hT] at h1 h2 hw ⊢
        rw [List.take_succ_cons] at h2 ⊢
        have e := hw.2.1 (by omega)
        rw [e]
        refine ⟨?_, by simp; omega⟩
        rw [List.drop_succ_cons, List.cons_append, List.take_append_drop]

theorem num_ok {l : List UInt8} {p m : Nat} (h : (V.NumR l p m).2.1 = 0) :
    l.drop p = V.encL (V.NumR l p m).1 ++ l.drop (V.NumR l p m).2.2 ∧ (V.NumR l p m).1 ≤ m ∧ (V.NumR l p m).1 < 18446744073709551616 ∧ (V.NumR l p m).2.2 = p + (V.encL (V.NumR l p m).1).length := by
  unfold V.NumR at h ⊢
  unfold V.bnd at h ⊢
  have hw := (V.nx_width (l.drop p)).2.2.2
  simp only at h ⊢
  split at h
  · rename_i h1; exact absurd h h1
  · rename_i h1
    split at h
    · cases h
    · rename_i h2
      rw [if_neg h1, if_neg h2]
      have e := nx_ok (l := l.drop p) h
      rw [List.drop_drop] at e
      exact ⟨e.1, by omega, hw, by rw [e.2]⟩
theorem num_enc {l s : List UInt8} {p m n : Nat} (h : l.drop p = V.encL n ++ s) (h1 : n ≤ m) (h2 : n < 18446744073709551616) : V.NumR l p m = (n, 0, p + (V.encL n).length) := by
  have hb : V.bnd (V.nx (l.drop p)) m = (n, V.wd n, 0) := by
    rw [h, V.nx_enc n h2]
    unfold V.bnd
    rw [if_neg (by simp), if_neg (by simp; omega)]
  unfold V.NumR
  rw [hb, V.encL_length n h2]
theorem sig_ok {l : List UInt8} {p : Nat} (h : (V.SigR l p (lo 1) (hi 1)).2.1 = 0) :
    l.drop p = V.encL (V.zig (V.SigR l p (lo 1) (hi 1)).1) ++ l.drop (V.SigR l p (lo 1) (hi 1)).2.2 ∧ inK 1 (V.SigR l p (lo 1) (hi 1)).1 = true ∧ (V.SigR l p (lo 1) (hi 1)).2.2 = p + (V.encL (V.zig (V.SigR l p (lo 1) (hi 1)).1)).length := by
  unfold V.SigR at h ⊢
  split at h
  · rename_i h1; exact absurd h h1
  · rename_i h1
    split at h
    · cases h
    · rename_i h2
      rw [if_neg h1, if_neg h2]
      have e := nx_ok (l := l.drop p) (by omega)
      rw [List.drop_drop] at e
      simp only [V.zig_zag]
      exact ⟨e.1, decide_eq_true (by omega), by rw [e.2]⟩
theorem sig_enc {l s : List UInt8} {p : Nat} {n : Int} (h : l.drop p = V.encL (V.zig n) ++ s) (h1 : inK 1 n = true) : V.SigR l p (lo 1) (hi 1) = (n, 0, p + (V.encL (V.zig n)).length) := by
  have hb := in_bounds h1
  have h1 := of_decide_eq_true h1
  have hz := V.zig_lt n hb.1.1 hb.1.2
  unfold V.SigR
  rw [h, V.nx_enc _ hz, V.encL_length _ hz]
  simp only [V.zag_zig]
  rw [if_neg (by simp), if_neg (by omega)]

/-- An operand that is read: its number, the error, the place behind it. -/
def decP (k : Int) (l : List UInt8) (p : Nat) : Int × Nat × Nat :=
  if k = 0 then (0, 0, p)
  else if k = 1 then V.SigR l p (lo 1) (hi 1)
  else if (V.NumR l p (hi k).toNat).2.1 ≠ 0 then (0, (V.NumR l p (hi k).toNat).2.1, (V.NumR l p (hi k).toNat).2.2)
  else if inK k (V.NumR l p (hi k).toNat).1 = true then ((V.NumR l p (hi k).toNat).1, 0, (V.NumR l p (hi k).toNat).2.2) else (0, 40, (V.NumR l p (hi k).toNat).2.2)

theorem decP_ok {k : Int} {l : List UInt8} {p : Nat} (h : (decP k l p).2.1 = 0) :
    l.drop p = encP k (decP k l p).1 ++ l.drop (decP k l p).2.2 ∧ inK k (decP k l p).1 = true ∧ (decP k l p).2.2 = p + (encP k (decP k l p).1).length := by
  unfold decP at h ⊢
  unfold encP
  by_cases h0 : k = 0
  · simp only [if_pos h0]
    subst h0
    exact ⟨rfl, by decide, rfl⟩
  · simp only [if_neg h0] at h ⊢
    by_cases h1 : k = 1
    · subst h1
      simp only [if_true] at h ⊢
      exact sig_ok h
    · simp only [if_neg h1] at h ⊢
      by_cases h2 : (V.NumR l p (hi k).toNat).2.1 ≠ 0
      · rw [if_pos h2] at h; exact absurd h h2
      · rw [if_neg h2] at h ⊢
        by_cases h3 : inK k (V.NumR l p (hi k).toNat).1 = true
        · rw [if_pos h3]
          have e := num_ok (l := l) (p := p) (m := (hi k).toNat) (by omega)
          exact ⟨e.1, h3, e.2.2.2⟩
        · rw [if_neg h3] at h; cases h
theorem decP_enc {k n : Int} {l s : List UInt8} {p : Nat} (hn : inK k n = true) (h : l.drop p = encP k n ++ s) : decP k l p = (n, 0, p + (encP k n).length) := by
  have hb := in_bounds hn
  unfold encP at h ⊢
  unfold decP
  by_cases h0 : k = 0
  · rw [if_pos h0, if_pos h0, hb.2.2 h0]; rfl
  · rw [if_neg h0] at h ⊢
    rw [if_neg h0]
    by_cases h1 : k = 1
    · subst h1
      simp only [if_true] at h ⊢
      exact sig_enc h hn
    · rw [if_neg h1] at h ⊢
      rw [if_neg h1]
      have hr := hb.2.1 h1
      have hd := of_decide_eq_true hn
      have e := num_enc (m := (hi k).toNat) h (by omega) (by omega)
      rw [e]
      simp only
      have en : ((n.toNat : Nat) : Int) = n := by omega
      rw [en, hn]
      simp

/-- An instruction that is read: it, the error, the place behind it. -/
structure Dec where
  op : Int
  a : Int
  b : Int
  er : Nat
  pl : Nat
def decI (l : List UInt8) (p : Nat) : Dec :=
  if (V.NumR l p 29).2.1 ≠ 0 then ⟨0, 0, 0, (V.NumR l p 29).2.1, (V.NumR l p 29).2.2⟩
  else if (decP (rowAt (V.NumR l p 29).1).ka l (V.NumR l p 29).2.2).2.1 ≠ 0 then ⟨0, 0, 0, (decP (rowAt (V.NumR l p 29).1).ka l (V.NumR l p 29).2.2).2.1, (decP (rowAt (V.NumR l p 29).1).ka l (V.NumR l p 29).2.2).2.2⟩
  else if (decP (rowAt (V.NumR l p 29).1).kb l (decP (rowAt (V.NumR l p 29).1).ka l (V.NumR l p 29).2.2).2.2).2.1 ≠ 0 then
    ⟨0, 0, 0, (decP (rowAt (V.NumR l p 29).1).kb l (decP (rowAt (V.NumR l p 29).1).ka l (V.NumR l p 29).2.2).2.2).2.1, (decP (rowAt (V.NumR l p 29).1).kb l (decP (rowAt (V.NumR l p 29).1).ka l (V.NumR l p 29).2.2).2.2).2.2⟩
  else ⟨(V.NumR l p 29).1, (decP (rowAt (V.NumR l p 29).1).ka l (V.NumR l p 29).2.2).1, (decP (rowAt (V.NumR l p 29).1).kb l (decP (rowAt (V.NumR l p 29).1).ka l (V.NumR l p 29).2.2).2.2).1, 0,
    (decP (rowAt (V.NumR l p 29).1).kb l (decP (rowAt (V.NumR l p 29).1).ka l (V.NumR l p 29).2.2).2.2).2.2⟩

/-- The same, by steps. -/
theorem decI_1 {l : List UInt8} {p n r q : Nat} (h : V.NumR l p 29 = (n, r, q)) (hr : r ≠ 0) : decI l p = ⟨0, 0, 0, r, q⟩ := by unfold decI; rw [h, if_pos hr]
theorem decI_2 {l : List UInt8} {p n q r1 q1 : Nat} {a : Int} (h : V.NumR l p 29 = (n, 0, q)) (h1 : decP (rowAt n).ka l q = (a, r1, q1)) (hr : r1 ≠ 0) : decI l p = ⟨0, 0, 0, r1, q1⟩ := by
  unfold decI; rw [h]; simp only; rw [h1, if_neg (by simp), if_pos hr]
theorem decI_3 {l : List UInt8} {p n q q1 r2 q2 : Nat} {a b : Int} (h : V.NumR l p 29 = (n, 0, q)) (h1 : decP (rowAt n).ka l q = (a, 0, q1)) (h2 : decP (rowAt n).kb l q1 = (b, r2, q2)) (hr : r2 ≠ 0) : decI l p = ⟨0, 0, 0, r2, q2⟩ := by
  unfold decI; rw [h]; simp only; rw [h1]; simp only; rw [h2, if_neg (by simp), if_neg (by simp), if_pos hr]
theorem decI_4 {l : List UInt8} {p n q q1 q2 : Nat} {a b : Int} (h : V.NumR l p 29 = (n, 0, q)) (h1 : decP (rowAt n).ka l q = (a, 0, q1)) (h2 : decP (rowAt n).kb l q1 = (b, 0, q2)) : decI l p = ⟨n, a, b, 0, q2⟩ := by
  unfold decI; rw [h]; simp only; rw [h1]; simp only; rw [h2]; simp

theorem trip (x : Int × Nat × Nat) : x = (x.1, x.2.1, x.2.2) := rfl
theorem tripN (x : Nat × Nat × Nat) : x = (x.1, x.2.1, x.2.2) := rfl

/-- What is read without an error may be, and was its bytes. -/
theorem decI_ok {l : List UInt8} {p : Nat} (h : (decI l p).er = 0) :
    okI (decI l p).op (decI l p).a (decI l p).b = true ∧ l.drop p = bytesI (decI l p).op (decI l p).a (decI l p).b ++ l.drop (decI l p).pl ∧ (decI l p).pl = p + (bytesI (decI l p).op (decI l p).a (decI l p).b).length := by
  obtain ⟨n, r, q, hN⟩ : ∃ n r q, V.NumR l p 29 = (n, r, q) := ⟨_, _, _, rfl⟩
  by_cases hr : r = 0
  · subst hr
    obtain ⟨a, r1, q1, hA⟩ : ∃ a r1 q1, decP (rowAt n).ka l q = (a, r1, q1) := ⟨_, _, _, rfl⟩
    by_cases hr1 : r1 = 0
    · subst hr1
      obtain ⟨b, r2, q2, hB⟩ : ∃ b r2 q2, decP (rowAt n).kb l q1 = (b, r2, q2) := ⟨_, _, _, rfl⟩
      by_cases hr2 : r2 = 0
      · subst hr2
        have eN := num_ok (l := l) (p := p) (m := 29) (by rw [hN])
        have eA := decP_ok (k := (rowAt n).ka) (l := l) (p := q) (by rw [hA])
        have eB := decP_ok (k := (rowAt n).kb) (l := l) (p := q1) (by rw [hB])
        rw [hN] at eN
        rw [hA] at eA
        rw [hB] at eB
        simp only at eN eA eB
        rw [decI_4 hN hA hB]
        simp only
        have ho : isOp (n : Int) = true := decide_eq_true (by omega)
        refine ⟨?_, ?_, ?_⟩
        · unfold okI; rw [ho, eA.2.1, eB.2.1]; rfl
        · unfold bytesI
          rw [eN.1, eA.1, eB.1]
          simp
        · unfold bytesI
          rw [eB.2.2, eA.2.2, eN.2.2.2]
          simp
          omega
      · rw [decI_3 hN hA hB hr2] at h; exact absurd h hr2
    · rw [decI_2 hN hA hr1] at h; exact absurd h hr1
  · rw [decI_1 hN hr] at h; exact absurd h hr
/-- What cannot be read is nothing. -/
theorem decI_no {l : List UInt8} {p : Nat} (h : (decI l p).er ≠ 0) : (decI l p).op = 0 ∧ (decI l p).a = 0 ∧ (decI l p).b = 0 := by
  obtain ⟨n, r, q, hN⟩ : ∃ n r q, V.NumR l p 29 = (n, r, q) := ⟨_, _, _, rfl⟩
  by_cases hr : r = 0
  · subst hr
    obtain ⟨a, r1, q1, hA⟩ : ∃ a r1 q1, decP (rowAt n).ka l q = (a, r1, q1) := ⟨_, _, _, rfl⟩
    by_cases hr1 : r1 = 0
    · subst hr1
      obtain ⟨b, r2, q2, hB⟩ : ∃ b r2 q2, decP (rowAt n).kb l q1 = (b, r2, q2) := ⟨_, _, _, rfl⟩
      by_cases hr2 : r2 = 0
      · subst hr2
        rw [decI_4 hN hA hB] at h; exact absurd rfl h
      · rw [decI_3 hN hA hB hr2]; exact ⟨rfl, rfl, rfl⟩
    · rw [decI_2 hN hA hr1]; exact ⟨rfl, rfl, rfl⟩
  · rw [decI_1 hN hr]; exact ⟨rfl, rfl, rfl⟩
/-- An instruction's bytes are read as it was. -/
theorem decI_enc {op a b : Int} {l s : List UInt8} {p : Nat} (hok : okI op a b = true) (h : l.drop p = bytesI op a b ++ s) : decI l p = ⟨op, a, b, 0, p + (bytesI op a b).length⟩ := by
  obtain ⟨ho, hA, hB⟩ := ok_op hok
  have hb := isOp_yes ho
  have en : ((op.toNat : Nat) : Int) = op := by omega
  unfold bytesI at h
  rw [List.append_assoc, List.append_assoc] at h
  have e1 := num_enc (m := 29) h (by omega) (by omega)
  have d1 : l.drop (p + (V.encL op.toNat).length) = encP (rowAt op).ka a ++ (encP (rowAt op).kb b ++ s) := by
    rw [← List.drop_drop, h, List.drop_left]
  have e2 := decP_enc hA d1
  have d2 : l.drop (p + (V.encL op.toNat).length + (encP (rowAt op).ka a).length) = encP (rowAt op).kb b ++ s := by
    rw [← List.drop_drop, d1, List.drop_left]
  have e3 := decP_enc hB d2
  rw [← en] at e2 e3
  rw [decI_4 e1 e2 e3, en]
  unfold bytesI
  simp
  omega

end Go.Proofs.YtonpplpfipfnfaaGreatDoor.O

namespace Go.Proofs.YtonpplpfipfnfaaGreatDoor.C
open Go.RowKit O

/-- What is read in one. -/
def d3 (l : List UInt8) (q : Nat) : I3 := ((decI l q).op, (decI l q).a, (decI l q).b)
/-- So many instructions, read one behind the other, and the place behind them. -/
def fwd (l : List UInt8) (p : Nat) : Nat → Option (List I3 × Nat)
  | 0 => some ([], p)
  | k + 1 => match fwd l p k with
    | none => none
    | some x => if (decI l x.2).er = 0 then some (x.1 ++ [d3 l x.2], (decI l x.2).pl) else none
theorem fwd_step {l : List UInt8} {p k q : Nat} {xs : List I3} (h : fwd l p k = some (xs, q)) (he : (decI l q).er = 0) : fwd l p (k + 1) = some (xs ++ [d3 l q], (decI l q).pl) := by
  rw [fwd, h]; exact if_pos he
theorem fwd_stop {l : List UInt8} {p k q : Nat} {xs : List I3} (h : fwd l p k = some (xs, q)) (he : (decI l q).er ≠ 0) : fwd l p (k + 1) = none := by
  rw [fwd, h]; exact if_neg he
theorem fwd_none {l : List UInt8} {p k : Nat} (h : fwd l p k = none) : ∀ m, k ≤ m → fwd l p m = none := by
  intro m
  induction m with
  | zero => intro hk; obtain rfl : k = 0 := by omega
            exact h
  | succ m ih =>
    intro hk
    by_cases e : k = m + 1
    · rw [← e]; exact h
    · rw [fwd, ih (by omega)]
theorem fwd_ok {l : List UInt8} {p : Nat} : ∀ (k : Nat) {xs : List I3} {q : Nat}, fwd l p k = some (xs, q) → l.drop p = byt xs ++ l.drop q ∧ q = p + (byt xs).length ∧ xs.length = k ∧ xs.all ok1 = true := by
  intro k
  induction k with
  | zero =>
    intro xs q h
    rw [fwd] at h
    injection h with h
    injection h with h1 h2
    subst h1 h2
    exact ⟨rfl, rfl, rfl, rfl⟩
  | succ k ih =>
    intro xs q h
    cases hf : fwd l p k with
    | none => rw [fwd, hf] at h; cases h
    | some y =>
      obtain ⟨ys, r⟩ := y
      by_cases he : (decI l r).er = 0
      · rw [fwd_step hf he] at h
        injection h with h
        injection h with h1 h2
        subst h1 h2
        obtain ⟨e1, e2, e3, e4⟩ := ih hf
        obtain ⟨o1, o2, o3⟩ := decI_ok he
        refine ⟨?_, ?_, by simp [e3], ?_⟩
        · rw [byt_snoc, e1, o2]; simp [d3]
        · rw [byt_snoc, o3, e2]; simp [d3]; omega
        · rw [List.all_append, e4]; simp [ok1, d3, o1]
      · rw [fwd_stop hf he] at h; cases h
theorem byt_append (l r : List I3) : byt (l ++ r) = byt l ++ byt r := by unfold byt; rw [List.flatMap_append]
theorem fwd_enc {l s : List UInt8} {p : Nat} (xs ys : List I3) (ho : (xs ++ ys).all ok1 = true) (h : l.drop p = byt (xs ++ ys) ++ s) : fwd l p xs.length = some (xs, p + (byt xs).length) := by
  induction hn : xs.length generalizing xs ys with
  | zero => obtain rfl := List.length_eq_zero_iff.1 hn; rfl
  | succ n ih =>
    have hne : xs ≠ [] := by intro e; rw [e] at hn; cases hn
    obtain ⟨zs, z, rfl⟩ : ∃ zs z, xs = zs ++ [z] := ⟨xs.dropLast, xs.getLast hne, (List.dropLast_concat_getLast hne).symm⟩
    have hz : zs.length = n := by simpa using hn
    rw [List.append_assoc] at ho h
    have h1 := ih zs ([z] ++ ys) ho h hz
    have hd : l.drop (p + (byt zs).length) = bytesI z.1 z.2.1 z.2.2 ++ (byt ys ++ s) := by
      rw [← List.drop_drop, h, byt_append, byt_append, List.append_assoc, List.drop_left']
      · simp [byt]
      · rfl
    have hok : okI z.1 z.2.1 z.2.2 = true := by
      have := List.all_eq_true.1 ho z (by simp)
      exact this
    have hdec := decI_enc hok hd
    rw [fwd_step h1 (by rw [hdec])]
    unfold d3
    rw [hdec, byt_snoc]
    simp; omega

/-- The body that stands at a place, and the place behind it. -/
def bodyOf (y : Option (List I3 × Nat)) : Option (List I3 × Nat) := match y with
  | none => none
  | some x => if okB x.1 = true then some x else none
def decB (l : List UInt8) (p : Nat) : Option (List I3 × Nat) := if (V.NumR l p 512).2.1 ≠ 0 then none else bodyOf (fwd l (V.NumR l p 512).2.2 (V.NumR l p 512).1)
theorem decB_ok {l : List UInt8} {p q : Nat} {xs : List I3} (h : decB l p = some (xs, q)) : okB xs = true ∧ l.drop p = bytesB xs ++ l.drop q ∧ q = p + (bytesB xs).length := by
  unfold decB at h
  by_cases hr : (V.NumR l p 512).2.1 = 0
  · rw [if_neg (by simpa using hr)] at h
    cases hf : fwd l (V.NumR l p 512).2.2 (V.NumR l p 512).1 with
    | none => rw [hf] at h; cases h
    | some y =>
      rw [hf] at h
      unfold bodyOf at h
      simp only at h
      by_cases ho : okB y.1 = true
      · rw [if_pos ho] at h
        injection h with h
        subst h
        obtain ⟨e1, e2, e3, _⟩ := fwd_ok _ hf
        obtain ⟨n1, n2, n3, n4⟩ := num_ok hr
        refine ⟨ho, ?_, ?_⟩
        · unfold bytesB; rw [n1, e1, e3]; simp
        · unfold bytesB; rw [e2, n4, e3]; simp; omega
      · rw [if_neg ho] at h; cases h
  · rw [if_pos hr] at h; cases h
theorem all_ok1 {l : List I3} (h : okB l = true) : l.all ok1 = true := by
  rw [List.all_eq_true]
  intro x hx
  exact (item_parts (List.all_eq_true.1 (okB_parts h).2.2.2 x hx)).1
theorem decB_enc {l s : List UInt8} {p : Nat} {xs : List I3} (ho : okB xs = true) (h : l.drop p = bytesB xs ++ s) : decB l p = some (xs, p + (bytesB xs).length) := by
  obtain ⟨h1, h2, _, _⟩ := okB_parts ho
  unfold bytesB at h
  rw [List.append_assoc] at h
  have hN := num_enc (m := 512) h h2 (by omega)
  unfold decB
  rw [hN]
  simp only
  have hd : l.drop (p + (V.encL xs.length).length) = byt (xs ++ []) ++ s := by
    rw [← List.drop_drop, h, List.drop_left' rfl, List.append_nil]
  have hf := fwd_enc xs [] (by rw [List.append_nil]; exact all_ok1 ho) hd
  rw [if_neg (by simp), hf]
  unfold bodyOf
  simp only
  rw [if_pos ho]
  unfold bytesB
  simp; omega

end Go.Proofs.YtonpplpfipfnfaaGreatDoor.C

namespace Go.Proofs.YtonpplpfipfnfaaGreatDoor.O
open Go.RowKit

theorem num_case (l : List UInt8) (p M : Nat) : ∃ n r q : Nat, V.NumR l p M = (n, r, q) ∧ (r = 0 → n ≤ M ∧ n < 18446744073709551616) ∧ (r ≠ 0 → n = 0) := by
  refine ⟨_, _, _, rfl, fun h => ?_, fun h => ?_⟩
  · have := num_ok (l := l) (p := p) (m := M) h; exact ⟨this.2.1, this.2.2.1⟩
  · exact (V.bnd_zero (l.drop p) M h).1
theorem hi_nat {k : Int} (h1 : k ≠ 1) : ∃ M : Nat, hi k = (M : Int) ∧ M ≤ 511 := by
  refine ⟨(hi k).toNat, ?_, ?_⟩ <;> unfold hi <;> rw [if_neg h1] <;> repeat' split
  all_goals simp
theorem keepBr {w w1 w2 : World} {br : Nat} (h : Keep NoB w w1) (h2 : Keep (fun k => k = br) w1 w2) : Keep (fun k => k = br) w w2 := (h.mono (fun _ hf _ => hf.elim)).trans h2 (fun _ ho _ => ho)
theorem reads_ret {w w' : World} {br : Nat} {O : Nat → Prop} {l : List UInt8} {q er q' er' : Nat} {a a' : Int} (h1 : a = a') (h2 : er = er') (h3 : q = q') (h : V.ReelAt w' br O l q) (hk : Keep (fun k => k = br) w w') :
    V.Reads w br O l q' (.int .i64 a') er' (.returned (.tuple #[.int .i64 a, .int .i64 er])) w' := by subst h1 h2 h3; exact ⟨rfl, h, hk⟩
theorem blk5 {w : World} {g : Nat} {t : TypeId} {a0 a1 a2 a3 a4 : Value} (h : Blk w g t #[a0, a1, a2, a3, a4]) :
    w.cell? ⟨g, 0, none⟩ = some a0 ∧ w.cell? ⟨g, 1, none⟩ = some a1 ∧ w.cell? ⟨g, 2, none⟩ = some a2 ∧ w.cell? ⟨g, 3, none⟩ = some a3 ∧ w.cell? ⟨g, 4, none⟩ = some a4 := ⟨h.cell 0, h.cell 1, h.cell 2, h.cell 3, h.cell 4⟩
theorem reel_lt {w : World} {br p : Nat} {O : Nat → Prop} {l : List UInt8} (h : V.ReelAt w br O l p) : br < w.heap.size := by
  obtain ⟨A, c, hb, _⟩ := h.cells
  exact hb.lt

set_option maxHeartbeats 2000000 in
theorem read_any (k : Int) (sh gu : Value) (w : World) (br : Nat) (O : Nat → Prop) (l : List UInt8) (p : Nat) (h : V.ReelAt w br O l p) (hlen : l.length ≤ 140737488355328) :
    Calls Tryz.prog 60 #[opV k sh gu, .pointer (some ⟨br, 0, none⟩)] w (V.Reads w br O l (decP k l p).2.2 (.int .i64 (decP k l p).1) (decP k l p).2.1) := by
  have hK := (Keep.refl NoB w).alloc (.cells #[.int .i64 k, .int .i64 (lo k), .int .i64 (hi k), sh, gu] 109)
  have h1 := h.keep hK (fun _ _ => id)
  have hb0 := Blk.new w 109 #[.int .i64 k, .int .i64 (lo k), .int .i64 (hi k), sh, gu]
  have hbr := reel_lt h
  unfold opV
  by_cases h0 : k = 0
  · subst h0
    have HX : Hid (decP 0 l p = (0, 0, p)) := rfl
    clear hb0 hbr
    go_enter Tryz.func60, Tryz.ntmps60
    go_wp2
    go_ret2
    rw [HX.out]
    exact ⟨rfl, h1, hK.mono (fun _ hf _ => hf.elim)⟩
  · have q0 : (k == 0) = false := by rw [beq_eq_false_iff_ne]; exact h0
    by_cases h1k : k = 1
    · subst h1k
      have HS := Lib.hid (V.rsigned_any _ br O l p (lo 1) (hi 1) h1 hlen)
      have HX : Hid (decP 1 l p = V.SigR l p (lo 1) (hi 1)) := rfl
      rw [HX.out]
      generalize V.SigR l p (lo 1) (hi 1) = x at HS ⊢
      clear HX h h1 hb0 hbr
      go_enter Tryz.func60, Tryz.ntmps60
      go_wp2_with fail
      refine HS.out.mono ?_
      rintro e w1 ⟨rfl, h2, k2⟩
      go_wp2
      go_ret2
      exact ⟨rfl, h2, keepBr hK k2⟩
    · have q1 : (k == 1) = false := by rw [beq_eq_false_iff_ne]; exact h1k
      obtain ⟨M, hM, hM5⟩ := hi_nat h1k
      have hw : IntKind.u64.wrap (M : Int) = (M : Int) := by simp [IntKind.wrap, IntKind.bits, IntKind.signed]; omega
      have HS := Lib.hid (V.rnumber_any _ br O l p M h1 hlen)
      obtain ⟨n, r, q, hN, hN0, hN1⟩ := num_case l p M
      have HX : Hid (decP k l p = if r ≠ 0 then (0, r, q) else if inK k n = true then ((n : Int), 0, q) else (0, 40, q)) := by
        show _ = _
        unfold decP
        rw [if_neg h0, if_neg h1k, show (hi k).toNat = M by omega, hN]
      rw [hN] at HS
      have HG := Lib.hid (fun w t ht => has_gen k (n : Int) (opV k sh gu) t w ht ⟨sh, gu, rfl⟩)
      unfold opV at HG
      rw [hM] at hb0 HG HS ⊢
      have hK' : Keep NoB w (w.alloc (.cells #[.int .i64 k, .int .i64 (lo k), .int .i64 (M : Int), sh, gu] 109)) := (Keep.refl NoB w).alloc _
      clear h h1 hK hN hM
      by_cases hr : r = 0
      · subst hr
        obtain ⟨hn1, hn2⟩ := hN0 rfl
        have hwn : IntKind.i64.wrap (n : Int) = (n : Int) := by simp [IntKind.wrap, IntKind.bits, IntKind.signed]; omega
        clear hN0 hN1
        cases hin : inK k (n : Int)
        · have HX2 : Hid (decP k l p = (0, 40, q)) := by show _ = _; rw [HX.out, hin]; simp
          have HH := Lib.hid (fun w => HG.out w false hin)
          clear HX HG hin
          go_enter Tryz.func60, Tryz.ntmps60
          go_wp2_with fail
          refine HS.out.mono ?_
          rintro e w1 ⟨rfl, h2, k2⟩
          have b1 := hb0.keep k2 (fun e => by omega)
          obtain ⟨c0, c1, c2, c3, c4⟩ := blk5 b1
          go_wp2_with fail
          refine (HH.out _).mono ?_
          rintro e w2 ⟨rfl, k3⟩
          go_wp2
          go_ret2
          rw [HX2.out]
          exact ⟨rfl, h2.keep k3 (fun _ _ => id), (keepBr hK' k2).trans (k3.mono (fun _ hf _ => hf.elim)) (fun _ ho _ => ho)⟩
        · have HX2 : Hid (decP k l p = ((n : Int), 0, q)) := by show _ = _; rw [HX.out, hin]; simp
          have HH := Lib.hid (fun w => HG.out w true hin)
          clear HX HG hin
          go_enter Tryz.func60, Tryz.ntmps60
          go_wp2_with fail
          refine HS.out.mono ?_
          rintro e w1 ⟨rfl, h2, k2⟩
          have b1 := hb0.keep k2 (fun e => by omega)
          obtain ⟨c0, c1, c2, c3, c4⟩ := blk5 b1
          go_wp2_with fail
          refine (HH.out _).mono ?_
          rintro e w2 ⟨rfl, k3⟩
          go_wp2
          go_ret2
          rw [HX2.out]
          exact ⟨rfl, h2.keep k3 (fun _ _ => id), (keepBr hK' k2).trans (k3.mono (fun _ hf _ => hf.elim)) (fun _ ho _ => ho)⟩
      · have hr1 : ((r : Int) != 0) = true := by rw [bne_iff_ne]; omega
        have HX2 : Hid (decP k l p = (0, r, q)) := by show _ = _; rw [HX.out, if_pos hr]
        clear HX HG hN0 hN1 hr
        go_enter Tryz.func60, Tryz.ntmps60
        go_wp2_with fail
        refine HS.out.mono ?_
        rintro e w1 ⟨rfl, h2, k2⟩
        have b1 := hb0.keep k2 (fun e => by omega)
        obtain ⟨c0, c1, c2, c3, c4⟩ := blk5 b1
        go_wp2
        go_ret2
        rw [HX2.out]
        exact ⟨rfl, h2, keepBr hK' k2⟩

/-! ### Decode -/

/-- What Decode leaves. -/
def DecR (w : World) (br : Nat) (O : Nat → Prop) (l : List UInt8) (d : Dec) (e : Ending) (w' : World) : Prop :=
  e = .returned (.tuple #[instV d.op d.a d.b, .int .i64 d.er]) ∧ V.ReelAt w' br O l d.pl ∧ Keep (fun k => k = br) w w'
theorem dec_case (k : Int) (l : List UInt8) (p : Nat) : ∃ (a : Int) (r q : Nat), decP k l p = (a, r, q) := ⟨_, _, _, rfl⟩
theorem read_at (k : Int) (v : Value) (w : World) (br : Nat) (O : Nat → Prop) (l : List UInt8) (p : Nat) (a : Int) (r q : Nat) (hd : decP k l p = (a, r, q)) (hv : ∃ sh gu, v = opV k sh gu) (h : V.ReelAt w br O l p) (hlen : l.length ≤ 140737488355328) :
    Calls Tryz.prog 60 #[v, .pointer (some ⟨br, 0, none⟩)] w (V.Reads w br O l q (.int .i64 a) r) := by
  obtain ⟨sh, gu, rfl⟩ := hv
  have := read_any k sh gu w br O l p h hlen
  rw [hd] at this
  exact this
theorem out3 {w w1 : World} {br B : Nat} (hk : Keep (fun k => k = br) w w1) (hB : w.heap.size ≤ B) (u0 u1 u2 : Value) : Keep (fun k => k = br) w (((w1.setCell ⟨B, 0, none⟩ u0).setCell ⟨B, 1, none⟩ u1).setCell ⟨B, 2, none⟩ u2) := by
  have hn : ∀ i, (⟨B, i, none⟩ : Addr).block < w.heap.size → (⟨B, i, none⟩ : Addr).block = br := fun i hl => by have : B < w.heap.size := hl; omega
  exact ((hk.setCell (hn 0) _).setCell (hn 1) _).setCell (hn 2) _
theorem reel3 {w : World} {br B p : Nat} {O : Nat → Prop} {l : List UInt8} (h : V.ReelAt w br O l p) (hB : ¬ O B) (u0 u1 u2 : Value) : V.ReelAt (((w.setCell ⟨B, 0, none⟩ u0).setCell ⟨B, 1, none⟩ u1).setCell ⟨B, 2, none⟩ u2) br O l p := by
  have hs : ∀ (w : World) i u, V.ReelAt w br O l p → V.ReelAt (w.setCell ⟨B, i, none⟩ u) br O l p := fun w i u h =>
    h.keep (O' := fun k => k = B) (Keep.setCell (O := fun k => k = B) (p := ⟨B, i, none⟩) (Keep.refl _ w) (fun _ => rfl) u) (fun k ho e => hB (e ▸ ho))
  exact hs _ 2 u2 (hs _ 1 u1 (hs _ 0 u0 h))
theorem reel_new {w : World} {br p : Nat} {O : Nat → Prop} {l : List UInt8} (h : V.ReelAt w br O l p) : V.ReelAt w br (fun k => O k ∧ k < w.heap.size) l p := h.mono fun _ ho hk => ⟨ho, hk⟩

set_option maxHeartbeats 2000000 in
theorem decode_any (w : World) (br : Nat) (O : Nat → Prop) (l : List UInt8) (p : Nat) (hO : ∀ k, O k → k < w.heap.size) (h : V.ReelAt w br O l p) (hlen : l.length ≤ 140737488355328) :
    Calls Tryz.prog 36 #[.pointer (some ⟨br, 0, none⟩)] w (DecR w br O l (decI l p)) := by
  have hK := (Keep.refl NoB w).alloc (.cells #[.int .i64 0, .int .i64 0, .int .i64 0] 46)
  have h1 := h.keep hK (fun _ _ => id)
  have hb0 := Blk.new w 46 #[.int .i64 0, .int .i64 0, .int .i64 0]
  have hnB : ¬ O w.heap.size := fun ho => by have := hO _ ho; omega
  have hbr := reel_lt h
  have HS := Lib.hid (V.rnumber_any _ br O l p 29 h1 hlen)
  obtain ⟨n, r, q, hN, hN0, hN1⟩ := num_case l p 29
  rw [hN] at HS
  clear h h1 hO
  by_cases hr : r = 0
  · subst hr
    obtain ⟨hn1, hn2⟩ := hN0 rfl
    have hwn : IntKind.i64.wrap (n : Int) = (n : Int) := by simp [IntKind.wrap, IntKind.bits, IntKind.signed]; omega
    have hkk := kinds_ok (n : Int)
    have HKn := Lib.hid (fun w => kinds_any (n : Int) w)
    obtain ⟨a, r1, q1, hA⟩ := dec_case (rowAt n).ka l q
    have HOA := Lib.hid (fun w => op_gen (rowAt n).ka ⟨hkk.1, hkk.2.1⟩ w)
    have HRA := Lib.hid (fun v hv w h => read_at (rowAt n).ka v w br O l q a r1 q1 hA hv h hlen)
    have HOB := Lib.hid (fun w => op_gen (rowAt n).kb ⟨hkk.2.2.1, hkk.2.2.2⟩ w)
    have HDB := Lib.hid (fun p => dec_case (rowAt n).kb l p)
    have HRB := Lib.hid (fun p b r2 q2 hB v hv w h => read_at (rowAt n).kb v w br O l p b r2 q2 hB hv h hlen)
    have HD2 := Lib.hid (fun hr => decI_2 (l := l) (p := p) hN hA hr)
    have HD3 := Lib.hid (fun (hr : r1 = 0) b r2 q2 hB hr2 => decI_3 (l := l) (p := p) (b := b) (r2 := r2) (q2 := q2) hN (by rw [hA, hr]) hB hr2)
    have HD4 := Lib.hid (fun (hr : r1 = 0) b q2 hB => decI_4 (l := l) (p := p) (b := b) (q2 := q2) hN (by rw [hA, hr]) hB)
    clear hN0 hN1 hkk hA hN
    generalize (rowAt (n : Int)).ka = ka at *
    generalize (rowAt (n : Int)).kb = kb at *
    go_enter Tryz.func36, Tryz.ntmps36
    go_wp2_with fail
    refine HS.out.mono ?_
    rintro e w1 ⟨rfl, h2, k2⟩
    replace hb0 := hb0.keep k2 (fun e => by omega)
    replace hK := keepBr hK k2
    clear k2
    go_wp2_with fail
    refine (HKn.out _).mono ?_
    rintro e w2 ⟨rfl, k2⟩
    replace hb0 := hb0.keep k2 id
    replace hK := hK.trans (k2.mono (fun _ hf _ => hf.elim)) (fun _ ho _ => ho)
    replace h2 := h2.keep k2 (fun _ _ => id)
    clear k2
    go_wp2_with fail
    refine (HOA.out _).mono ?_
    rintro e w3 ⟨u, rfl, hu, k2⟩
    replace hb0 := hb0.keep k2 id
    replace hK := hK.trans (k2.mono (fun _ hf _ => hf.elim)) (fun _ ho _ => ho)
    replace h2 := h2.keep k2 (fun _ _ => id)
    clear k2
    go_wp2_with fail
    refine (HRA.out u hu _ h2).mono ?_
    rintro e w4 ⟨rfl, h3, k2⟩
    replace hb0 := hb0.keep k2 (fun e => by omega)
    replace hK := hK.trans k2 (fun _ ho _ => ho)
    clear k2 h2 hu
    by_cases hr1 : r1 = 0
    · subst hr1
      obtain ⟨b, r2, q2, hB⟩ := HDB.out q1
      have HRB2 := Lib.hid (HRB.out q1 b r2 q2 hB)
      go_wp2_with fail
      refine (HOB.out _).mono ?_
      rintro e w5 ⟨u2, rfl, hu2, k2⟩
      replace hb0 := hb0.keep k2 id
      replace hK := hK.trans (k2.mono (fun _ hf _ => hf.elim)) (fun _ ho _ => ho)
      replace h3 := h3.keep k2 (fun _ _ => id)
      clear k2
      go_wp2_with fail
      refine (HRB2.out u2 hu2 _ h3).mono ?_
      rintro e w6 ⟨rfl, h4, k2⟩
      replace hb0 := hb0.keep k2 (fun e => by omega)
      replace hK := hK.trans k2 (fun _ ho _ => ho)
      clear k2 h3 hu2 HRB2 HRB
      have hz := hb0.lt
      have f0 := fun i => hb0.frozen i
      by_cases hr2 : r2 = 0
      · subst hr2
        have HX := Lib.hid (HD4.out (by first | rfl | trivial) b q2 hB)
        clear HD2 HD3 HD4 hB
        obtain ⟨x0, x1, x2⟩ := blk_inst hb0
        go_wp2
        refine bodyPost_ret (v := .tuple #[instV n a b, .int .i64 0]) (by simp [results, Tryz.results36, go_sem, x0, x1, x2]) rfl ?_
        rw [HX.out]
        exact ⟨rfl, reel3 h4 hnB _ _ _, out3 hK (Nat.le_refl _) _ _ _⟩
      · have HX := Lib.hid (HD3.out (by first | rfl | trivial) b r2 q2 hB hr2)
        have hr3 : ((r2 : Int) != 0) = true := by rw [bne_iff_ne]; omega
        clear HD2 HD3 HD4 hB hr2
        obtain ⟨x0, x1, x2⟩ := blk_inst hb0
        go_wp2
        refine bodyPost_ret (v := .tuple #[instV 0 0 0, .int .i64 r2]) (by simp [results, Tryz.results36, go_sem, x0, x1, x2]) rfl ?_
        rw [HX.out]
        exact ⟨rfl, reel3 h4 hnB _ _ _, out3 hK (Nat.le_refl _) _ _ _⟩
    · have HX := Lib.hid (HD2.out hr1)
      have hr3 : ((r1 : Int) != 0) = true := by rw [bne_iff_ne]; omega
      clear HD2 HD3 HD4 hr1 HOB HRB HDB HRA HOA
      have hz := hb0.lt
      have f0 := fun i => hb0.frozen i
      obtain ⟨x0, x1, x2⟩ := blk_inst hb0
      go_wp2
      refine bodyPost_ret (v := .tuple #[instV 0 0 0, .int .i64 r1]) (by simp [results, Tryz.results36, go_sem, x0, x1, x2]) rfl ?_
      rw [HX.out]
      exact ⟨rfl, reel3 h3 hnB _ _ _, out3 hK (Nat.le_refl _) _ _ _⟩
  · have HX := Lib.hid (decI_1 hN hr)
    have hr3 : ((r : Int) != 0) = true := by rw [bne_iff_ne]; omega
    clear hN0 hN1 hN hr
    go_enter Tryz.func36, Tryz.ntmps36
    go_wp2_with fail
    refine HS.out.mono ?_
    rintro e w1 ⟨rfl, h2, k2⟩
    replace hb0 := hb0.keep k2 (fun e => by omega)
    replace hK := keepBr hK k2
    clear k2
    have hz := hb0.lt
    have f0 := fun i => hb0.frozen i
    obtain ⟨x0, x1, x2⟩ := blk_inst hb0
    go_wp2
    refine bodyPost_ret (v := .tuple #[instV 0 0 0, .int .i64 r]) (by simp [results, Tryz.results36, go_sem, x0, x1, x2]) rfl ?_
    rw [HX.out]
    exact ⟨rfl, reel3 h2 hnB _ _ _, out3 hK (Nat.le_refl _) _ _ _⟩

end Go.Proofs.YtonpplpfipfnfaaGreatDoor.O

namespace Go.Proofs.YtonpplpfipfnfaaGreatDoor.V
open Go.RowKit

/-- Bytes were taken, or there were too few of them. -/
def Taken (w : World) (br : Nat) (O : Nat → Prop) (l : List UInt8) (p fr : Nat) (S : Int) (e : Ending) (w' : World) : Prop :=
  ((l.length : Int) - fr < S ∧ e = .returned (.tuple #[.slice none 0 0, .int .i64 10]) ∧ ReelAt w' br O l p ∧ Keep NoB w w') ∨
  (S ≤ (l.length : Int) - fr ∧ ∃ A c, e = .returned (.tuple #[.slice A S.toNat c, .int .i64 0]) ∧ OwnB w' (Fresh w) (.slice A S.toNat c) ((l.drop fr).take S.toNat) ∧ ReelAt w' br O l (fr + S.toNat) ∧ Keep (fun k => k = br) w w')

theorem bounded_at (w : World) (br : Nat) (O : Nat → Prop) (l : List UInt8) (p most : Nat) (N : Int) (h : ReelAt w br O l p) (hlen : l.length ≤ 140737488355328) (hN : N = most) :
    Calls Tryz.prog 57 #[.pointer (some ⟨br, 0, none⟩), .int .u64 N] w fun e w' => e = NxR (bnd (nx (l.drop p)) most) ∧ Keep NoB w w' := by
  subst hN; exact bounded_any w br O l p most h hlen

theorem bnd_le (r : Nat × Nat × Nat) (most : Nat) : (bnd r most).1 ≤ most := by
  unfold bnd
  split
  · exact Nat.zero_le _
  · rename_i h1
    split
    · exact Nat.zero_le _
    · omega

/-- What Bytes leaves. -/
def BytesP (w : World) (br : Nat) (O : Nat → Prop) (l : List UInt8) (p : Nat) (b : Nat × Nat × Nat) (e : Ending) (w' : World) : Prop :=
  (b.2.2 ≠ 0 ∧ e = .returned (.tuple #[.slice none 0 0, .int .i64 b.2.2]) ∧ ReelAt w' br O l p ∧ Keep NoB w w') ∨ (b.2.2 = 0 ∧ Taken w br O l p (p + b.2.1) b.1 e w')

theorem Taken.from {w w1 w' : World} {br : Nat} {O : Nat → Prop} {l : List UInt8} {p fr : Nat} {S : Int} {e : Ending} (hk : Keep NoB w w1) (h : Taken w1 br O l p fr S e w') : Taken w br O l p fr S e w' := by
  rcases h with ⟨h1, h2, h3, h4⟩ | ⟨h1, A, c, h2, h3, h4, h5⟩
  · exact .inl ⟨h1, h2, h3, keepN hk h4⟩
  · exact .inr ⟨h1, A, c, h2, h3.mono (fun k hk' _ => Nat.le_trans hk.size hk'), h4, hk.mono (O' := fun k => k = br) (fun _ hf _ => hf.elim) |>.trans h5 (fun k e _ => e)⟩

end Go.Proofs.YtonpplpfipfnfaaGreatDoor.V

namespace Go.Proofs.YtonpplpfipfnfaaGreatDoor.V
open Go.RowKit

/-- The document's own Reel at block br that has the bytes l and the place p; all its blocks are of O. -/
def RefAt (w : World) (br : Nat) (O : Nat → Prop) (l : List UInt8) (p : Nat) : Prop :=
  O br ∧ p ≤ l.length ∧ ∃ A c, Blk w br 34 #[.slice A l.length c, .int .i64 p] ∧ Rd w A l ∧ l.length ≤ c ∧ c ≤ maxLen ∧ ∀ ad, A = some ad → O ad.block ∧ ad.block < w.heap.size

theorem RefAt.keep {w w' : World} {br p : Nat} {O O' : Nat → Prop} {l : List UInt8} (h : RefAt w br O l p) (hk : Keep O' w w') (hn : ∀ k, O k → ¬ O' k) : RefAt w' br O l p := by
  obtain ⟨h1, h2, A, c, hb, hr, hc, hm, hA⟩ := h
  exact ⟨h1, h2, A, c, hb.keep hk (hn _ h1), hr.keep hk (fun ad e _ => hn _ (hA ad e).1), hc, hm, fun ad e => ⟨(hA ad e).1, Nat.lt_of_lt_of_le (hA ad e).2 hk.size⟩⟩
theorem RefAt.mono {w : World} {br p : Nat} {O O' : Nat → Prop} {l : List UInt8} (h : RefAt w br O l p) (hO : ∀ k, O k → k < w.heap.size → O' k) : RefAt w br O' l p := by
  obtain ⟨h1, h2, A, c, hb, hr, hc, hm, hA⟩ := h
  exact ⟨hO _ h1 hb.lt, h2, A, c, hb, hr, hc, hm, fun ad e => ⟨hO _ (hA ad e).1 (hA ad e).2, (hA ad e).2⟩⟩

/-- The Reel stands at another place; nothing else has turned. -/
theorem RefAt.moved {w w1 : World} {br p : Nat} {O : Nat → Prop} {l : List UInt8} {q : Nat} {Q : Int} (h : RefAt w br O l p) (hk : Keep NoB w w1) (hq : q ≤ l.length) (hQ : Q = q) :
    RefAt (w1.setCell ⟨br, 1, none⟩ (.int .i64 Q)) br O l q ∧ Keep (fun k => k = br) w (w1.setCell ⟨br, 1, none⟩ (.int .i64 Q)) := by
  subst hQ
  obtain ⟨h1, h2, A, c, hb, hr, hc, hm, hA⟩ := h
  have hb1 := hb.keep hk id
  have hk2 : Keep (fun k => k = br) w (w1.setCell ⟨br, 1, none⟩ (.int .i64 q)) := (hk.mono (O' := fun k => k = br) (fun _ hf _ => hf.elim)).setCell (p := ⟨br, 1, none⟩) (fun _ => rfl) _
  refine ⟨⟨h1, hq, A, c, hb1.put 1 _, ?_, hc, hm, fun ad e => ⟨(hA ad e).1, Nat.lt_of_lt_of_le (hA ad e).2 hk2.size⟩⟩, hk2⟩
  intro h0
  obtain ⟨ad, e, hcell⟩ := hr h0
  refine ⟨ad, e, fun j u hu => ?_⟩
  have hcu := hk.cell (hcell j u hu) id
  have hne : (⟨br, 1, none⟩ : Addr) ≠ ad.add j := by
    intro e'
    rw [← e'] at hcu
    have hb2 := hb1.cell 1
    rw [hb2] at hcu
    simp at hcu
    subst hcu
    have := (List.getElem?_eq_some_iff.1 hu)
    obtain ⟨hj, hju⟩ := this
    simp at hju
  exact (World.cell?_setCell_other _ _ _ _ hne).trans hcu

theorem RefAt.cells {w : World} {br p : Nat} {O : Nat → Prop} {l : List UInt8} (h : RefAt w br O l p) : ∃ A c, Blk w br 34 #[.slice A l.length c, .int .i64 p] ∧ Rd w A l ∧ l.length ≤ c ∧ c ≤ maxLen ∧ ∀ ad, A = some ad → O ad.block ∧ ad.block < w.heap.size := h.2.2

/-- The number as it is summed: the first byte without its mark, and the i - 1 bytes behind it. -/
def sm (b : UInt8) (r : List UInt8) (i : Nat) : Nat := (b.toNat - mk (td b.toNat)) * 256 ^ (i - 1) + vl (r.take (i - 1))

theorem sm_one (b : UInt8) (r : List UInt8) : sm b r 1 = b.toNat - mk (td b.toNat) := by simp [sm, vl]
theorem sm_step (b : UInt8) (r : List UInt8) (i : Nat) (h1 : 1 ≤ i) (h : i - 1 < r.length) : sm b r (i + 1) = 256 * sm b r i + r[i - 1].toNat := by
  obtain ⟨k, rfl⟩ : ∃ k, i = k + 1 := ⟨i - 1, by omega⟩
  unfold sm
  simp only [Nat.add_sub_cancel] at h ⊢
  rw [List.take_succ_eq_append_getElem h, vl_snoc, Nat.pow_succ, Nat.mul_add, Nat.mul_comm (vl _) 256, ← Nat.add_assoc]
  congr 2
  ac_rfl
theorem sm_lt (b : UInt8) (r : List UInt8) (i : Nat) (h1 : 1 ≤ i) (h : i ≤ td b.toNat) : sm b r i < 18446744073709551616 := by
  have hb := b.toNat_lt
  obtain ⟨t1, t9, hm, hr, _, _⟩ := td_rng b.toNat (by simpa using hb)
  have hv := vl_lt (r.take (i - 1))
  have hv2 : 256 ^ (r.take (i - 1)).length ≤ 256 ^ (i - 1) := Nat.pow_le_pow_right (by omega) (by rw [List.length_take]; omega)
  have hp : 256 ^ (i - 1) ≤ 256 ^ (td b.toNat - 1) := Nat.pow_le_pow_right (by omega) (by omega)
  have hs : sm b r i < (b.toNat - mk (td b.toNat) + 1) * 256 ^ (i - 1) := by unfold sm; rw [Nat.add_mul]; omega
  have hx : (b.toNat - mk (td b.toNat) + 1) * 256 ^ (i - 1) ≤ 2 ^ (8 - td b.toNat) * 256 ^ (td b.toNat - 1) := Nat.mul_le_mul hr hp
  have hy : ∀ t : Fin 10, 1 ≤ t.1 → 2 ^ (8 - t.1) * 256 ^ (t.1 - 1) ≤ 18446744073709551616 := by decide
  have := hy ⟨td b.toNat, by omega⟩ t1
  dsimp only at this
  omega
theorem sm_dc (b : UInt8) (r : List UInt8) (h : td b.toNat ≤ r.length + 1) : sm b r (td b.toNat) = dc (td b.toNat) ((b :: r).take (td b.toNat)) := by
  have hb := b.toNat_lt
  obtain ⟨t1, t9, hm, hr, _, _⟩ := td_rng b.toNat (by simpa using hb)
  obtain ⟨k, hk⟩ : ∃ k, td b.toNat = k + 1 := ⟨td b.toNat - 1, by omega⟩
  unfold sm dc
  rw [hk] at h hm ⊢
  rw [List.take_succ_cons, vl_cons, Nat.add_sub_cancel, List.length_take, Nat.min_eq_left (by omega), Nat.sub_mul]
  have := Nat.mul_le_mul_right (256 ^ k) hm
  omega

theorem bit_step (b i : Nat) (hb : b < 256) (h1 : 1 ≤ i) (hi : i ≤ td b) :
    (i < td b → 0 < 256 / 2 ^ i ∧ 256 / 2 ^ i ≤ b - mk i ∧ b - mk i - 256 / 2 ^ i = b - mk (i + 1) ∧ 256 / 2 ^ (i + 1) = 256 / 2 ^ i / 2) ∧ (i = td b → 256 / 2 ^ i = 0 ∨ b - mk i < 256 / 2 ^ i) := by
  have : ∀ b : Fin 256, ∀ i : Fin 10, 1 ≤ i.1 → i.1 ≤ td b.1 → (i.1 < td b.1 → 0 < 256 / 2 ^ i.1 ∧ 256 / 2 ^ i.1 ≤ b.1 - mk i.1 ∧ b.1 - mk i.1 - 256 / 2 ^ i.1 = b.1 - mk (i.1 + 1) ∧ 256 / 2 ^ (i.1 + 1) = 256 / 2 ^ i.1 / 2) ∧ (i.1 = td b.1 → 256 / 2 ^ i.1 = 0 ∨ b.1 - mk i.1 < 256 / 2 ^ i.1) := by decide +kernel
  have h9 := (td_rng b hb).2.1
  exact this ⟨b, hb⟩ ⟨i, by omega⟩ h1 hi

end Go.Proofs.YtonpplpfipfnfaaGreatDoor.V

namespace Go.Proofs.YtonpplpfipfnfaaGreatDoor.V
open Go.RowKit

set_option maxRecDepth 100000 in
set_option maxHeartbeats 4000000 in
theorem reflook_any (w : World) (br : Nat) (O : Nat → Prop) (l : List UInt8) (p : Nat) (h : RefAt w br O l p) (hlen : l.length ≤ 140737488355328) (R : Nat × Nat × Nat) (hR : Hid (R = nx (l.drop p))) :
    Calls Tryz.prog 61 #[.pointer (some ⟨br, 0, none⟩)] w fun e w' => e = NxR R ∧ Keep NoB w w' := by
  obtain ⟨_, hp, A, c, hb, hr, hc, hm, hA⟩ := h
  unfold maxLen at hm
  have q0 := hb.cell 0
  have q1 := hb.cell 1
  simp at q0 q1
  by_cases hpl : p < l.length
  · obtain ⟨ad, rfl, hcell⟩ := hr (by omega)
    have hcb := hcell p (bv l[p]) (by simp [hpl])
    rw [drop_cons hpl] at hR
    obtain ⟨b, hbe⟩ : ∃ b, l[p] = b := ⟨_, rfl⟩
    obtain ⟨r, hre⟩ : ∃ r, l.drop (p + 1) = r := ⟨_, rfl⟩
    have hrl : r.length = l.length - (p + 1) := by rw [← hre, List.length_drop]
    have hri : Hid (∀ (i : Nat) (hi : i < r.length), w.cell? (ad.add (p + 1 + i)) = some (bv r[i])) := by
      show ∀ _ _, _
      intro i hi
      have := hcell (p + 1 + i) (bv r[i]) (by
        subst hre
        simp only [bvs, List.getElem?_map, List.getElem_drop]
        rw [List.getElem?_eq_getElem (by omega)]; rfl)
      exact this
    rw [hbe] at hcb hR
    rw [hre] at hR
    have hb8 : b.toNat < 256 := by simpa using b.toNat_lt
    obtain ⟨t1, t9, tm, _⟩ := td_rng b.toNat hb8
    obtain ⟨t, ht⟩ : ∃ t, td b.toNat = t := ⟨_, rfl⟩
    have HB := Lib.hid (fun i => bit_step b.toNat i hb8)
    have HSD := Lib.hid (sm_dc b r)
    have HSL := Lib.hid (sm_lt b r)
    have HSS := Lib.hid (sm_step b r)
    have HS1 := Lib.hid (sm_one b r)
    have HT := Lib.hid ht
    rw [ht] at t1 t9 tm HSD HSL HS1 HB
    have hp0 : (0 : Int) ≤ (p : Int) := by omega
    have hp1 : (p : Int) < (l.length : Int) := by omega
    go_enter Tryz.func61, Tryz.ntmps61
    go_wp2
    go_quiet (fail)
    go_wp2
    go_quiet (fail)
    go_wp2
    go_loop [5, 6, 7] (fun i cc b' => ∃ (j C B : Nat), 1 ≤ j ∧ j ≤ t ∧ Hid (C = b.toNat - mk j ∧ B = 256 / 2 ^ j) ∧ C ≤ 255 ∧ B ≤ 256 ∧ i = .int .i64 (j : Int) ∧ cc = .int .i64 (C : Int) ∧ b' = .int .i64 (B : Int)) (fun i _ _ => t - (intOf i).toNat)
    case atStart => exact ⟨1, b.toNat, 128, by omega, t1, by show _ ∧ _; rw [mk_vals.1]; exact ⟨rfl, rfl⟩, by omega, by omega, rfl, rfl, rfl⟩
    case round =>
      obtain ⟨j, C, B, hj1, hj, hCB, hC, hB, rfl, rfl, rfl⟩ := hrel
      obtain ⟨s1, s2⟩ := HB.out j hj1 hj
      obtain ⟨eC, eB⟩ := hCB.out
      rw [← eC, ← eB] at s1 s2
      by_cases hjt : j < t
      · obtain ⟨s3, s4, s5, s6⟩ := s1 hjt
        have HS : Hid (C - B = b.toNat - mk (j + 1) ∧ B / 2 = 256 / 2 ^ (j + 1)) := ⟨s5, s6.symm⟩
        clear s1 s2 s5 s6 eC eB
        have hgt : (0 : Int) < (B : Int) := by omega
        have hge : (B : Int) ≤ (C : Int) := by omega
        go_wp2
        go_round
        case rel => exact ⟨_, _, _, ⟨j + 1, by omega, by omega, C - B, B / 2, HS, by omega, by omega, rfl, rfl, rfl⟩, by go_num, by go_num, by go_num⟩
        case measure => simp [intOf]; omega
      · obtain rfl : j = t := by omega
        have hex := s2 rfl
        have hS1 : Hid (C = sm b r 1) := by show _ = _; rw [HS1.out]; exact eC
        clear s1 s2 eC eB hCB HS1 HB
        have hw1 : IntKind.i64.wrap ((p : Int) + (j : Int)) = (p : Int) + (j : Int) := IntWalk.i64_in _ (by omega)
        by_cases hsh : r.length + 1 < j
        · have hR' : R = (0, 0, 10) := by
            rw [hR.out, nx_cons, HT.out, if_pos hsh]
          subst hR'
          have hgt : (l.length : Int) < (p : Int) + (j : Int) := by omega
          clear tm
          rcases hex with hex | hex
          · subst hex
            go_wp2
            go_quiet (fail)
            go_wp2
            go_ret3
            exact ⟨rfl, ((Keep.refl _ _).drewN _).drewN _⟩
          · go_wp2
            go_quiet (fail)
            go_wp2
            go_ret3
            exact ⟨rfl, ((Keep.refl _ _).drewN _).drewN _⟩
        · have hng : ¬ (l.length : Int) < (p : Int) + (j : Int) := by omega
          have hcp : ¬ c = p := by omega
          have hD := HSD.out (by omega)
          have HDW := Lib.hid (dc_width b (r.take (j - 1)) j HT.out.symm (by rw [List.length_take]; omega))
          have hRc : Hid (R = if wd (sm b r j) < j then (0, 0, 11) else (sm b r j, j, 0)) := by
            show _ = _
            rw [hR.out, nx_cons, HT.out, if_neg hsh, hD]
          have hbt : (b :: r).take j = b :: r.take (j - 1) := by
            obtain ⟨k, rfl⟩ : ∃ k, j = k + 1 := ⟨j - 1, by omega⟩
            rw [List.take_succ_cons, Nat.add_sub_cancel]
          rw [hbt] at hD
          rw [← hD] at HDW
          have HPT : Hid ((l.drop p).take j = b :: r.take (j - 1)) := by
            show _ = _
            rw [drop_cons hpl, hbe, hre, hbt]
          have hpt2 : ((l.drop p).take j).length = j := by rw [List.length_take, List.length_drop]; omega
          have hparts := Lib.hid (fun (w' : World) (hk : Keep NoB w w') => by
            have hp := (hr.keep hk (fun _ _ _ => id)).part (c := c) (k := p) (m := j) hc
            rw [if_neg hcp] at hp
            have h := conv_rd (c := c - p) hp
            rw [hpt2, HPT.out] at h
            exact h)
          have HQ := Lib.hid (fun (w' : World) (hk : Keep NoB w w') => (⟨hk.cell q0 id, hk.cell q1 id⟩ : w'.cell? ⟨br, 0, none⟩ = some (.slice (some ad) l.length c) ∧ w'.cell? ⟨br, 1, none⟩ = some (.int .i64 (p : Int))))
          have HRI := Lib.hid (fun (w' : World) (hk : Keep NoB w w') (i : Nat) (hi : i < r.length) => hk.cell (hri.out i hi) id)
          clear hbt hD HPT hpt2 hR HSD hcell hr hbe hre hri hcb tm
          rcases hex with hex | hex
          all_goals
            try subst hex
            go_wp2
            go_quiet (fail)
            go_wp2
            go_loopw [8, 9] (fun n i wr => ∃ (k S : Nat), 1 ≤ k ∧ k ≤ j ∧ Hid (S = sm b r k) ∧ S < 18446744073709551616 ∧ n = .int .u64 (S : Int) ∧ i = .int .i64 (k : Int) ∧ Keep NoB w wr) (fun _ i _ => j - (intOf i).toNat)
            case atStart => exact ⟨1, C, Nat.le_refl _, hj1, hS1, by omega, rfl, rfl, (Keep.refl _ _).drewN _⟩
            case round =>
              clear q0 q1
              obtain ⟨k, S, hk1, hkj, hS, hS64, rfl, rfl, hK⟩ := hrel
              by_cases hlt : k < j
              · have hkr : k - 1 < r.length := by omega
                have hnext := HSS.out k hk1 hkr
                have hsm := HSL.out (k + 1) (by omega) (by omega)
                have hcx := HRI.out _ hK (k - 1) hkr
                rw [show p + 1 + (k - 1) = p + k by omega] at hcx
                obtain ⟨d, hd⟩ : ∃ d, r[k - 1] = d := ⟨_, rfl⟩
                rw [hd] at hnext hcx
                rw [hnext, ← hS.out] at hsm
                have hS' : Hid (256 * S + d.toNat = sm b r (k + 1)) := by show _ = _; rw [hnext, hS.out]
                clear hnext hd
                obtain ⟨q0, q1⟩ := HQ.out _ hK
                have hi0 : (0 : Int) ≤ (p : Int) + (k : Int) := by omega
                have hi1 : (p : Int) + (k : Int) < (l.length : Int) := by omega
                have hi2 : ((p : Int) + (k : Int)).toNat = p + k := by omega
                have hwi : IntKind.i64.wrap ((p : Int) + (k : Int)) = (p : Int) + (k : Int) := IntWalk.i64_in _ (by omega)
                have hwm : IntKind.u64.wrap (256 * (S : Int)) = 256 * (S : Int) := by rw [IntKind.wrap_u64]; omega
                have hws : IntKind.u64.wrap (256 * (S : Int) + (d.toNat : Int)) = 256 * (S : Int) + (d.toNat : Int) := by rw [IntKind.wrap_u64]; omega
                go_wp2
                go_quiet (fail)
                go_wp2
                go_roundw
                case rel => exact ⟨k + 1, 256 * S + d.toNat, by omega, by omega, hS', by omega, by go_num, by go_num, hK.drewN _⟩
                case measure => simp [intOf]; omega
              · obtain rfl : k = j := by omega
                obtain ⟨q0, q1⟩ := HQ.out _ hK
                have hRS : Hid (R = if wd S < k then (0, 0, 11) else (S, k, 0)) := by show _ = _; rw [hRc.out, hS.out]
                have HDS := HDW.out
                rw [← hS.out] at HDS
                have hi0 : (0 : Int) ≤ (p : Int) + (k : Int) := by omega
                have hi1 : (p : Int) + (k : Int) ≤ (c : Int) := by omega
                have hi2 : ((p : Int) + (k : Int)).toNat = p + k := by omega
                have hwi : IntKind.i64.wrap ((p : Int) + (k : Int)) = (p : Int) + (k : Int) := IntWalk.i64_in _ (by omega)
                obtain ⟨pt, hpt⟩ : ∃ pt, b :: r.take (k - 1) = pt := ⟨_, rfl⟩
                rw [hpt] at hparts HDS
                clear hpt hRc HDW hS HSS HSL HRI hS1
                have hi3 : (p : Int) ≤ (p : Int) + (k : Int) := by omega
                have hcs : (c : Int) ≤ 9223372036854775807 := by omega
                have hkc : p + k - p = k := by omega
                have HS64 := Lib.hid hS64
                by_cases heq : wd S = k
                · have he : encL S = pt := HDS.2.1 heq
                  have hR' : R = (S, k, 0) := by rw [hRS.out, if_neg (by omega)]
                  subst hR'
                  clear HDS hRS
                  go_wp2
                  go_region_held (fun w' => w'.cell? ⟨br, 0, none⟩ = some (.slice (some ad) l.length c) ∧ w'.cell? ⟨br, 1, none⟩ = some (.int .i64 (p : Int)) ∧ (convert 23 9 (.slice (some (ad.add p)) k (c - p))).run Tryz.prog w' = .ok (.string (str pt)) w')
                    (first | exact ⟨(HQ.out _ hK.drew).1, (HQ.out _ hK.drew).2, hparts.out _ hK.drew⟩ | exact ⟨(HQ.out _ (keepN hK.drew hk2)).1, (HQ.out _ (keepN hK.drew hk2)).2, hparts.out _ (keepN hK.drew hk2)⟩)
                    ((go_at_call 55; refine (refnum_any S _ HS64.out).mono ?_; rintro e w2 ⟨v, rfl, hv2, hk2⟩; obtain ⟨A2, c2, rfl, _, hr2, _⟩ := hv2.form; have hcv2 := conv_rd (c := c2) hr2; rw [he] at hcv2))
                  all_goals go_wp2
                  all_goals go_ret3
                  all_goals exact ⟨rfl, keepN hK.drew hk2⟩
                · have hne : ¬ encL S = pt := fun e => heq (HDS.2.2 e)
                  have hne' : (encL S == pt) = false := by rw [beq_eq_false_iff_ne]; exact hne
                  have hR' : R = (0, 0, 11) := by rw [hRS.out, if_pos (by omega)]
                  subst hR'
                  clear HDS hRS hne
                  go_wp2
                  go_region_held (fun w' => w'.cell? ⟨br, 0, none⟩ = some (.slice (some ad) l.length c) ∧ w'.cell? ⟨br, 1, none⟩ = some (.int .i64 (p : Int)) ∧ (convert 23 9 (.slice (some (ad.add p)) k (c - p))).run Tryz.prog w' = .ok (.string (str pt)) w')
                    (first | exact ⟨(HQ.out _ hK.drew).1, (HQ.out _ hK.drew).2, hparts.out _ hK.drew⟩ | exact ⟨(HQ.out _ (keepN hK.drew hk2)).1, (HQ.out _ (keepN hK.drew hk2)).2, hparts.out _ (keepN hK.drew hk2)⟩)
                    ((go_at_call 55; refine (refnum_any S _ HS64.out).mono ?_; rintro e w2 ⟨v, rfl, hv2, hk2⟩; obtain ⟨A2, c2, rfl, _, hr2, _⟩ := hv2.form; have hcv2 := conv_rd (c := c2) hr2))
                  all_goals go_wp2
                  all_goals go_ret3
                  all_goals exact ⟨rfl, keepN hK.drew hk2⟩
  · have hd : l.drop p = [] := List.drop_eq_nil_of_le (by omega)
    rw [hd] at hR
    have hR' := hR.out
    subst hR'
    go_enter Tryz.func61, Tryz.ntmps61
    go_wp2
    go_quiet (fail)
    go_wp2
    go_ret3
    exact ⟨rfl, (Keep.refl _ _).drewN _⟩

end Go.Proofs.YtonpplpfipfnfaaGreatDoor.V

namespace Go.Proofs.YtonpplpfipfnfaaGreatDoor.V
open Go.RowKit

/-- A reading method's end. -/
def RReads (w : World) (br : Nat) (O : Nat → Prop) (l : List UInt8) (q : Nat) (v : Value) (er : Nat) (e : Ending) (w' : World) : Prop :=
  e = .returned (.tuple #[v, .int .i64 er]) ∧ RefAt w' br O l q ∧ Keep (fun k => k = br) w w'

set_option maxRecDepth 100000 in
set_option maxHeartbeats 2000000 in
theorem refnumber_any (w : World) (br : Nat) (O : Nat → Prop) (l : List UInt8) (p most : Nat) (h : RefAt w br O l p) (hlen : l.length ≤ 140737488355328) :
    Calls Tryz.prog 38 #[.pointer (some ⟨br, 0, none⟩), .int .u64 most] w (RReads w br O l (NumR l p most).2.2 (.int .u64 (NumR l p most).1) (NumR l p most).2.1) := by
  have hx := nx_width (l.drop p)
  have hp := h.2.1
  rw [List.length_drop] at hx
  have HB := Lib.hid (fun R hR => reflook_any w br O l p h hlen R hR)
  unfold NumR bnd
  obtain ⟨⟨n, d, r⟩, hn⟩ : ∃ t, nx (l.drop p) = t := ⟨_, rfl⟩
  rw [hn] at hx ⊢
  have HL := Lib.hid (HB.out (n, d, r) hn.symm)
  clear hn HB
  dsimp only at hx ⊢
  by_cases hr : r = 0
  · subst hr
    rw [if_neg (by simp)]
    by_cases hm : most < n
    · rw [if_pos hm]
      go_enter Tryz.func38, Tryz.ntmps38
      go_wp2_with fail
      refine HL.out.mono ?_
      rintro e w1 ⟨he, hk1⟩
      unfold NxR at he
      subst he
      go_wp2
      go_ret2
      exact ⟨rfl, h.keep hk1 (fun _ _ => id), hk1.mono (fun _ hf _ => hf.elim)⟩
    · rw [if_neg hm]
      go_enter Tryz.func38, Tryz.ntmps38
      go_wp2_with fail
      refine HL.out.mono ?_
      rintro e w1 ⟨he, hk1⟩
      unfold NxR at he
      subst he
      have h1 := h.keep hk1 (fun _ _ => id)
      obtain ⟨A, c, hb1, _⟩ := h1.cells
      have q1 := hb1.cell 1
      have f1 := hb1.frozen 1
      simp at q1
      go_wp2
      go_ret2
      exact ⟨rfl, h.moved hk1 (by omega) (by omega)⟩
  · have hr1 : ((r : Int) != 0) = true := by rw [bne_iff_ne]; omega
    rw [if_pos hr]
    go_enter Tryz.func38, Tryz.ntmps38
    go_wp2_with fail
    refine HL.out.mono ?_
    rintro e w1 ⟨he, hk1⟩
    unfold NxR at he
    subst he
    go_wp2
    go_ret2
    exact ⟨rfl, h.keep hk1 (fun _ _ => id), hk1.mono (fun _ hf _ => hf.elim)⟩

set_option maxRecDepth 100000 in
set_option maxHeartbeats 2000000 in
theorem refsigned_any (w : World) (br : Nat) (O : Nat → Prop) (l : List UInt8) (p : Nat) (lo hi : Int) (h : RefAt w br O l p) (hlen : l.length ≤ 140737488355328) :
    Calls Tryz.prog 91 #[.pointer (some ⟨br, 0, none⟩), .int .i64 lo, .int .i64 hi] w (RReads w br O l (SigR l p lo hi).2.2 (.int .i64 (SigR l p lo hi).1) (SigR l p lo hi).2.1) := by
  have hx := nx_width (l.drop p)
  have hp := h.2.1
  rw [List.length_drop] at hx
  have HB := Lib.hid (fun R hR => reflook_any w br O l p h hlen R hR)
  unfold SigR
  obtain ⟨⟨n, d, r⟩, hn⟩ : ∃ t, nx (l.drop p) = t := ⟨_, rfl⟩
  rw [hn] at hx ⊢
  have HL := Lib.hid (HB.out (n, d, r) hn.symm)
  clear hn HB
  dsimp only at hx ⊢
  by_cases hr : r = 0
  · subst hr
    obtain ⟨hx1, hx2, _, hn64⟩ := hx
    have hz1 := zag_ge n hn64
    have hz2 := zag_le n hn64
    have HZ := Lib.hid (fun w => rzag_any n w hn64)
    clear hn64
    rw [if_neg (by simp)]
    obtain ⟨z, hz⟩ : ∃ z, zag n = z := ⟨_, rfl⟩
    rw [hz] at hz1 hz2 HZ ⊢
    clear hz
    by_cases hlo : z < lo
    · rw [if_pos (.inl hlo)]
      go_enter Tryz.func91, Tryz.ntmps91
      go_wp2_with fail
      refine HL.out.mono ?_
      rintro e w1 ⟨he, hk1⟩
      unfold NxR at he
      subst he
      go_wp2_with fail
      refine (HZ.out _).mono ?_
      rintro e w2 ⟨rfl, rfl⟩
      go_wp2
      go_ret2
      exact ⟨rfl, h.keep hk1 (fun _ _ => id), hk1.mono (fun _ hf _ => hf.elim)⟩
    · by_cases hhi : hi < z
      · rw [if_pos (.inr hhi)]
        go_enter Tryz.func91, Tryz.ntmps91
        go_wp2_with fail
        refine HL.out.mono ?_
        rintro e w1 ⟨he, hk1⟩
        unfold NxR at he
        subst he
        go_wp2_with fail
        refine (HZ.out _).mono ?_
        rintro e w2 ⟨rfl, rfl⟩
        go_wp2
        go_ret2
        exact ⟨rfl, h.keep hk1 (fun _ _ => id), hk1.mono (fun _ hf _ => hf.elim)⟩
      · rw [if_neg (by omega)]
        go_enter Tryz.func91, Tryz.ntmps91
        go_wp2_with fail
        refine HL.out.mono ?_
        rintro e w1 ⟨he, hk1⟩
        unfold NxR at he
        subst he
        have h1 := h.keep hk1 (fun _ _ => id)
        obtain ⟨A, c, hb1, _⟩ := h1.cells
        have q1 := hb1.cell 1
        have f1 := hb1.frozen 1
        simp at q1
        go_wp2_with fail
        refine (HZ.out _).mono ?_
        rintro e w2 ⟨rfl, rfl⟩
        go_wp2
        go_ret2
        exact ⟨rfl, h.moved hk1 (by omega) (by omega)⟩
  · have hr1 : ((r : Int) != 0) = true := by rw [bne_iff_ne]; omega
    rw [if_pos hr]
    go_enter Tryz.func91, Tryz.ntmps91
    go_wp2_with fail
    refine HL.out.mono ?_
    rintro e w1 ⟨he, hk1⟩
    unfold NxR at he
    subst he
    go_wp2
    go_ret2
    exact ⟨rfl, h.keep hk1 (fun _ _ => id), hk1.mono (fun _ hf _ => hf.elim)⟩

/-- Bytes were taken, or there were too few of them. -/
def RTaken (w : World) (br : Nat) (O : Nat → Prop) (l : List UInt8) (p fr : Nat) (S : Int) (e : Ending) (w' : World) : Prop :=
  ((l.length : Int) - fr < S ∧ e = .returned (.tuple #[.slice none 0 0, .int .i64 10]) ∧ RefAt w' br O l p ∧ Keep (fun k => k = br) w w') ∨
  (S ≤ (l.length : Int) - fr ∧ ∃ A c, e = .returned (.tuple #[.slice A S.toNat c, .int .i64 0]) ∧ OwnB w' (Fresh w) (.slice A S.toNat c) ((l.drop fr).take S.toNat) ∧ RefAt w' br O l (fr + S.toNat) ∧ Keep (fun k => k = br) w w')

/-- What Bytes leaves. -/
def RBytesP (w : World) (br : Nat) (O : Nat → Prop) (l : List UInt8) (p : Nat) (b : Nat × Nat × Nat) (e : Ending) (w' : World) : Prop :=
  (b.2.2 ≠ 0 ∧ e = .returned (.tuple #[.slice none 0 0, .int .i64 b.2.2]) ∧ RefAt w' br O l p ∧ Keep (fun k => k = br) w w') ∨ (b.2.2 = 0 ∧ RTaken w br O l p (p + b.2.1) b.1 e w')

theorem refnumber_at (w : World) (br : Nat) (O : Nat → Prop) (l : List UInt8) (p most : Nat) (N : Int) (n r q : Nat) (h : RefAt w br O l p) (hlen : l.length ≤ 140737488355328) (hN : N = most) (hs : NumR l p most = (n, r, q)) :
    Calls Tryz.prog 38 #[.pointer (some ⟨br, 0, none⟩), .int .u64 N] w (RReads w br O l q (.int .u64 (n : Int)) r) := by
  subst hN
  have := refnumber_any w br O l p most h hlen
  rw [hs] at this
  exact this

end Go.Proofs.YtonpplpfipfnfaaGreatDoor.V

namespace Go.Proofs.YtonpplpfipfnfaaGreatDoor.O
open Go.RowKit

theorem ref_lt {w : World} {br p : Nat} {O : Nat → Prop} {l : List UInt8} (h : V.RefAt w br O l p) : br < w.heap.size := by
  obtain ⟨A, c, hb, _⟩ := h.cells
  exact hb.lt
theorem ref3 {w : World} {br B p : Nat} {O : Nat → Prop} {l : List UInt8} (h : V.RefAt w br O l p) (hB : ¬ O B) (u0 u1 u2 : Value) : V.RefAt (((w.setCell ⟨B, 0, none⟩ u0).setCell ⟨B, 1, none⟩ u1).setCell ⟨B, 2, none⟩ u2) br O l p := by
  have hs : ∀ (w : World) i u, V.RefAt w br O l p → V.RefAt (w.setCell ⟨B, i, none⟩ u) br O l p := fun w i u h =>
    h.keep (O' := fun k => k = B) (Keep.setCell (O := fun k => k = B) (p := ⟨B, i, none⟩) (Keep.refl _ w) (fun _ => rfl) u) (fun k ho e => hB (e ▸ ho))
  exact hs _ 2 u2 (hs _ 1 u1 (hs _ 0 u0 h))

set_option maxHeartbeats 2000000 in
theorem rone_any (k : Int) (w : World) (br : Nat) (O : Nat → Prop) (l : List UInt8) (p : Nat) (hk : 0 ≤ k ∧ k ≤ 10) (h : V.RefAt w br O l p) (hlen : l.length ≤ 140737488355328) :
    Calls Tryz.prog 63 #[.pointer (some ⟨br, 0, none⟩), .int .i64 k] w (V.RReads w br O l (decP k l p).2.2 (.int .i64 (decP k l p).1) (decP k l p).2.1) := by
  by_cases h0 : k = 0
  · subst h0
    have HX : Hid (decP 0 l p = (0, 0, p)) := rfl
    go_enter Tryz.func63, Tryz.ntmps63
    go_wp2
    go_ret2
    rw [HX.out]
    exact ⟨rfl, h, Keep.refl _ _⟩
  · have q0 : (k == 0) = false := by rw [beq_eq_false_iff_ne]; exact h0
    by_cases h1k : k = 1
    · subst h1k
      have HS := Lib.hid (V.refsigned_any _ br O l p (-9223372036854775808) 9223372036854775807 h hlen)
      have HX : Hid (decP 1 l p = V.SigR l p (-9223372036854775808) 9223372036854775807) := rfl
      rw [HX.out]
      generalize V.SigR l p (-9223372036854775808) 9223372036854775807 = x at HS ⊢
      clear HX h
      go_enter Tryz.func63, Tryz.ntmps63
      go_wp2_with fail
      refine HS.out.mono ?_
      rintro e w1 ⟨rfl, h2, k2⟩
      go_wp2
      go_ret2
      exact ⟨rfl, h2, k2⟩
    · have q1 : (k == 1) = false := by rw [beq_eq_false_iff_ne]; exact h1k
      obtain ⟨M, hM, hM5⟩ := hi_nat h1k
      have hw : IntKind.u64.wrap (M : Int) = (M : Int) := by simp [IntKind.wrap, IntKind.bits, IntKind.signed]; omega
      have HM := Lib.hid (fun w => rmost_any k w hk.1 hk.2 h1k)
      have HL := Lib.hid (fun w => rleast_any k w hk.1 hk.2 h1k)
      have HS := Lib.hid (fun w h => V.refnumber_any w br O l p M h hlen)
      obtain ⟨n, r, q, hN, hN0, hN1⟩ := num_case l p M
      have HX : Hid (decP k l p = if r ≠ 0 then (0, r, q) else if inK k n = true then ((n : Int), 0, q) else (0, 40, q)) := by
        show _ = _
        unfold decP
        rw [if_neg h0, if_neg h1k, show (hi k).toNat = M by omega, hN]
      rw [hN] at HS
      rw [hM] at HM
      by_cases hr : r = 0
      · subst hr
        obtain ⟨hn1, hn2⟩ := hN0 rfl
        have hwn : IntKind.i64.wrap (n : Int) = (n : Int) := by simp [IntKind.wrap, IntKind.bits, IntKind.signed]; omega
        have hiff : inK k (n : Int) = decide (lo k ≤ (n : Int)) := by
          unfold inK
          rw [decide_eq_decide, hM]
          omega
        rw [hiff] at HX
        clear hN0 hN1 hiff hN hM hk h0 h1k
        generalize lo k = L at HL HX
        by_cases hL : (n : Int) < L
        · have HX2 : Hid (decP k l p = (0, 40, q)) := by show _ = _; rw [HX.out, if_neg (by simp), if_neg (by simp; omega)]
          clear HX
          go_enter Tryz.func63, Tryz.ntmps63
          go_wp2_with fail
          refine (HM.out _).mono ?_
          rintro e w1 ⟨rfl, k1⟩
          go_wp2_with fail
          refine (HS.out _ (h.keep k1 (fun _ _ => id))).mono ?_
          rintro e w2 ⟨rfl, h2, k2⟩
          go_wp2_with fail
          refine (HL.out _).mono ?_
          rintro e w3 ⟨rfl, rfl⟩
          go_wp2
          go_ret2
          rw [HX2.out]
          exact ⟨rfl, h2, keepBr k1 k2⟩
        · have HX2 : Hid (decP k l p = ((n : Int), 0, q)) := by show _ = _; rw [HX.out, if_neg (by simp), if_pos (by simp; omega)]
          have hL' : decide ((n : Int) < L) = false := by simpa using hL
          clear HX hL
          go_enter Tryz.func63, Tryz.ntmps63
          go_wp2_with fail
          refine (HM.out _).mono ?_
          rintro e w1 ⟨rfl, k1⟩
          go_wp2_with fail
          refine (HS.out _ (h.keep k1 (fun _ _ => id))).mono ?_
          rintro e w2 ⟨rfl, h2, k2⟩
          go_wp2_with fail
          refine (HL.out _).mono ?_
          rintro e w3 ⟨rfl, rfl⟩
          go_wp2
          go_ret2
          rw [HX2.out]
          exact ⟨rfl, h2, keepBr k1 k2⟩
      · have hr1 : ((r : Int) != 0) = true := by rw [bne_iff_ne]; omega
        have HX2 : Hid (decP k l p = (0, r, q)) := by show _ = _; rw [HX.out, if_pos hr]
        clear HX hN0 hN1 hr hN hM hk h0 h1k HL
        go_enter Tryz.func63, Tryz.ntmps63
        go_wp2_with fail
        refine (HM.out _).mono ?_
        rintro e w1 ⟨rfl, k1⟩
        go_wp2_with fail
        refine (HS.out _ (h.keep k1 (fun _ _ => id))).mono ?_
        rintro e w2 ⟨rfl, h2, k2⟩
        go_wp2
        go_ret2
        rw [HX2.out]
        exact ⟨rfl, h2, keepBr k1 k2⟩

/-- What the document's Decode leaves. -/
def RDecR (w : World) (br : Nat) (O : Nat → Prop) (l : List UInt8) (d : Dec) (e : Ending) (w' : World) : Prop :=
  e = .returned (.tuple #[instV d.op d.a d.b, .int .i64 d.er]) ∧ V.RefAt w' br O l d.pl ∧ Keep (fun k => k = br) w w'
theorem rone_at (k : Int) (w : World) (br : Nat) (O : Nat → Prop) (l : List UInt8) (p : Nat) (a : Int) (r q : Nat) (hd : decP k l p = (a, r, q)) (hk : 0 ≤ k ∧ k ≤ 10) (h : V.RefAt w br O l p) (hlen : l.length ≤ 140737488355328) :
    Calls Tryz.prog 63 #[.pointer (some ⟨br, 0, none⟩), .int .i64 k] w (V.RReads w br O l q (.int .i64 a) r) := by
  have := rone_any k w br O l p hk h hlen
  rw [hd] at this
  exact this

set_option maxHeartbeats 2000000 in
theorem rdecode_any (w : World) (br : Nat) (O : Nat → Prop) (l : List UInt8) (p : Nat) (hO : ∀ k, O k → k < w.heap.size) (h : V.RefAt w br O l p) (hlen : l.length ≤ 140737488355328) :
    Calls Tryz.prog 39 #[.pointer (some ⟨br, 0, none⟩)] w (RDecR w br O l (decI l p)) := by
  have hK := (Keep.refl NoB w).alloc (.cells #[.int .i64 0, .int .i64 0, .int .i64 0] 46)
  have h1 := h.keep hK (fun _ _ => id)
  have hb0 := Blk.new w 46 #[.int .i64 0, .int .i64 0, .int .i64 0]
  have hnB : ¬ O w.heap.size := fun ho => by have := hO _ ho; omega
  have hbr := ref_lt h
  have HS := Lib.hid (V.refnumber_any _ br O l p 29 h1 hlen)
  obtain ⟨n, r, q, hN, hN0, hN1⟩ := num_case l p 29
  rw [hN] at HS
  clear h h1 hO
  by_cases hr : r = 0
  · subst hr
    obtain ⟨hn1, hn2⟩ := hN0 rfl
    have hwn : IntKind.i64.wrap (n : Int) = (n : Int) := by simp [IntKind.wrap, IntKind.bits, IntKind.signed]; omega
    have hkk := kinds_ok (n : Int)
    have HKn := Lib.hid (fun w => rkinds_any (n : Int) w)
    obtain ⟨a, r1, q1, hA⟩ := dec_case (rowAt n).ka l q
    have HRA := Lib.hid (fun w h => rone_at (rowAt n).ka w br O l q a r1 q1 hA ⟨hkk.1, hkk.2.1⟩ h hlen)
    have HDB := Lib.hid (fun p => dec_case (rowAt n).kb l p)
    have HRB := Lib.hid (fun p b r2 q2 hB w h => rone_at (rowAt n).kb w br O l p b r2 q2 hB ⟨hkk.2.2.1, hkk.2.2.2⟩ h hlen)
    have HD2 := Lib.hid (fun hr => decI_2 (l := l) (p := p) hN hA hr)
    have HD3 := Lib.hid (fun (hr : r1 = 0) b r2 q2 hB hr2 => decI_3 (l := l) (p := p) (b := b) (r2 := r2) (q2 := q2) hN (by rw [hA, hr]) hB hr2)
    have HD4 := Lib.hid (fun (hr : r1 = 0) b q2 hB => decI_4 (l := l) (p := p) (b := b) (q2 := q2) hN (by rw [hA, hr]) hB)
    clear hN0 hN1 hkk hA hN
    generalize (rowAt (n : Int)).ka = ka at *
    generalize (rowAt (n : Int)).kb = kb at *
    go_enter Tryz.func39, Tryz.ntmps39
    go_wp2_with fail
    refine HS.out.mono ?_
    rintro e w1 ⟨rfl, h2, k2⟩
    replace hb0 := hb0.keep k2 (fun e => by omega)
    replace hK := keepBr hK k2
    clear k2
    go_wp2_with fail
    refine (HKn.out _).mono ?_
    rintro e w2 ⟨rfl, rfl⟩
    go_wp2_with fail
    refine (HRA.out _ h2).mono ?_
    rintro e w4 ⟨rfl, h3, k2⟩
    replace hb0 := hb0.keep k2 (fun e => by omega)
    replace hK := hK.trans k2 (fun _ ho _ => ho)
    clear k2 h2
    by_cases hr1 : r1 = 0
    · subst hr1
      obtain ⟨b, r2, q2, hB⟩ := HDB.out q1
      have HRB2 := Lib.hid (HRB.out q1 b r2 q2 hB)
      go_wp2_with fail
      refine (HRB2.out _ h3).mono ?_
      rintro e w6 ⟨rfl, h4, k2⟩
      replace hb0 := hb0.keep k2 (fun e => by omega)
      replace hK := hK.trans k2 (fun _ ho _ => ho)
      clear k2 h3 HRB2 HRB
      have hz := hb0.lt
      have f0 := fun i => hb0.frozen i
      by_cases hr2 : r2 = 0
      · subst hr2
        have HX := Lib.hid (HD4.out (by first | rfl | trivial) b q2 hB)
        clear HD2 HD3 HD4 hB
        obtain ⟨x0, x1, x2⟩ := blk_inst hb0
        go_wp2
        refine bodyPost_ret (v := .tuple #[instV n a b, .int .i64 0]) (by simp [results, Tryz.results39, go_sem, x0, x1, x2]) rfl ?_
        rw [HX.out]
        exact ⟨rfl, ref3 h4 hnB _ _ _, out3 hK (Nat.le_refl _) _ _ _⟩
      · have HX := Lib.hid (HD3.out (by first | rfl | trivial) b r2 q2 hB hr2)
        have hr3 : ((r2 : Int) != 0) = true := by rw [bne_iff_ne]; omega
        clear HD2 HD3 HD4 hB hr2
        obtain ⟨x0, x1, x2⟩ := blk_inst hb0
        go_wp2
        refine bodyPost_ret (v := .tuple #[instV 0 0 0, .int .i64 r2]) (by simp [results, Tryz.results39, go_sem, x0, x1, x2]) rfl ?_
        rw [HX.out]
        exact ⟨rfl, ref3 h4 hnB _ _ _, out3 hK (Nat.le_refl _) _ _ _⟩
    · have HX := Lib.hid (HD2.out hr1)
      have hr3 : ((r1 : Int) != 0) = true := by rw [bne_iff_ne]; omega
      clear HD2 HD3 HD4 hr1 HRB HDB HRA
      have hz := hb0.lt
      have f0 := fun i => hb0.frozen i
      obtain ⟨x0, x1, x2⟩ := blk_inst hb0
      go_wp2
      refine bodyPost_ret (v := .tuple #[instV 0 0 0, .int .i64 r1]) (by simp [results, Tryz.results39, go_sem, x0, x1, x2]) rfl ?_
      rw [HX.out]
      exact ⟨rfl, ref3 h3 hnB _ _ _, out3 hK (Nat.le_refl _) _ _ _⟩
  · have HX := Lib.hid (decI_1 hN hr)
    have hr3 : ((r : Int) != 0) = true := by rw [bne_iff_ne]; omega
    clear hN0 hN1 hN hr
    go_enter Tryz.func39, Tryz.ntmps39
    go_wp2_with fail
    refine HS.out.mono ?_
    rintro e w1 ⟨rfl, h2, k2⟩
    replace hb0 := hb0.keep k2 (fun e => by omega)
    replace hK := keepBr hK k2
    clear k2
    have hz := hb0.lt
    have f0 := fun i => hb0.frozen i
    obtain ⟨x0, x1, x2⟩ := blk_inst hb0
    go_wp2
    refine bodyPost_ret (v := .tuple #[instV 0 0 0, .int .i64 r]) (by simp [results, Tryz.results39, go_sem, x0, x1, x2]) rfl ?_
    rw [HX.out]
    exact ⟨rfl, ref3 h2 hnB _ _ _, out3 hK (Nat.le_refl _) _ _ _⟩

end Go.Proofs.YtonpplpfipfnfaaGreatDoor.O
