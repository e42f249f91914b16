/-
  A Reel's next: what comes next, its width, the error; the place stays. Conditions: no more than 2^47 bytes.
  The Reel: On, bounded, take, Number, Signed, Bytes, Raw, At, End over a Reel in memory. Conditions: no more than 2^47 bytes.
  The Reel's methods: Number, Signed, Bytes, Raw, At, End over a Reel in memory. Conditions: no more than 2^47 bytes.
  The Reel's take, Bytes, Raw over a Reel in memory. Conditions: no more than 2^47 bytes.
  The document's own Reel: look: what comes next, as vary's next tells it. Conditions: no more than 2^47 bytes.
  The document's own Reel: look: what comes next, as vary's next tells it. Conditions: no more than 2^47 bytes.
  The document's own Reel: Number, Signed, Raw, Bytes, End: as vary's. Conditions: no more than 2^47 bytes.
  Reading a number off bytes, and what the walks of shape share. No program, no conditions.
  The plain mathematics of shapes and signatures: which may be, their bytes, four types to one, and what is read of bytes. No program, no conditions.
  The document's own lists of names, what is found in them, and what stands in them. No conditions but bounds.
  The document's lists of names; AluCalled's walk. Conditions: what the project's names answer (NmC, OfC), in worlds of a class that making memory keeps.
  The plain mathematics of layer opcode: the rows of instructions, the ranges of operands, which instructions may be, what an operand and an instruction are as text and as bytes. No program, no conditions.
  The array of rows, and the row of a number, as the project hands them out. No conditions.
  A region that draws its order, whose operations read, and whose calls may make memory but leave all that lay as it lay: one walk in the order of the text serves every order. No program, no conditions.
  A region that draws its order, whose operations read, call what may make memory, and make memory themselves, none of them writing what lay: one walk, in an order of one's own choice, serves every order. What was made is known by its block alone. No program, no conditions.
-/
import Derived.BigQuiet
import Derived.Deep.RegionWith
import Derived.Deep.WholeRow
import Derived.Lib.Hide
import Derived.WalkLawsBesides
import Derived.Test.YtgifflfjhockaaaGreatDoorQ2
import Derived.Test.YtgifflfjhockaaaGreatDoorQ1
namespace Go.Proofs.YtgifflfjhockaaaGreatDoor.V
open Go.RowKit

/-- A Reel at block br that has the bytes l and the place p; all its blocks are of O. -/
def ReelAt (w : World) (br : Nat) (O : Nat → Prop) (l : List UInt8) (p : Nat) : Prop :=
  O br ∧ p ≤ l.length ∧ ∃ A c, Blk w br 210 #[.slice A l.length c, .int .i64 p] ∧ Rd w A l ∧ l.length ≤ c ∧ c ≤ maxLen ∧ ∀ ad, A = some ad → O ad.block ∧ ad.block < w.heap.size

theorem ReelAt.keep {w w' : World} {br p : Nat} {O O' : Nat → Prop} {l : List UInt8} (h : ReelAt w br O l p) (hk : Keep O' w w') (hn : ∀ k, O k → ¬ O' k) : ReelAt w' br O l p := by
  obtain ⟨h1, h2, A, c, hb, hr, hc, hm, hA⟩ := h
  exact ⟨h1, h2, A, c, hb.keep hk (hn _ h1), hr.keep hk (fun ad e _ => hn _ (hA ad e).1), hc, hm, fun ad e => ⟨(hA ad e).1, Nat.lt_of_lt_of_le (hA ad e).2 hk.size⟩⟩
theorem ReelAt.mono {w : World} {br p : Nat} {O O' : Nat → Prop} {l : List UInt8} (h : ReelAt w br O l p) (hO : ∀ k, O k → k < w.heap.size → O' k) : ReelAt w br O' l p := by
  obtain ⟨h1, h2, A, c, hb, hr, hc, hm, hA⟩ := h
  exact ⟨hO _ h1 hb.lt, h2, A, c, hb, hr, hc, hm, fun ad e => ⟨hO _ (hA ad e).1 (hA ad e).2, (hA ad e).2⟩⟩

/-- What next hands back. -/
def NxR (r : Nat × Nat × Nat) : Ending := .returned (.tuple #[.int .u64 r.1, .int .i64 r.2.1, .int .i64 r.2.2])

theorem drop_cons {l : List UInt8} {p : Nat} (h : p < l.length) : l.drop p = l[p] :: l.drop (p + 1) := List.drop_eq_getElem_cons h

set_option maxRecDepth 100000 in
set_option maxHeartbeats 1000000 in
theorem next_any (w : World) (br : Nat) (O : Nat → Prop) (l : List UInt8) (p : Nat) (h : ReelAt w br O l p) (hlen : l.length ≤ 140737488355328) :
    Calls Tryz.prog 201 #[.pointer (some ⟨br, 0, none⟩)] w fun e w' => e = NxR (nx (l.drop p)) ∧ Keep NoB w w' := by
  obtain ⟨_, hp, A, c, hb, hr, hc, hm, hA⟩ := h
  unfold maxLen at hm
  have hlt := hb.lt
  have q0 := hb.cell 0
  have q1 := hb.cell 1
  simp at q0 q1
  have hA1 : ∀ ad, A = some ad → ad.block ≠ w.heap.size := fun ad e => by have := (hA ad e).2; omega
  have hA2 : ∀ ad, A = some ad → ad.block ≠ w.heap.size + 1 := fun ad e => by have := (hA ad e).2; omega
  have hk0 : Keep NoB w ((w.alloc (.cells #[.int .u64 0] 295)).alloc (.cells #[.int .u64 0] 295)) := ((Keep.refl NoB w).alloc _).alloc _
  have hb0 := hb.keep hk0 id
  have hr0 := hr.keep hk0 (fun _ _ _ => id)
  have hs0 := (Blk.new w 295 #[.int .u64 0]).alloc (.cells #[.int .u64 0] 295)
  have hs1 := Blk.new (w.alloc (.cells #[.int .u64 0] 295)) 295 #[.int .u64 0]
  rw [World.size_alloc] at hs1
  go_enter Tryz.func201, Tryz.ntmps201
  go_wp2_with fail
  refine (look_add _ br w.heap.size 0 p p 1 A l c hb0 hr0 hc hA1 hs0 hlen hm hp (by omega) (by omega)).mono ?_
  rintro e w1 (⟨hsh, rfl, hk1⟩ | ⟨hle, rfl, hsum1, hk1⟩)
  · have hd : l.drop p = [] := List.drop_eq_nil_of_le (by omega)
    go_wp2
    go_ret3
    exact ⟨by rw [hd]; rfl, hk0.trans hk1 (fun _ hf _ => hf.elim)⟩
  · have hpl : p < l.length := by omega
    obtain ⟨b, hbd⟩ : ∃ b, b = l[p] := ⟨_, rfl⟩
    have hdc := drop_cons hpl
    rw [← hbd] at hdc
    have hb256 := b.toNat_lt
    have hsb : Blk w1 w.heap.size 295 #[.int .u64 (b.toNat : Nat)] := by
      have e : acc 0 (List.take (Int.toNat 1) (l.drop p)) = b.toNat := by rw [hdc]; simp [acc]
      rw [e] at hsum1; exact hsum1
    have hne : ¬ br = w.heap.size := by omega
    have hb1 := hb0.keep hk1 hne
    have hr1 := hr0.keep hk1 (fun ad e _ => hA1 ad e)
    have hs2 := hs1.keep hk1 (by omega)
    have hk01 := hk0.trans hk1 (fun k e hk => by omega)
    obtain ⟨m, hm'⟩ : ∃ m, w.heap.size = m := ⟨_, rfl⟩
    rw [hm'] at hsb hs2 hA2 ⊢
    have hmw : w.heap.size ≤ m := by omega
    clear hsum1 hk1 hb0 hr0 hs0 hs1 hk0 hA1 hb hr hA q0 q1 hbd hm'
    have q0 := hb1.cell 0
    have q1 := hb1.cell 1
    have q2 := hsb.cell 0
    simp at q0 q1 q2
    go_wp2_with fail
    refine (told_any b.toNat _ (by omega)).mono ?_
    rintro e w2 ⟨rfl, rfl⟩
    obtain ⟨t1, t9, _⟩ := td_rng b.toNat (by omega)
    go_wp2_with fail
    refine (look_add _ br (m + 1) 0 p p (td b.toNat) A l c hb1 hr1 hc hA2 hs2 hlen hm hp (by omega) (by omega)).mono ?_
    rintro e w2 (⟨hsh, rfl, hk2⟩ | ⟨hle2, rfl, hsum2, hk2⟩)
    · go_wp2
      go_ret3
      refine ⟨?_, (hk01.trans hk2 (fun _ hf _ => hf.elim))⟩
      have hx : nx (l.drop p) = (0, 0, 10) := by
        rw [hdc, nx_cons, if_pos (by rw [List.length_drop]; omega)]
      rw [hx]; rfl
    · have q3 := hsum2.cell 0
      simp at q3
      have hkk := hk01.trans hk2 (O := NoB) (fun k e hk => by omega)
      go_wp2_with fail
      have hmk := mk_lt (td b.toNat)
      have hq := fun (n : Nat) => Calls.quiet_of_same ((mark_any (td b.toNat) (w2.drewN n) t1 t9).mono fun e w' h => (⟨h.1, h.2.symm⟩ : e = .returned (.int .u8 (mk (td b.toNat))) ∧ w' = w2.drewN n))
      obtain ⟨t, ht⟩ : ∃ t, td b.toNat = t := ⟨_, rfl⟩
      rw [ht] at t1 t9 hmk hq hsum2 q3 hle2 ⊢
      have HT := Lib.hid ht
      clear ht
      have htl : t ≤ (l.drop (p + 1)).length + 1 := by rw [List.length_drop]; omega
      have HF := Lib.hid (nx_form b (l.drop (p + 1)) t HT.out htl)
      have e1 : IntKind.i64.wrap ((t : Int) - 1) = (t : Int) - 1 := IntWalk.i64_in _ (by omega)
      have e2 : IntKind.i64.wrap (8 * ((t : Int) - 1)) = 8 * ((t : Int) - 1) := IntWalk.i64_in _ (by omega)
      have e3 : (0 : Int) ≤ 8 * ((t : Int) - 1) := by omega
      have e4 : (8 * ((t : Int) - 1)).toNat = 8 * (t - 1) := by omega
      have e5 : IntKind.u64.wrap ((mk t : Nat) : Int) = ((mk t : Nat) : Int) := by rw [IntKind.wrap_u64]; omega
      go_quiet ((go_at_call 155; exact hq _))
      clear e1 e2 e3 e4 e5 hq
      rw [HF.out]
      generalize hD : dc t ((b :: l.drop (p + 1)).take t) = D at *
      have HD := Lib.hid hD
      clear hD
      have hnx : Hid (nx (l.drop p) = if wd D < t then (0, 0, 11) else (D, t, 0)) := by
        show nx (l.drop p) = _
        rw [hdc, nx_cons, HT.out, HD.out, if_neg (by omega)]
      go_wp2_with fail
      refine (width_any D _).mono ?_
      rintro e w3 ⟨rfl, rfl⟩
      by_cases hwd : wd D < t
      · go_wp2
        go_ret3
        exact ⟨by rw [hnx.out, if_pos hwd]; rfl, hkk.drewN _⟩
      · go_wp2
        go_ret3
        exact ⟨by rw [hnx.out, if_neg hwd]; rfl, hkk.drewN _⟩

end Go.Proofs.YtgifflfjhockaaaGreatDoor.V

namespace Go.Proofs.YtgifflfjhockaaaGreatDoor.V
open Go.RowKit

/-- The number that comes next, if it is at most so great. -/
def bnd (r : Nat × Nat × Nat) (most : Nat) : Nat × Nat × Nat := if r.2.2 ≠ 0 then (0, 0, r.2.2) else if most < r.1 then (0, 0, 12) else r

theorem nx_width (l : List UInt8) : (nx l).2.1 ≤ l.length ∧ (nx l).2.1 ≤ 9 ∧ (nx l).2.2 ≤ 11 ∧ (nx l).1 < 18446744073709551616 := by
  rcases l with _ | ⟨b, r⟩
  · simp [nx]
  · rw [nx_cons]
    have hb := b.toNat_lt
    have h9 := (td_rng b.toNat (by simpa using hb))
    split
    · simp
    · rename_i hl
      split
      · simp
      · obtain ⟨k, hk⟩ : ∃ k, td b.toNat = k + 1 := ⟨td b.toNat - 1, by omega⟩
        have h2 := (vl_split b (r.take k) (td b.toNat) rfl (by simp; omega)).2.1
        rw [hk] at h2 hl h9 ⊢
        rw [List.take_succ_cons]
        simp only [List.length_cons]
        exact ⟨by omega, by omega, by omega, h2⟩
theorem bnd_width (l : List UInt8) (most : Nat) : (bnd (nx l) most).2.1 ≤ l.length ∧ (bnd (nx l) most).2.1 ≤ 9 ∧ (bnd (nx l) most).1 < 18446744073709551616 ∧ (bnd (nx l) most).2.2 ≤ 12 := by
  have h := nx_width l
  unfold bnd
  split
  · simp; omega
  · split
    · simp
    · omega

set_option maxHeartbeats 400000 in
theorem on_any (w : World) (A : Option Addr) (l : List UInt8) (c : Nat) (hr : Rd w A l) (hb : l.length ≤ 140737488355328) :
    Calls Tryz.prog 84 #[.slice A l.length c] w fun e w' => ∃ br, e = .returned (.pointer (some ⟨br, 0, none⟩)) ∧ ReelAt w' br (Fresh w) l 0 ∧ Keep NoB w w' := by
  go_enter Tryz.func84, Tryz.ntmps84
  go_wp2_with (go_at_call 110; refine (clone_any w A l c hr hb).mono ?_; rintro e w1 ⟨v, rfl, hv1, hk1⟩; obtain ⟨A1, c1, rfl, hc1, hr1, hA1, hm1⟩ := hv1.form)
  go_ret
  refine ⟨w1.heap.size, rfl, ⟨hk1.size, Nat.zero_le _, A1, c1, Blk.new _ _ _, ?_, hc1, hm1, fun ad e => ?_⟩, hk1.alloc _⟩
  · exact hr1.keep ((Keep.refl NoB w1).alloc _) (fun _ _ _ => id)
  · refine ⟨(hA1 ad e).1, ?_⟩
    have := (hv1.1.lt ad.block (by rw [e]; rfl)).2
    simp; omega

set_option maxRecDepth 100000 in
set_option maxHeartbeats 1000000 in
theorem bounded_any (w : World) (br : Nat) (O : Nat → Prop) (l : List UInt8) (p most : Nat) (h : ReelAt w br O l p) (hlen : l.length ≤ 140737488355328) :
    Calls Tryz.prog 186 #[.pointer (some ⟨br, 0, none⟩), .int .u64 most] w fun e w' => e = NxR (bnd (nx (l.drop p)) most) ∧ Keep NoB w w' := by
  have hx := nx_width (l.drop p)
  go_enter Tryz.func186, Tryz.ntmps186
  go_wp2_with fail
  refine (next_any w br O l p h hlen).mono ?_
  rintro e w1 ⟨he, hk1⟩
  obtain ⟨⟨n, d, r⟩, hn⟩ : ∃ t, nx (l.drop p) = t := ⟨_, rfl⟩
  rw [hn] at he hx
  have HN := Lib.hid hn
  clear hn
  unfold NxR at he
  subst he
  by_cases hr : r = 0
  · have hr1 : ((r : Int) != 0) = false := by rw [bne_eq_false_iff_eq]; omega
    by_cases hm : most < n
    · go_wp2
      go_ret3
      exact ⟨by rw [HN.out]; unfold bnd NxR; simp [hr, hm], hk1⟩
    · go_wp2
      go_ret3
      exact ⟨by rw [HN.out]; unfold bnd NxR; simp [hr, hm], hk1⟩
  · have hr1 : ((r : Int) != 0) = true := by rw [bne_iff_ne]; omega
    go_wp2
    go_ret3
    exact ⟨by rw [HN.out]; unfold bnd NxR; simp [hr], hk1⟩

end Go.Proofs.YtgifflfjhockaaaGreatDoor.V

namespace Go.Proofs.YtgifflfjhockaaaGreatDoor.V
open Go.RowKit

/-- The Reel stands at another place; nothing else has turned. -/
theorem ReelAt.moved {w w1 : World} {br p : Nat} {O : Nat → Prop} {l : List UInt8} {q : Nat} {Q : Int} (h : ReelAt w br O l p) (hk : Keep NoB w w1) (hq : q ≤ l.length) (hQ : Q = q) :
    ReelAt (w1.setCell ⟨br, 1, none⟩ (.int .i64 Q)) br O l q ∧ Keep (fun k => k = br) w (w1.setCell ⟨br, 1, none⟩ (.int .i64 Q)) := by
  subst hQ
  obtain ⟨h1, h2, A, c, hb, hr, hc, hm, hA⟩ := h
  have hb1 := hb.keep hk id
  have hk2 : Keep (fun k => k = br) w (w1.setCell ⟨br, 1, none⟩ (.int .i64 q)) := (hk.mono (O' := fun k => k = br) (fun _ hf _ => hf.elim)).setCell (p := ⟨br, 1, none⟩) (fun _ => rfl) _
  refine ⟨⟨h1, hq, A, c, hb1.put 1 _, ?_, hc, hm, fun ad e => ⟨(hA ad e).1, Nat.lt_of_lt_of_le (hA ad e).2 hk2.size⟩⟩, hk2⟩
  intro h0
  obtain ⟨ad, e, hcell⟩ := hr h0
  refine ⟨ad, e, fun j u hu => ?_⟩
  have hcu := hk.cell (hcell j u hu) id
  have hne : (⟨br, 1, none⟩ : Addr) ≠ ad.add j := by
    intro e'
    rw [← e'] at hcu
    have hb2 := hb1.cell 1
    rw [hb2] at hcu
    simp at hcu
    subst hcu
    have := (List.getElem?_eq_some_iff.1 hu)
    obtain ⟨hj, hju⟩ := this
    simp at hju
  exact (World.cell?_setCell_other _ _ _ _ hne).trans hcu

/-- What Number answers, and the place behind it. -/
def NumR (l : List UInt8) (p most : Nat) : Nat × Nat × Nat := ((bnd (nx (l.drop p)) most).1, (bnd (nx (l.drop p)) most).2.2, p + (bnd (nx (l.drop p)) most).2.1)

/-- A reading method's end. -/
def Reads (w : World) (br : Nat) (O : Nat → Prop) (l : List UInt8) (q : Nat) (v : Value) (er : Nat) (e : Ending) (w' : World) : Prop :=
  e = .returned (.tuple #[v, .int .i64 er]) ∧ ReelAt w' br O l q ∧ Keep (fun k => k = br) w w'

theorem bnd_zero (l : List UInt8) (most : Nat) (h : (bnd (nx l) most).2.2 ≠ 0) : (bnd (nx l) most).1 = 0 ∧ (bnd (nx l) most).2.1 = 0 := by
  unfold bnd at h ⊢
  split
  · exact ⟨rfl, rfl⟩
  · rename_i h1
    split
    · exact ⟨rfl, rfl⟩
    · rename_i h2
      rw [if_neg h1, if_neg h2] at h
      exact absurd h h1

theorem ReelAt.cells {w : World} {br p : Nat} {O : Nat → Prop} {l : List UInt8} (h : ReelAt w br O l p) : ∃ A c, Blk w br 210 #[.slice A l.length c, .int .i64 p] ∧ Rd w A l ∧ l.length ≤ c ∧ c ≤ maxLen ∧ ∀ ad, A = some ad → O ad.block ∧ ad.block < w.heap.size := h.2.2

set_option maxRecDepth 100000 in
set_option maxHeartbeats 1000000 in
theorem rnumber_any (w : World) (br : Nat) (O : Nat → Prop) (l : List UInt8) (p most : Nat) (h : ReelAt w br O l p) (hlen : l.length ≤ 140737488355328) :
    Calls Tryz.prog 144 #[.pointer (some ⟨br, 0, none⟩), .int .u64 most] w (Reads w br O l (NumR l p most).2.2 (.int .u64 (NumR l p most).1) (NumR l p most).2.1) := by
  have hx := bnd_width (l.drop p) most
  have hz := bnd_zero (l.drop p) most
  have hp := h.2.1
  rw [List.length_drop] at hx
  have hbd := bounded_any w br O l p most h hlen
  unfold NumR
  obtain ⟨⟨n, d, r⟩, hn⟩ : ∃ t, bnd (nx (l.drop p)) most = t := ⟨_, rfl⟩
  rw [hn] at hx hz hbd ⊢
  clear hn
  dsimp only at hx hz ⊢
  unfold NxR at hbd
  dsimp only at hbd
  have HB := Lib.hid hbd
  clear hbd
  by_cases hr : r = 0
  · subst hr
    clear hz
    go_enter Tryz.func144, Tryz.ntmps144
    go_wp2_with fail
    refine HB.out.mono ?_
    rintro e w1 ⟨rfl, hk1⟩
    have h1 := h.keep hk1 (fun _ _ => id)
    obtain ⟨A, c, hb1, _⟩ := h1.cells
    have q1 := hb1.cell 1
    have f1 := hb1.frozen 1
    simp at q1
    go_wp2
    go_ret2
    exact ⟨rfl, h.moved hk1 (by omega) (by omega)⟩
  · have hr1 : ((r : Int) != 0) = true := by rw [bne_iff_ne]; omega
    obtain ⟨rfl, rfl⟩ := hz hr
    clear hz
    go_enter Tryz.func144, Tryz.ntmps144
    go_wp2_with fail
    refine HB.out.mono ?_
    rintro e w1 ⟨rfl, hk1⟩
    go_wp2
    go_ret2
    exact ⟨rfl, h.keep hk1 (fun _ _ => id), hk1.mono (fun _ hf _ => hf.elim)⟩

/-- What Signed answers, and the place behind it. -/
def SigR (l : List UInt8) (p : Nat) (lo hi : Int) : Int × Nat × Nat :=
  if (nx (l.drop p)).2.2 ≠ 0 then (0, (nx (l.drop p)).2.2, p) else if zag (nx (l.drop p)).1 < lo ∨ hi < zag (nx (l.drop p)).1 then (0, 12, p) else (zag (nx (l.drop p)).1, 0, p + (nx (l.drop p)).2.1)

set_option maxRecDepth 100000 in
set_option maxHeartbeats 1000000 in
theorem rsigned_any (w : World) (br : Nat) (O : Nat → Prop) (l : List UInt8) (p : Nat) (lo hi : Int) (h : ReelAt w br O l p) (hlen : l.length ≤ 140737488355328) :
    Calls Tryz.prog 220 #[.pointer (some ⟨br, 0, none⟩), .int .i64 lo, .int .i64 hi] w (Reads w br O l (SigR l p lo hi).2.2 (.int .i64 (SigR l p lo hi).1) (SigR l p lo hi).2.1) := by
  have hx := nx_width (l.drop p)
  have hp := h.2.1
  rw [List.length_drop] at hx
  have hnx := next_any w br O l p h hlen
  unfold SigR
  obtain ⟨⟨n, d, r⟩, hn⟩ : ∃ t, nx (l.drop p) = t := ⟨_, rfl⟩
  rw [hn] at hx hnx ⊢
  clear hn
  dsimp only at hx ⊢
  unfold NxR at hnx
  dsimp only at hnx
  have HB := Lib.hid hnx
  clear hnx
  by_cases hr : r = 0
  · subst hr
    obtain ⟨hx1, hx2, _, hn64⟩ := hx
    have hz1 := zag_ge n hn64
    have hz2 := zag_le n hn64
    have HZ := Lib.hid (fun w => zag_any n w hn64)
    clear hn64
    rw [if_neg (by simp)]
    by_cases hlo : zag n < lo
    · rw [if_pos (.inl hlo)]
      go_enter Tryz.func220, Tryz.ntmps220
      go_wp2_with fail
      refine HB.out.mono ?_
      rintro e w1 ⟨rfl, hk1⟩
      go_wp2_with fail
      refine (HZ.out _).mono ?_
      rintro e w2 ⟨rfl, rfl⟩
      go_wp2
      go_ret2
      exact ⟨rfl, h.keep hk1 (fun _ _ => id), hk1.mono (fun _ hf _ => hf.elim)⟩
    · by_cases hhi : hi < zag n
      · rw [if_pos (.inr hhi)]
        go_enter Tryz.func220, Tryz.ntmps220
        go_wp2_with fail
        refine HB.out.mono ?_
        rintro e w1 ⟨rfl, hk1⟩
        go_wp2_with fail
        refine (HZ.out _).mono ?_
        rintro e w2 ⟨rfl, rfl⟩
        go_wp2
        go_ret2
        exact ⟨rfl, h.keep hk1 (fun _ _ => id), hk1.mono (fun _ hf _ => hf.elim)⟩
      · rw [if_neg (by omega)]
        go_enter Tryz.func220, Tryz.ntmps220
        go_wp2_with fail
        refine HB.out.mono ?_
        rintro e w1 ⟨rfl, hk1⟩
        have h1 := h.keep hk1 (fun _ _ => id)
        obtain ⟨A, c, hb1, _⟩ := h1.cells
        have q1 := hb1.cell 1
        have f1 := hb1.frozen 1
        simp at q1
        go_wp2_with fail
        refine (HZ.out _).mono ?_
        rintro e w2 ⟨rfl, rfl⟩
        go_wp2
        go_ret2
        exact ⟨rfl, h.moved hk1 (by omega) (by omega)⟩
  · have hr1 : ((r : Int) != 0) = true := by rw [bne_iff_ne]; omega
    rw [if_pos hr]
    go_enter Tryz.func220, Tryz.ntmps220
    go_wp2_with fail
    refine HB.out.mono ?_
    rintro e w1 ⟨rfl, hk1⟩
    go_wp2
    go_ret2
    exact ⟨rfl, h.keep hk1 (fun _ _ => id), hk1.mono (fun _ hf _ => hf.elim)⟩

set_option maxHeartbeats 400000 in
theorem end_any (w : World) (br : Nat) (O : Nat → Prop) (l : List UInt8) (p : Nat) (h : ReelAt w br O l p) :
    Calls Tryz.prog 87 #[.pointer (some ⟨br, 0, none⟩)] w fun e w' => e = .returned (.int .i64 (if p < l.length then 13 else 0)) ∧ Keep NoB w w' := by
  obtain ⟨A, c, hb1, _, hc, hm, _⟩ := h.cells
  have q0 := hb1.cell 0
  have q1 := hb1.cell 1
  simp at q0 q1
  unfold maxLen at hm
  by_cases hp : p < l.length
  · rw [if_pos hp]
    go_enter Tryz.func87, Tryz.ntmps87
    go_wp2
    go_quiet (fail)
    go_wp2
    go_ret
    exact ⟨rfl, (Keep.refl _ _).drewN _⟩
  · rw [if_neg hp]
    go_enter Tryz.func87, Tryz.ntmps87
    go_wp2
    go_quiet (fail)
    go_wp2
    go_ret
    exact ⟨rfl, (Keep.refl _ _).drewN _⟩

end Go.Proofs.YtgifflfjhockaaaGreatDoor.V

namespace Go.Proofs.YtgifflfjhockaaaGreatDoor.V
open Go.RowKit

/-- Bytes were taken, or there were too few of them. -/
def Taken (w : World) (br : Nat) (O : Nat → Prop) (l : List UInt8) (p fr : Nat) (S : Int) (e : Ending) (w' : World) : Prop :=
  ((l.length : Int) - fr < S ∧ e = .returned (.tuple #[.slice none 0 0, .int .i64 10]) ∧ ReelAt w' br O l p ∧ Keep NoB w w') ∨
  (S ≤ (l.length : Int) - fr ∧ ∃ A c, e = .returned (.tuple #[.slice A S.toNat c, .int .i64 0]) ∧ OwnB w' (Fresh w) (.slice A S.toNat c) ((l.drop fr).take S.toNat) ∧ ReelAt w' br O l (fr + S.toNat) ∧ Keep (fun k => k = br) w w')

set_option maxRecDepth 100000 in
set_option maxHeartbeats 1000000 in
theorem take_any (w : World) (br : Nat) (O : Nat → Prop) (l : List UInt8) (p fr : Nat) (S : Int) (h : ReelAt w br O l p) (hlen : l.length ≤ 140737488355328) (hfr : fr ≤ l.length) (hS0 : 0 ≤ S) (hS1 : S ≤ 9223372036854775807) :
    Calls Tryz.prog 191 #[.pointer (some ⟨br, 0, none⟩), .int .i64 fr, .int .i64 S] w (Taken w br O l p fr S) := by
  obtain ⟨A, c, hb, hr, hc, hm, hA⟩ := h.cells
  unfold maxLen at hm
  have hk0 : Keep NoB w (w.alloc (.cells #[.slice none 0 0] 279)) := (Keep.refl NoB w).alloc _
  have hb0 := hb.keep hk0 id
  have hr0 := hr.keep hk0 (fun _ _ _ => id)
  have hs0 := Blk.new w 279 #[.slice none 0 0]
  have hlt := hb.lt
  go_enter Tryz.func191, Tryz.ntmps191
  go_wp2_with fail
  refine (look_set _ br w.heap.size p fr (.slice none 0 0) S A l c hb0 hr0 hc hs0 hlen hm hfr hS0 hS1).mono ?_
  rintro e w1 (⟨hsh, rfl, hk1⟩ | ⟨hle, rfl, ⟨v, hs1, hv1⟩, hk1⟩)
  · have hk01 := hk0.trans hk1 (fun _ hf _ => hf.elim)
    go_wp2
    go_ret2
    exact .inl ⟨hsh, rfl, h.keep hk01 (fun _ _ => id), hk01⟩
  · obtain ⟨s, rfl⟩ := Int.eq_ofNat_of_zero_le hS0
    have hk01 : Keep NoB w w1 := hk0.trans hk1 (fun k e hk => by omega)
    have hb1 := hb0.keep hk1 (by omega)
    obtain ⟨A1, c1, rfl, _⟩ := hv1.form
    rw [Int.toNat_natCast] at hv1 hs1
    have hpl : ((l.drop fr).take s).length = s := by simp; omega
    rw [hpl] at hs1 hv1
    have q0 := hs1.cell 0
    have q1 := hb1.cell 1
    have f1 := hb1.frozen 1
    have hne : w.heap.size ≠ br := by omega
    have hne2 : ∀ g, (Value.slice A1 s c1).ownBlock = some g → g ≠ br := fun g e => by have := hv1.2 g e; unfold Fresh at this; simp at this; omega
    simp at q0 q1
    go_wp2
    go_ret2
    obtain ⟨m1, m2⟩ := h.moved (q := fr + s) (Q := (fr : Int) + s) hk01 (by omega) (by omega)
    refine .inr ⟨hle, A1, c1, rfl, ?_, m1, m2⟩
    exact (hv1.mono (O' := Fresh w) (fun k hk _ => by unfold Fresh at hk ⊢; simp at hk; omega)).keep (O' := fun k => k = br) ((Keep.refl (fun k => k = br) w1).setCell (p := ⟨br, 1, none⟩) (fun _ => rfl) _) (fun k hk e => by unfold Fresh at hk; omega)

theorem bounded_at (w : World) (br : Nat) (O : Nat → Prop) (l : List UInt8) (p most : Nat) (N : Int) (h : ReelAt w br O l p) (hlen : l.length ≤ 140737488355328) (hN : N = most) :
    Calls Tryz.prog 186 #[.pointer (some ⟨br, 0, none⟩), .int .u64 N] w fun e w' => e = NxR (bnd (nx (l.drop p)) most) ∧ Keep NoB w w' := by
  subst hN; exact bounded_any w br O l p most h hlen

theorem bnd_le (r : Nat × Nat × Nat) (most : Nat) : (bnd r most).1 ≤ most := by
  unfold bnd
  split
  · exact Nat.zero_le _
  · rename_i h1
    split
    · exact Nat.zero_le _
    · omega

/-- What Bytes leaves. -/
def BytesP (w : World) (br : Nat) (O : Nat → Prop) (l : List UInt8) (p : Nat) (b : Nat × Nat × Nat) (e : Ending) (w' : World) : Prop :=
  (b.2.2 ≠ 0 ∧ e = .returned (.tuple #[.slice none 0 0, .int .i64 b.2.2]) ∧ ReelAt w' br O l p ∧ Keep NoB w w') ∨ (b.2.2 = 0 ∧ Taken w br O l p (p + b.2.1) b.1 e w')

theorem Taken.from {w w1 w' : World} {br : Nat} {O : Nat → Prop} {l : List UInt8} {p fr : Nat} {S : Int} {e : Ending} (hk : Keep NoB w w1) (h : Taken w1 br O l p fr S e w') : Taken w br O l p fr S e w' := by
  rcases h with ⟨h1, h2, h3, h4⟩ | ⟨h1, A, c, h2, h3, h4, h5⟩
  · exact .inl ⟨h1, h2, h3, keepN hk h4⟩
  · exact .inr ⟨h1, A, c, h2, h3.mono (fun k hk' _ => Nat.le_trans hk.size hk'), h4, hk.mono (O' := fun k => k = br) (fun _ hf _ => hf.elim) |>.trans h5 (fun k e _ => e)⟩

set_option maxRecDepth 100000 in
set_option maxHeartbeats 1000000 in
theorem rbytes_any (w : World) (br : Nat) (O : Nat → Prop) (l : List UInt8) (p : Nat) (most : Int) (h : ReelAt w br O l p) (hlen : l.length ≤ 140737488355328) (hm1 : -9223372036854775808 ≤ most) (hm2 : most ≤ 9223372036854775807) :
    Calls Tryz.prog 177 #[.pointer (some ⟨br, 0, none⟩), .int .i64 most] w (BytesP w br O l p (bnd (nx (l.drop p)) (max most 0).toNat)) := by
  have hx := bnd_width (l.drop p) (max most 0).toNat
  have hle := bnd_le (nx (l.drop p)) (max most 0).toNat
  have hp := h.2.1
  rw [List.length_drop] at hx
  have HB := Lib.hid (bounded_at w br O l p (max most 0).toNat (max most 0) h hlen (by omega))
  obtain ⟨b, hb⟩ : ∃ b, bnd (nx (l.drop p)) (max most 0).toNat = b := ⟨_, rfl⟩
  rw [hb] at hx hle HB ⊢
  clear hb
  obtain ⟨n, d, r⟩ := b
  dsimp only at hx hle
  by_cases hr : r = 0
  · subst hr
    have hn := hle
    clear hle
    obtain ⟨hx1, hx2, hx3, _⟩ := hx
    go_enter Tryz.func177, Tryz.ntmps177
    go_wp2_with fail
    refine HB.out.mono ?_
    rintro e w1 ⟨he, hk1⟩
    unfold NxR at he
    subst he
    have h1 := h.keep hk1 (fun _ _ => id)
    obtain ⟨A, c, hb1, _⟩ := h1.cells
    have q1 := hb1.cell 1
    simp at q1
    clear hb1
    go_wp2_with fail
    have HT := fun (F S : Int) (hF : F = ((p + d : Nat) : Int)) (hS : S = (n : Int)) => (show Calls Tryz.prog 191 #[.pointer (some ⟨br, 0, none⟩), .int .i64 F, .int .i64 S] w1 (Taken w1 br O l p (p + d) n) by subst hF hS; exact take_any w1 br O l p (p + d) n h1 hlen (by omega) (by omega) (by omega))
    refine (HT _ _ (by omega) (by omega)).mono ?_
    clear HT
    intro e w2 ht
    have ht' := Taken.from hk1 ht
    clear ht
    rcases ht' with ⟨h1', rfl, h3, h4⟩ | ⟨h1', A2, c2, rfl, h3, h4, h5⟩
    · go_wp2
      go_ret2
      exact .inr ⟨rfl, .inl ⟨h1', rfl, h3, h4⟩⟩
    · go_wp2
      go_ret2
      exact .inr ⟨rfl, .inr ⟨h1', A2, c2, rfl, h3, h4, h5⟩⟩
  · have hr1 : ((r : Int) != 0) = true := by rw [bne_iff_ne]; omega
    clear hle hx
    go_enter Tryz.func177, Tryz.ntmps177
    go_wp2_with fail
    refine HB.out.mono ?_
    rintro e w1 ⟨he, hk1⟩
    unfold NxR at he
    subst he
    go_wp2
    go_ret2
    exact .inl ⟨hr, rfl, h.keep hk1 (fun _ _ => id), hk1⟩

set_option maxRecDepth 100000 in
set_option maxHeartbeats 1000000 in
theorem rraw_any (w : World) (br : Nat) (O : Nat → Prop) (l : List UInt8) (p : Nat) (n : Int) (h : ReelAt w br O l p) (hlen : l.length ≤ 140737488355328) (hm2 : n ≤ 9223372036854775807) :
    Calls Tryz.prog 158 #[.pointer (some ⟨br, 0, none⟩), .int .i64 n] w fun e w' =>
      (n < 0 ∧ e = .returned (.tuple #[.slice none 0 0, .int .i64 2]) ∧ ReelAt w' br O l p ∧ Keep NoB w w') ∨ (0 ≤ n ∧ Taken w br O l p p n e w') := by
  by_cases hn : n < 0
  · go_enter Tryz.func158, Tryz.ntmps158
    go_wp2
    go_ret2
    exact .inl ⟨hn, rfl, h, Keep.refl _ _⟩
  · have hp := h.2.1
    obtain ⟨A, c, hb1, _⟩ := h.cells
    have q1 := hb1.cell 1
    simp at q1
    clear hb1
    go_enter Tryz.func158, Tryz.ntmps158
    go_wp2_with fail
    refine (take_any w br O l p p n h hlen hp (by omega) hm2).mono ?_
    rintro e w2 (⟨h1', rfl, h3, h4⟩ | ⟨h1', A2, c2, rfl, h3, h4, h5⟩)
    · go_wp2
      go_ret2
      exact .inr ⟨by omega, .inl ⟨h1', rfl, h3, h4⟩⟩
    · go_wp2
      go_ret2
      exact .inr ⟨by omega, .inr ⟨h1', A2, c2, rfl, h3, h4, h5⟩⟩

end Go.Proofs.YtgifflfjhockaaaGreatDoor.V

namespace Go.Proofs.YtgifflfjhockaaaGreatDoor.V
open Go.RowKit

/-- The document's own Reel at block br that has the bytes l and the place p; all its blocks are of O. -/
def RefAt (w : World) (br : Nat) (O : Nat → Prop) (l : List UInt8) (p : Nat) : Prop :=
  O br ∧ p ≤ l.length ∧ ∃ A c, Blk w br 104 #[.slice A l.length c, .int .i64 p] ∧ Rd w A l ∧ l.length ≤ c ∧ c ≤ maxLen ∧ ∀ ad, A = some ad → O ad.block ∧ ad.block < w.heap.size

theorem RefAt.keep {w w' : World} {br p : Nat} {O O' : Nat → Prop} {l : List UInt8} (h : RefAt w br O l p) (hk : Keep O' w w') (hn : ∀ k, O k → ¬ O' k) : RefAt w' br O l p := by
  obtain ⟨h1, h2, A, c, hb, hr, hc, hm, hA⟩ := h
  exact ⟨h1, h2, A, c, hb.keep hk (hn _ h1), hr.keep hk (fun ad e _ => hn _ (hA ad e).1), hc, hm, fun ad e => ⟨(hA ad e).1, Nat.lt_of_lt_of_le (hA ad e).2 hk.size⟩⟩
theorem RefAt.mono {w : World} {br p : Nat} {O O' : Nat → Prop} {l : List UInt8} (h : RefAt w br O l p) (hO : ∀ k, O k → k < w.heap.size → O' k) : RefAt w br O' l p := by
  obtain ⟨h1, h2, A, c, hb, hr, hc, hm, hA⟩ := h
  exact ⟨hO _ h1 hb.lt, h2, A, c, hb, hr, hc, hm, fun ad e => ⟨hO _ (hA ad e).1 (hA ad e).2, (hA ad e).2⟩⟩

/-- The Reel stands at another place; nothing else has turned. -/
theorem RefAt.moved {w w1 : World} {br p : Nat} {O : Nat → Prop} {l : List UInt8} {q : Nat} {Q : Int} (h : RefAt w br O l p) (hk : Keep NoB w w1) (hq : q ≤ l.length) (hQ : Q = q) :
    RefAt (w1.setCell ⟨br, 1, none⟩ (.int .i64 Q)) br O l q ∧ Keep (fun k => k = br) w (w1.setCell ⟨br, 1, none⟩ (.int .i64 Q)) := by
  subst hQ
  obtain ⟨h1, h2, A, c, hb, hr, hc, hm, hA⟩ := h
  have hb1 := hb.keep hk id
  have hk2 : Keep (fun k => k = br) w (w1.setCell ⟨br, 1, none⟩ (.int .i64 q)) := (hk.mono (O' := fun k => k = br) (fun _ hf _ => hf.elim)).setCell (p := ⟨br, 1, none⟩) (fun _ => rfl) _
  refine ⟨⟨h1, hq, A, c, hb1.put 1 _, ?_, hc, hm, fun ad e => ⟨(hA ad e).1, Nat.lt_of_lt_of_le (hA ad e).2 hk2.size⟩⟩, hk2⟩
  intro h0
  obtain ⟨ad, e, hcell⟩ := hr h0
  refine ⟨ad, e, fun j u hu => ?_⟩
  have hcu := hk.cell (hcell j u hu) id
  have hne : (⟨br, 1, none⟩ : Addr) ≠ ad.add j := by
    intro e'
    rw [← e'] at hcu
    have hb2 := hb1.cell 1
    rw [hb2] at hcu
    simp at hcu
    subst hcu
    have := (List.getElem?_eq_some_iff.1 hu)
    obtain ⟨hj, hju⟩ := this
    simp at hju
  exact (World.cell?_setCell_other _ _ _ _ hne).trans hcu

theorem RefAt.cells {w : World} {br p : Nat} {O : Nat → Prop} {l : List UInt8} (h : RefAt w br O l p) : ∃ A c, Blk w br 104 #[.slice A l.length c, .int .i64 p] ∧ Rd w A l ∧ l.length ≤ c ∧ c ≤ maxLen ∧ ∀ ad, A = some ad → O ad.block ∧ ad.block < w.heap.size := h.2.2

end Go.Proofs.YtgifflfjhockaaaGreatDoor.V

namespace Go.Proofs.YtgifflfjhockaaaGreatDoor.V
open Go.RowKit

end Go.Proofs.YtgifflfjhockaaaGreatDoor.V

namespace Go.Proofs.YtgifflfjhockaaaGreatDoor.V
open Go.RowKit

end Go.Proofs.YtgifflfjhockaaaGreatDoor.V

namespace Go.Proofs.YtgifflfjhockaaaGreatDoor.S
open Go.RowKit

/-- What comes next, if nothing is wrong with it, is its number's bytes. -/
theorem nx_ok {l : List UInt8} (h : (V.nx l).2.2 = 0) : l = V.encL (V.nx l).1 ++ l.drop (V.nx l).2.1 ∧ (V.encL (V.nx l).1).length = (V.nx l).2.1 := by
  rcases l with _ | ⟨b, r⟩
  · cases h
  · rw [V.nx_cons] at h ⊢
    split at h
    · cases h
    · rename_i h1
      split at h
      · cases h
      · rename_i h2
        rw [if_neg h1, if_neg h2]
        have ht := V.td_rng b.toNat (by simpa using b.toNat_lt)
        obtain ⟨t, hT⟩ : ∃ t, V.td b.toNat = t + 1 := ⟨V.td b.toNat - 1, by omega⟩
        simp only
        have hw := V.dc_width b (r.take t) (V.td b.toNat) rfl (by rw [hT]; simp; omega)
        rw [hT] at h1 h2 hw ⊢
        rw [List.take_succ_cons] at h2 ⊢
        have e := hw.2.1 (by omega)
        rw [e]
        refine ⟨?_, by simp; omega⟩
        rw [List.drop_succ_cons, List.cons_append, List.take_append_drop]

theorem num_ok {l : List UInt8} {p m : Nat} (h : (V.NumR l p m).2.1 = 0) :
    l.drop p = V.encL (V.NumR l p m).1 ++ l.drop (V.NumR l p m).2.2 ∧ (V.NumR l p m).1 ≤ m ∧ (V.NumR l p m).1 < 18446744073709551616 ∧ (V.NumR l p m).2.2 = p + (V.encL (V.NumR l p m).1).length := by
  unfold V.NumR at h ⊢
  unfold V.bnd at h ⊢
  have hw := (V.nx_width (l.drop p)).2.2.2
  simp only at h ⊢
  split at h
  · rename_i h1; exact absurd h h1
  · rename_i h1
    split at h
    · cases h
    · rename_i h2
      rw [if_neg h1, if_neg h2]
      have e := nx_ok (l := l.drop p) h
      rw [List.drop_drop] at e
      exact ⟨e.1, by omega, hw, by rw [e.2]⟩
theorem num_enc {l s : List UInt8} {p m n : Nat} (h : l.drop p = V.encL n ++ s) (h1 : n ≤ m) (h2 : n < 18446744073709551616) : V.NumR l p m = (n, 0, p + (V.encL n).length) := by
  have hb : V.bnd (V.nx (l.drop p)) m = (n, V.wd n, 0) := by
    rw [h, V.nx_enc n h2]
    unfold V.bnd
    rw [if_neg (by simp), if_neg (by simp; omega)]
  unfold V.NumR
  rw [hb, V.encL_length n h2]
theorem num_case (l : List UInt8) (p M : Nat) : ∃ n r q : Nat, V.NumR l p M = (n, r, q) ∧ (r = 0 → n ≤ M ∧ n < 18446744073709551616) ∧ (r ≠ 0 → n = 0) := by
  refine ⟨_, _, _, rfl, fun h => ?_, fun h => ?_⟩
  · have := num_ok (l := l) (p := p) (m := M) h; exact ⟨this.2.1, this.2.2.1⟩
  · exact (V.bnd_zero (l.drop p) M h).1
theorem reel_lt {w : World} {br p : Nat} {O : Nat → Prop} {l : List UInt8} (h : V.ReelAt w br O l p) : br < w.heap.size := by
  obtain ⟨A, c, hb, _⟩ := h.cells
  exact hb.lt
theorem own_rd {w : World} {O : Nat → Prop} {v : Value} {l : List UInt8} (h : V.OwnB w O v l) : ∃ A c, v = .slice A l.length c ∧ V.Rd w A l ∧ (∀ ad, A = some ad → ad.block < w.heap.size) := by
  obtain ⟨A, c, rfl, _, hr, _, _⟩ := h.form
  exact ⟨A, c, rfl, hr, fun ad e => (h.1.lt ad.block (by rw [e]; rfl)).2⟩
theorem rd_n {w w' : World} {A : Option Addr} {l : List UInt8} (h : V.Rd w A l) (hk : Keep NoB w w') : V.Rd w' A l := h.keep hk (fun _ _ _ => id)
theorem own_rdI {w : World} {O : Nat → Prop} {v : Value} {n : Nat} {xs : List Value} (h : Own w 3 1 O v n xs) : ∃ A c, v = .slice A n c ∧ Rd w A xs := by
  obtain ⟨A, c, e, _, _, hr, _⟩ := h.form
  exact ⟨A, c, e, hr⟩

end Go.Proofs.YtgifflfjhockaaaGreatDoor.S

namespace Go.Proofs.YtgifflfjhockaaaGreatDoor.S
open Go.RowKit W

/-- A type that cells and results may have. -/
def heldB (t : Int) : Bool := decide (1 ≤ t ∧ t ≤ 3)
theorem held_iff (t : Int) : heldB t = true ↔ 1 ≤ t ∧ t ≤ 3 := by simp [heldB]
theorem held_not (t : Int) : heldB t = false ↔ ¬ (1 ≤ t ∧ t ≤ 3) := by unfold heldB; rw [decide_eq_false_iff_not]
theorem held_known {t : Int} (h : heldB t = true) : knownB t = true := by rw [held_iff] at h; rw [known_iff]; omega
theorem all_known {l : List Int} (h : l.all heldB = true) : l.all knownB = true := by
  rw [List.all_eq_true] at h ⊢
  exact fun x hx => held_known (h x hx)
/-- A shape that may be; a signature that may be. -/
def okS (l : List Int) : Bool := decide (1 ≤ l.length ∧ l.length ≤ 16) && l.all heldB
def okG (a r : List Int) : Bool := decide (a.length + r.length ≤ 64) && (a.all knownB && r.all heldB)
def chkS (l : List Int) : Int := if okS l = true then 0 else 60
def chkG (a r : List Int) : Int := if okG a r = true then 0 else 61
theorem okS_iff (l : List Int) : okS l = true ↔ (1 ≤ l.length ∧ l.length ≤ 16) ∧ l.all heldB = true := by unfold okS; rw [Bool.and_eq_true, decide_eq_true_iff]
theorem okG_iff (a r : List Int) : okG a r = true ↔ a.length + r.length ≤ 64 ∧ a.all knownB = true ∧ r.all heldB = true := by unfold okG; rw [Bool.and_eq_true, Bool.and_eq_true, decide_eq_true_iff]
theorem chkS_ok {l : List Int} (h : okS l = true) : chkS l = 0 := if_pos h
theorem chkS_no {l : List Int} (h : okS l = false) : chkS l = 60 := if_neg (by rw [h]; decide)
theorem chkG_ok {a r : List Int} (h : okG a r = true) : chkG a r = 0 := if_pos h
theorem chkG_no {a r : List Int} (h : okG a r = false) : chkG a r = 61 := if_neg (by rw [h]; decide)
/-- So many digits of base 4, the lowest first. -/
def dig : List Int → Nat
  | [] => 0
  | t :: l => (t - 1).toNat + 4 * dig l
theorem dig_lt : ∀ (l : List Int), l.all knownB = true → dig l < 4 ^ l.length
  | [], _ => by simp [dig]
  | t :: l, h => by
    rw [List.all_cons, Bool.and_eq_true, known_iff] at h
    have := dig_lt l h.2
    rw [dig, List.length_cons, Nat.pow_succ]
    omega
theorem dig_at : ∀ (l : List Int) (j : Nat), l.all knownB = true → dig l / 4 ^ j % 4 = (l[j]?.map fun t => (t - 1).toNat).getD 0
  | [], j, _ => by simp [dig]
  | t :: l, 0, h => by
    rw [List.all_cons, Bool.and_eq_true, known_iff] at h
    rw [dig]; simp; omega
  | t :: l, j + 1, h => by
    rw [List.all_cons, Bool.and_eq_true, known_iff] at h
    have := dig_at l j h.2
    rw [dig, Nat.pow_succ, Nat.mul_comm (4 ^ j) 4, ← Nat.div_div_eq_div_mul, show ((t - 1).toNat + 4 * dig l) / 4 = dig l by omega, this]
    simp
theorem dig_snoc : ∀ (l : List Int) (t : Int), dig (l ++ [t]) = dig l + (t - 1).toNat * 4 ^ l.length
  | [], t => by simp [dig]
  | u :: l, t => by
    have h := dig_snoc l t
    rw [List.cons_append, dig, dig, h, List.length_cons, Nat.pow_succ]
    have e : (t - 1).toNat * (4 ^ l.length * 4) = 4 * ((t - 1).toNat * 4 ^ l.length) := by
      rw [Nat.mul_comm (4 ^ l.length) 4, Nat.mul_left_comm]
    omega

/-- How many bytes so many types are laid into. -/
def sz (n : Nat) : Nat := (n + 3) / 4
/-- A byte of types, as a number; all of them. -/
def packN (l : List Int) (k : Nat) : Nat := dig ((l.drop (4 * k)).take 4)
def packL (l : List Int) : List UInt8 := (List.range (sz l.length)).map fun k => UInt8.ofNat (packN l k)
theorem packL_length (l : List Int) : (packL l).length = sz l.length := by simp [packL]
theorem all_sub {l : List Int} {p : Int → Bool} (h : l.all p = true) (i j : Nat) : ((l.drop i).take j).all p = true := by
  rw [List.all_eq_true] at h ⊢
  exact fun x hx => h x (List.mem_of_mem_drop (List.mem_of_mem_take hx))
theorem packN_lt {l : List Int} (h : l.all knownB = true) (k : Nat) : packN l k < 256 := by
  have h1 := dig_lt _ (all_sub h (4 * k) 4)
  have h2 : 4 ^ ((l.drop (4 * k)).take 4).length ≤ 4 ^ 4 := Nat.pow_le_pow_right (by omega) (by simp; omega)
  unfold packN
  omega
theorem packL_at (l : List Int) (k : Nat) (h : k < sz l.length) : (packL l)[k]? = some (UInt8.ofNat (packN l k)) := by simp [packL, h]
/-- Types' bytes. -/
def bytesT (l : List Int) : List UInt8 := V.encL l.length ++ packL l

/-- The two bits that stand at a place of bytes; the types that so many places are. -/
def pc (b : List UInt8) (i : Nat) : Nat := ((b[i / 4]?.map UInt8.toNat).getD 0) / 4 ^ (i % 4) % 4
def unp (b : List UInt8) (n : Nat) : List Int := (List.range n).map fun i => (pc b i : Int) + 1
/-- Nothing stands behind so many. -/
def clean (b : List UInt8) (n : Nat) : Bool := (List.range (4 * b.length)).all fun i => decide (i < n ∨ pc b i = 0)
theorem pc_lt (b : List UInt8) (i : Nat) : pc b i < 4 := Nat.mod_lt _ (by omega)
theorem unp_length (b : List UInt8) (n : Nat) : (unp b n).length = n := by simp [unp]
theorem unp_at (b : List UInt8) (n i : Nat) (h : i < n) : (unp b n)[i]? = some ((pc b i : Int) + 1) := by simp [unp, h]
theorem unp_known (b : List UInt8) (n : Nat) : (unp b n).all knownB = true := by
  rw [List.all_eq_true]
  intro x hx
  obtain ⟨i, _, rfl⟩ := List.mem_map.1 hx
  have := pc_lt b i
  rw [known_iff]; omega
theorem clean_iff (b : List UInt8) (n : Nat) : clean b n = true ↔ ∀ i, n ≤ i → i < 4 * b.length → pc b i = 0 := by
  unfold clean
  rw [List.all_eq_true]
  constructor
  · intro h i h1 h2
    have := h i (List.mem_range.2 h2)
    rw [decide_eq_true_iff] at this
    omega
  · intro h i h1
    rw [decide_eq_true_iff]
    have := List.mem_range.1 h1
    rcases Nat.lt_or_ge i n with h3 | h3
    · exact .inl h3
    · exact .inr (h i h3 this)
theorem pc_pack {l : List Int} (h : l.all knownB = true) (i : Nat) (hi : i / 4 < sz l.length) : pc (packL l) i = (l[i]?.map fun t => (t - 1).toNat).getD 0 := by
  unfold pc
  rw [packL_at l _ hi]
  simp only [Option.map_some, Option.getD_some]
  rw [UInt8.toNat_ofNat', Nat.mod_eq_of_lt (packN_lt h _)]
  unfold packN
  rw [dig_at _ _ (all_sub h _ _), List.getElem?_take, if_pos (Nat.mod_lt _ (by omega)), List.getElem?_drop, Nat.div_add_mod]
theorem unp_pack {l : List Int} (h : l.all knownB = true) : unp (packL l) l.length = l ∧ clean (packL l) l.length = true := by
  constructor
  · apply List.ext_getElem?
    intro i
    by_cases hi : i < l.length
    · rw [unp_at _ _ _ hi, pc_pack h i (by unfold sz; omega), List.getElem?_eq_getElem hi]
      have := List.all_eq_true.1 h _ (List.getElem_mem hi)
      rw [known_iff] at this
      simp; omega
    · rw [List.getElem?_eq_none (by rw [unp_length]; omega), List.getElem?_eq_none (by omega)]
  · rw [clean_iff]
    intro i h1 h2
    rw [packL_length] at h2
    rw [pc_pack h i (by omega), List.getElem?_eq_none h1]
    rfl
theorem byte_eq (x : Nat) (h : x < 256) : x = x % 4 + 4 * (x / 4 % 4 + 4 * (x / 16 % 4 + 4 * (x / 64 % 4))) := by omega
theorem dig_map (f : Nat → Nat) (m : Nat) (h : m ≤ 4) (g : ∀ j, m ≤ j → j < 4 → f j = 0) : dig ((List.range m).map fun j => (f j : Int) + 1) = f 0 + 4 * (f 1 + 4 * (f 2 + 4 * f 3)) := by
  have hm : m = 0 ∨ m = 1 ∨ m = 2 ∨ m = 3 ∨ m = 4 := by omega
  rcases hm with rfl | rfl | rfl | rfl | rfl
  · rw [g 0 (by omega) (by omega), g 1 (by omega) (by omega), g 2 (by omega) (by omega), g 3 (by omega) (by omega)]; rfl
  · rw [g 1 (by omega) (by omega), g 2 (by omega) (by omega), g 3 (by omega) (by omega)]; simp [List.range_succ, dig]
  · rw [g 2 (by omega) (by omega), g 3 (by omega) (by omega)]; simp [List.range_succ, dig]
  · rw [g 3 (by omega) (by omega)]; simp [List.range_succ, dig]
  · simp [List.range_succ, dig]
theorem unp_slice (b : List UInt8) (n k : Nat) : ((unp b n).drop (4 * k)).take 4 = (List.range (min 4 (n - 4 * k))).map fun j => (pc b (4 * k + j) : Int) + 1 := by
  apply List.ext_getElem?
  intro i
  rw [List.getElem?_take]
  by_cases h : i < min 4 (n - 4 * k)
  · rw [if_pos (by omega), List.getElem?_drop, unp_at _ _ _ (by omega), List.getElem?_map, List.getElem?_range h]
    rfl
  · rw [List.getElem?_eq_none (l := List.map _ _) (by simp; omega)]
    split
    · rw [List.getElem?_drop, List.getElem?_eq_none]; rw [unp_length]; omega
    · rfl
theorem pc_four {b : List UInt8} {k j : Nat} (hk : k < b.length) (hj : j < 4) : pc b (4 * k + j) = b[k].toNat / 4 ^ j % 4 := by
  unfold pc
  rw [show (4 * k + j) / 4 = k by omega, show (4 * k + j) % 4 = j by omega, List.getElem?_eq_getElem hk]
  rfl
theorem pack_unp {b : List UInt8} {n : Nat} (hb : b.length = sz n) (hc : clean b n = true) : packL (unp b n) = b := by
  apply List.ext_getElem?
  intro k
  by_cases hk : k < sz n
  · have hk2 : k < b.length := by omega
    rw [packL_at _ _ (by rw [unp_length]; exact hk), List.getElem?_eq_getElem hk2]
    congr 1
    unfold packN
    rw [unp_slice, dig_map (fun j => pc b (4 * k + j)) _ (by omega)]
    · have p0 := pc_four hk2 (j := 0) (by omega)
      have p1 := pc_four hk2 (j := 1) (by omega)
      have p2 := pc_four hk2 (j := 2) (by omega)
      have p3 := pc_four hk2 (j := 3) (by omega)
      simp only [p0, p1, p2, p3, Nat.pow_zero, Nat.div_one, show (4 : Nat) ^ 1 = 4 from rfl, show (4 : Nat) ^ 2 = 16 from rfl, show (4 : Nat) ^ 3 = 64 from rfl]
      rw [← byte_eq _ (UInt8.toNat_lt _)]
      exact UInt8.ofNat_toNat
    · intro j h1 h2
      exact (clean_iff b n).1 hc _ (by omega) (by omega)
  · rw [List.getElem?_eq_none (by rw [packL_length, unp_length]; omega), List.getElem?_eq_none (by omega)]

/-- The types that stand at a place, at most so many, and the place behind them. -/
def rdT (l : List UInt8) (p most : Nat) : Option (List Int × Nat) :=
  if (V.NumR l p most).2.1 ≠ 0 then none
  else if l.length < (V.NumR l p most).2.2 + sz (V.NumR l p most).1 then none
  else if clean ((l.drop (V.NumR l p most).2.2).take (sz (V.NumR l p most).1)) (V.NumR l p most).1 = true then
    some (unp ((l.drop (V.NumR l p most).2.2).take (sz (V.NumR l p most).1)) (V.NumR l p most).1, (V.NumR l p most).2.2 + sz (V.NumR l p most).1)
  else none
theorem rdT_1 {l : List UInt8} {p most n r q : Nat} (h : V.NumR l p most = (n, r, q)) (hr : r ≠ 0) : rdT l p most = none := by unfold rdT; rw [h]; exact if_pos hr
theorem rdT_2 {l : List UInt8} {p most n q : Nat} (h : V.NumR l p most = (n, 0, q)) (hl : l.length < q + sz n) : rdT l p most = none := by
  unfold rdT; rw [h]; dsimp only; rw [if_neg (fun h => h rfl), if_pos hl]
theorem rdT_3 {l : List UInt8} {p most n q : Nat} (h : V.NumR l p most = (n, 0, q)) (hc : clean ((l.drop q).take (sz n)) n = false) : rdT l p most = none := by
  unfold rdT; rw [h]; dsimp only; rw [if_neg (fun h => h rfl)]
  split
  · rfl
  · rw [if_neg (by rw [hc]; decide)]
theorem rdT_4 {l : List UInt8} {p most n q : Nat} (h : V.NumR l p most = (n, 0, q)) (hl : ¬ l.length < q + sz n) (hc : clean ((l.drop q).take (sz n)) n = true) :
    rdT l p most = some (unp ((l.drop q).take (sz n)) n, q + sz n) := by
  unfold rdT; rw [h]; dsimp only; rw [if_neg (fun h => h rfl), if_neg hl, if_pos hc]
theorem rdT_ok {l : List UInt8} {p most q : Nat} {x : List Int} (h : rdT l p most = some (x, q)) :
    x.all knownB = true ∧ x.length ≤ most ∧ l.drop p = bytesT x ++ l.drop q ∧ q = p + (bytesT x).length ∧ q ≤ l.length := by
  obtain ⟨n, r, q', hN⟩ : ∃ n r q', V.NumR l p most = (n, r, q') := ⟨_, _, _, rfl⟩
  by_cases hr : r = 0
  · subst hr
    by_cases hl : l.length < q' + sz n
    · rw [rdT_2 hN hl] at h; cases h
    · cases hc : clean ((l.drop q').take (sz n)) n with
      | false => rw [rdT_3 hN hc] at h; cases h
      | true =>
        rw [rdT_4 hN hl hc] at h
        injection h with h
        injection h with h1 h2
        have hk := num_ok (l := l) (p := p) (m := most) (by rw [hN])
        rw [hN] at hk
        dsimp only at hk
        obtain ⟨k1, k2, _, k4⟩ := hk
        have hb : ((l.drop q').take (sz n)).length = sz n := by simp; omega
        have hx : x.length = n := by rw [← h1, unp_length]
        have hp : packL x = (l.drop q').take (sz n) := by rw [← h1]; exact pack_unp hb hc
        refine ⟨by rw [← h1]; exact unp_known _ _, by omega, ?_, ?_, by omega⟩
        · unfold bytesT
          rw [hp, hx, k1, List.append_assoc, ← h2, ← List.drop_drop, List.take_append_drop]
        · unfold bytesT
          rw [List.length_append, hp, hb, hx]; omega
  · rw [rdT_1 hN hr] at h; cases h
theorem rdT_enc {l s : List UInt8} {p most : Nat} {x : List Int} (hx : x.all knownB = true) (hm : x.length ≤ most) (h64 : x.length < 18446744073709551616) (h : l.drop p = bytesT x ++ s) :
    rdT l p most = some (x, p + (bytesT x).length) := by
  unfold bytesT at h ⊢
  rw [List.append_assoc] at h
  have hN := num_enc h hm h64
  have hd : l.drop (p + (V.encL x.length).length) = packL x ++ s := by rw [← List.drop_drop, h, List.drop_left' rfl]
  have hlen := congrArg List.length hd
  rw [List.length_drop, List.length_append, packL_length] at hlen
  have ht : (l.drop (p + (V.encL x.length).length)).take (sz x.length) = packL x := by rw [hd, ← packL_length, List.take_left' rfl]
  obtain ⟨u1, u2⟩ := unp_pack hx
  by_cases hs : sz x.length = 0
  · have hx0 : x = [] := by unfold sz at hs; exact List.length_eq_zero_iff.1 (by omega)
    subst hx0
    have hw := (V.encL_length 0 (by omega))
    have hpl : p + (V.encL 0).length ≤ l.length := by
      have h3 := congrArg List.length h
      rw [List.length_drop, List.length_append] at h3
      have h4 : 0 < (V.encL 0).length := by decide
      simp at h3; omega
    rw [rdT_4 hN (by unfold sz; simp at hpl ⊢; omega) (by rw [ht]; exact u2), ht, u1]
    simp [packL, sz]
  · rw [rdT_4 hN (by omega) (by rw [ht]; exact u2), ht, u1, List.length_append, packL_length]
    congr 2
    omega
/-- A bound that doesn't matter. -/
theorem num_less {l : List UInt8} {p m M : Nat} (h : m ≤ M) : (∃ n q, n ≤ m ∧ V.NumR l p M = (n, 0, q) ∧ V.NumR l p m = (n, 0, q)) ∨ ((∃ n q, m < n ∧ V.NumR l p M = (n, 0, q)) ∧ (V.NumR l p m).2.1 ≠ 0) ∨ ((V.NumR l p M).2.1 ≠ 0 ∧ (V.NumR l p m).2.1 ≠ 0) := by
  unfold V.NumR V.bnd
  by_cases h0 : (V.nx (l.drop p)).2.2 = 0
  · by_cases h1 : M < (V.nx (l.drop p)).1
    · refine .inr (.inr ?_)
      rw [if_neg (by simpa using h0), if_pos h1, if_neg (by simpa using h0), if_pos (by omega)]
      simp
    · by_cases h2 : m < (V.nx (l.drop p)).1
      · refine .inr (.inl ⟨⟨(V.nx (l.drop p)).1, p + (V.nx (l.drop p)).2.1, h2, ?_⟩, ?_⟩)
        · rw [if_neg (by simpa using h0), if_neg h1, h0]
        · rw [if_neg (by simpa using h0), if_pos h2]; simp
      · refine .inl ⟨(V.nx (l.drop p)).1, p + (V.nx (l.drop p)).2.1, by omega, ?_, ?_⟩
        · rw [if_neg (by simpa using h0), if_neg h1, h0]
        · rw [if_neg (by simpa using h0), if_neg h2, h0]
  · refine .inr (.inr ?_)
    rw [if_pos h0, if_pos h0]
    exact ⟨h0, h0⟩
theorem rdT_less {l : List UInt8} {p m M : Nat} (h : m ≤ M) : rdT l p m = (match rdT l p M with | none => none | some x => if x.1.length ≤ m then some x else none) := by
  rcases num_less (l := l) (p := p) h with ⟨n, q, h1, h2, h3⟩ | ⟨⟨n, q, h1, h2⟩, h3⟩ | ⟨h1, h2⟩
  · by_cases hl : l.length < q + sz n
    · rw [rdT_2 h2 hl, rdT_2 h3 hl]
    · cases hc : clean ((l.drop q).take (sz n)) n with
      | false => rw [rdT_3 h2 hc, rdT_3 h3 hc]
      | true => rw [rdT_4 h2 hl hc, rdT_4 h3 hl hc]; dsimp only; rw [unp_length, if_pos h1]
  · have e : rdT l p m = none := by unfold rdT; exact if_pos h3
    rw [e]
    by_cases hl : l.length < q + sz n
    · rw [rdT_2 h2 hl]
    · cases hc : clean ((l.drop q).take (sz n)) n with
      | false => rw [rdT_3 h2 hc]
      | true => rw [rdT_4 h2 hl hc]; dsimp only; rw [unp_length, if_neg (by omega)]
  · have e : rdT l p m = none := by unfold rdT; exact if_pos h2
    have e2 : rdT l p M = none := by unfold rdT; exact if_pos h1
    rw [e, e2]

/-- The shape at a place, and the place behind it; a signature likewise. -/
def decS (l : List UInt8) (p : Nat) : Option (List Int × Nat) := match rdT l p 16 with
  | none => none
  | some x => if okS x.1 = true then some x else none
def decG (l : List UInt8) (p : Nat) : Option ((List Int × List Int) × Nat) := match rdT l p 64 with
  | none => none
  | some x => match rdT l x.2 64 with
    | none => none
    | some y => if okG x.1 y.1 = true then some ((x.1, y.1), y.2) else none
/-- The same with the bound that the arguments leave. -/
def decGm (l : List UInt8) (p : Nat) : Option ((List Int × List Int) × Nat) := match rdT l p 64 with
  | none => none
  | some x => match rdT l x.2 (64 - x.1.length) with
    | none => none
    | some y => if okG x.1 y.1 = true then some ((x.1, y.1), y.2) else none
theorem decGm_eq (l : List UInt8) (p : Nat) : decGm l p = decG l p := by
  unfold decGm decG
  cases rdT l p 64 with
  | none => rfl
  | some x =>
    dsimp only
    rw [rdT_less (l := l) (p := x.2) (m := 64 - x.1.length) (M := 64) (by omega)]
    cases rdT l x.2 64 with
    | none => rfl
    | some y =>
      dsimp only
      by_cases h : y.1.length ≤ 64 - x.1.length
      · rw [if_pos h]
      · rw [if_neg h]
        dsimp only
        rw [if_neg]
        intro h2
        have := ((okG_iff _ _).1 h2).1
        omega
def bytesG (a r : List Int) : List UInt8 := bytesT a ++ bytesT r
theorem decS_ok {l : List UInt8} {p q : Nat} {x : List Int} (h : decS l p = some (x, q)) : okS x = true ∧ l.drop p = bytesT x ++ l.drop q ∧ q = p + (bytesT x).length := by
  unfold decS at h
  cases hr : rdT l p 16 with
  | none => rw [hr] at h; cases h
  | some y =>
    rw [hr] at h
    dsimp only at h
    obtain ⟨y, q'⟩ := y
    by_cases ho : okS y = true
    · rw [if_pos ho] at h
      injection h with h
      injection h with h1 h2
      subst h1 h2
      obtain ⟨_, _, h3, h4, _⟩ := rdT_ok hr
      exact ⟨ho, h3, h4⟩
    · rw [if_neg ho] at h; cases h
theorem decS_enc {l s : List UInt8} {p : Nat} {x : List Int} (ho : okS x = true) (h : l.drop p = bytesT x ++ s) : decS l p = some (x, p + (bytesT x).length) := by
  obtain ⟨h1, h2⟩ := (okS_iff x).1 ho
  unfold decS
  rw [rdT_enc (all_known h2) h1.2 (by omega) h]
  exact if_pos ho
theorem decG_ok {l : List UInt8} {p q : Nat} {a r : List Int} (h : decG l p = some ((a, r), q)) : okG a r = true ∧ l.drop p = bytesG a r ++ l.drop q ∧ q = p + (bytesG a r).length := by
  unfold decG at h
  cases hr : rdT l p 64 with
  | none => rw [hr] at h; cases h
  | some y =>
    rw [hr] at h
    dsimp only at h
    obtain ⟨y, q'⟩ := y
    dsimp only at h
    cases hr2 : rdT l q' 64 with
    | none => rw [hr2] at h; cases h
    | some z =>
      rw [hr2] at h
      dsimp only at h
      obtain ⟨z, q2⟩ := z
      by_cases ho : okG y z = true
      · rw [if_pos ho] at h
        simp only [Option.some.injEq, Prod.mk.injEq] at h
        obtain ⟨⟨rfl, rfl⟩, rfl⟩ := h
        obtain ⟨_, _, h3, h4, _⟩ := rdT_ok hr
        obtain ⟨_, _, h5, h6, _⟩ := rdT_ok hr2
        refine ⟨ho, ?_, ?_⟩
        · unfold bytesG; rw [List.append_assoc, ← h5, h3]
        · unfold bytesG; rw [List.length_append, h6, h4]; omega
      · rw [if_neg ho] at h; cases h
theorem decG_enc {l s : List UInt8} {p : Nat} {a r : List Int} (ho : okG a r = true) (h : l.drop p = bytesG a r ++ s) : decG l p = some ((a, r), p + (bytesG a r).length) := by
  obtain ⟨h1, h2, h3⟩ := (okG_iff a r).1 ho
  unfold bytesG at h ⊢
  rw [List.append_assoc] at h
  have hd : l.drop (p + (bytesT a).length) = bytesT r ++ s := by rw [← List.drop_drop, h, List.drop_left' rfl]
  unfold decG
  rw [rdT_enc h2 (by omega) (by omega) h]
  dsimp only
  rw [rdT_enc (all_known h3) (by omega) (by omega) hd]
  dsimp only
  rw [if_pos ho, List.length_append, Nat.add_assoc]

end Go.Proofs.YtgifflfjhockaaaGreatDoor.S

namespace Go.Proofs.YtgifflfjhockaaaGreatDoor.A
open Go.RowKit

abbrev str (l : List UInt8) : ByteArray := ⟨l.toArray⟩
/-- Texts as cells. -/
abbrev svs (l : List (List UInt8)) : List Value := l.map fun s => .string (str s)
/-- The name of a number; nothing, if there is none. -/
def nameAt (l : List (List UInt8)) (n : Int) : List UInt8 := if 0 ≤ n then l.getD n.toNat [] else []

theorem getD_at {l : List (List UInt8)} {k : Nat} (hk : k < l.length) : l.getD k [] = l[k] := by rw [List.getD_eq_getElem?_getD, List.getElem?_eq_getElem hk]; rfl
theorem getD_past {l : List (List UInt8)} {k : Nat} (hk : l.length ≤ k) : l.getD k [] = [] := by rw [List.getD_eq_getElem?_getD, List.getElem?_eq_none hk]; rfl
end Go.Proofs.YtgifflfjhockaaaGreatDoor.A

namespace Go.Proofs.YtgifflfjhockaaaGreatDoor.A
open Go.RowKit

def binNs : List (List UInt8) := [[97, 100, 100], [115, 117, 98], [109, 117, 108], [100, 105, 118], [114, 101, 109], [97, 110, 100], [111, 114], [120, 111, 114], [97, 110, 100, 110, 111, 116], [115, 104, 108], [115, 104, 114], [108, 116], [108, 101], [101, 113]]
def unNs : List (List UInt8) := [[110, 101, 103], [110, 111, 116], [122, 101, 114, 111], [105, 56], [105, 49, 54], [105, 51, 50], [117, 56], [117, 49, 54], [117, 51, 50]]
end Go.Proofs.YtgifflfjhockaaaGreatDoor.A

namespace Go.Proofs.YtgifflfjhockaaaGreatDoor.O

/-- An instruction's row. -/
structure Row where
  name : List UInt8
  ka : Int
  kb : Int
  ta : Int
  tb : Int
  la : Int
  lb : Int
  hop : Bool
  fin : Bool

def rowsL : List Row := [
  ⟨[110, 111, 112], 0, 0, 0, 0, 0, 0, false, false⟩,
  ⟨[105, 110, 116], 1, 0, 0, 0, 1, 0, false, false⟩,
  ⟨[122, 101, 114, 111], 2, 0, 0, 0, -1, 0, false, false⟩,
  ⟨[108, 111, 97, 100], 4, 0, 0, 0, 0, 0, true, false⟩,
  ⟨[115, 116, 111, 114, 101], 4, 0, 0, 0, 0, 0, true, false⟩,
  ⟨[97, 100, 100, 114], 4, 0, 0, 0, 4, 0, false, false⟩,
  ⟨[108, 100, 112], 0, 0, 4, 0, 1, 0, false, false⟩,
  ⟨[115, 116, 112], 0, 0, 4, 1, 0, 0, false, false⟩,
  ⟨[110, 101, 119], 5, 0, 0, 0, 2, 0, false, false⟩,
  ⟨[103, 101, 116], 6, 3, 2, 0, -2, 0, false, false⟩,
  ⟨[115, 101, 116], 6, 3, 2, -2, 0, 0, false, false⟩,
  ⟨[102, 117, 110, 99], 7, 0, 0, 0, 3, 0, false, false⟩,
  ⟨[100, 117, 112], 0, 0, 0, 0, 0, 0, true, false⟩,
  ⟨[100, 114, 111, 112], 0, 0, 0, 0, 0, 0, true, false⟩,
  ⟨[115, 119, 97, 112], 0, 0, 0, 0, 0, 0, true, false⟩,
  ⟨[98, 105, 110], 8, 0, 1, 1, 1, 0, false, false⟩,
  ⟨[117, 110], 9, 0, 1, 0, 1, 0, false, false⟩,
  ⟨[101, 113], 2, 0, -1, -1, 1, 0, false, false⟩,
  ⟨[106, 109, 112], 10, 0, 0, 0, 0, 0, false, true⟩,
  ⟨[106, 122], 10, 0, 1, 0, 0, 0, false, false⟩,
  ⟨[99, 97, 108, 108], 7, 0, 0, 0, 0, 0, true, false⟩,
  ⟨[99, 97, 108, 108, 105], 7, 0, 0, 0, 0, 0, true, false⟩,
  ⟨[100, 101, 102, 101, 114], 7, 0, 0, 0, 0, 0, true, false⟩,
  ⟨[100, 101, 102, 101, 114, 105], 7, 0, 0, 0, 0, 0, true, false⟩,
  ⟨[114, 101, 116], 0, 0, 0, 0, 0, 0, false, true⟩,
  ⟨[112, 97, 110, 105, 99], 0, 0, 1, 0, 0, 0, false, true⟩,
  ⟨[114, 101, 99, 111, 118, 101, 114], 0, 0, 0, 0, 1, 1, false, false⟩,
  ⟨[103, 111, 101, 120, 105, 116], 0, 0, 0, 0, 0, 0, false, true⟩,
  ⟨[112, 114, 105, 110, 116], 0, 0, 1, 0, 0, 0, false, false⟩,
  ⟨[105, 110], 0, 0, 0, 0, 1, 1, false, false⟩]
theorem rows_length : rowsL.length = 30 := rfl

def row0 : Row := ⟨[], 0, 0, 0, 0, 0, 0, false, false⟩
/-- Is the number an instruction's? -/
def isOp (op : Int) : Bool := decide (0 ≤ op ∧ op < 30)
/-- The row of a number; an empty one, if it is no instruction's. -/
def rowAt (op : Int) : Row := if isOp op = true then rowsL.getD op.toNat row0 else row0

/-- The least and the greatest number of a kind of operands. -/
def lo (k : Int) : Int := if k = 1 then -9223372036854775808 else if k = 2 ∨ k = 3 then 1 else 0
def hi (k : Int) : Int :=
  if k = 1 then 9223372036854775807 else if k = 2 then 4 else if k = 3 then 3 else if k = 4 ∨ k = 5 ∨ k = 7 then 63 else if k = 6 then 15 else if k = 8 then 13 else if k = 9 then 8 else if k = 10 then 511 else 0
def inK (k n : Int) : Bool := decide (lo k ≤ n ∧ n ≤ hi k)
/-- May the instruction be? -/
def okI (op a b : Int) : Bool := isOp op && inK (rowAt op).ka a && inK (rowAt op).kb b

theorem isOp_yes {op : Int} (h : isOp op = true) : 0 ≤ op ∧ op < 30 := of_decide_eq_true h
theorem isOp_no {op : Int} (h : isOp op = false) : ¬ (0 ≤ op ∧ op < 30) := of_decide_eq_false h
theorem rowAt_no {op : Int} (h : isOp op = false) : rowAt op = row0 := by unfold rowAt; rw [if_neg (by rw [h]; decide)]
theorem rowAt_yes {op : Int} (h : isOp op = true) : ∃ hk : op.toNat < rowsL.length, rowAt op = rowsL[op.toNat] := by
  have hb := isOp_yes h
  have hk : op.toNat < rowsL.length := by rw [rows_length]; omega
  refine ⟨hk, ?_⟩
  unfold rowAt
  rw [if_pos h, List.getD_eq_getElem?_getD, List.getElem?_eq_getElem hk]; rfl

/-- What holds of each row, and of the empty one, holds of each number's. -/
theorem rowAt_all {p : Row → Bool} (h : rowsL.all p = true) (h0 : p row0 = true) (op : Int) : p (rowAt op) = true := by
  cases ho : isOp op
  · rw [rowAt_no ho]; exact h0
  · obtain ⟨hk, e⟩ := rowAt_yes ho
    rw [e]; exact List.all_eq_true.1 h _ (List.getElem_mem hk)

/-- An operand's text. -/
def word (k n : Int) : List UInt8 := if k = 2 ∨ k = 3 then W.letC n else if k = 8 then A.nameAt A.binNs n else if k = 9 then A.nameAt A.unNs n else Lib.itoa n
/-- An operand's bytes. -/
def encP (k n : Int) : List UInt8 := if k = 0 then [] else if k = 1 then V.encL (V.zig n) else V.encL n.toNat
def bytesI (op a b : Int) : List UInt8 := V.encL op.toNat ++ (encP (rowAt op).ka a ++ encP (rowAt op).kb b)
def encI (op a b : Int) : List UInt8 := if okI op a b = true then bytesI op a b else []

theorem ok_op {op a b : Int} (h : okI op a b = true) : isOp op = true ∧ inK (rowAt op).ka a = true ∧ inK (rowAt op).kb b = true := by
  unfold okI at h
  simp only [Bool.and_eq_true] at h
  exact ⟨h.1.1, h.1.2, h.2⟩

end Go.Proofs.YtgifflfjhockaaaGreatDoor.O

namespace Go.Proofs.YtgifflfjhockaaaGreatDoor.O
open Go.RowKit

abbrev str (l : List UInt8) : ByteArray := ⟨l.toArray⟩
/-- A row's cells; those of all rows. -/
def rowC (r : Row) : Array Value := #[.string (str r.name), .int .i64 r.ka, .int .i64 r.kb, .int .i64 r.ta, .int .i64 r.tb, .int .i64 r.la, .int .i64 r.lb, .bool r.hop, .bool r.fin]
def tableC : Array Value := (rowsL.flatMap fun r => (rowC r).toList).toArray

theorem wpList_build_to {P : Program} {ops : Array Oper} {rest : List Oper} {o : Oper} {a : Act} {w : World} {Q : Exit → Act → World → Prop} (hg : o.guard = none) (t : TypeId) (parts : Array (Nat × Operand)) (ho : o.op = .build t parts)
    (cells : Array Value) (hf : P.built t (parts.map fun (i, x) => (i, a.eval x)).toList = some cells)
    (h : wpList P ops Q rest (a.put o.dst (.agg cells)) w) : wpList P ops Q (o :: rest) a w :=
  wpList_build hg t parts ho (by rw [hf]; rfl) (by rw [hf]; exact h)

/-- A result that lies in memory whole. -/
theorem results_cell {P : Program} {fn : Func} {tmps : Array Value} {a : Tmp} {t : TypeId} {ad : Addr} {v : Value} {w : World} (hr : fn.results = #[.cell a t]) (ha : tmps.getD a undef = .pointer (some ad))
    (hl : (loadVar t ad).run P w = .ok v w) : (results fn tmps).run P w = .ok v w := by
  have hq : (asAddr (.pointer (some ad))).run P w = .ok ad w := by simp [go_sem]
  unfold results
  rw [hr]
  simp only [Array.mapM_eq_mapM_toList, List.mapM_cons, List.mapM_nil]
  simp [ha, hq, hl]

theorem row_part : ∀ n : Nat, n < 30 → tableC.extract (n * 9) (n * 9 + 9) = rowC (rowsL.getD n row0) := by
  intro n h
  obtain rfl | rfl | rfl | rfl | rfl | rfl | rfl | rfl | rfl | rfl | rfl | rfl | rfl | rfl | rfl | rfl | rfl | rfl | rfl | rfl | rfl | rfl | rfl | rfl | rfl | rfl | rfl | rfl | rfl | rfl :
    n = 0 ∨ n = 1 ∨ n = 2 ∨ n = 3 ∨ n = 4 ∨ n = 5 ∨ n = 6 ∨ n = 7 ∨ n = 8 ∨ n = 9 ∨ n = 10 ∨ n = 11 ∨ n = 12 ∨ n = 13 ∨ n = 14 ∨ n = 15 ∨ n = 16 ∨ n = 17 ∨ n = 18 ∨ n = 19 ∨ n = 20 ∨ n = 21 ∨ n = 22 ∨ n = 23 ∨ n = 24 ∨ n = 25 ∨ n = 26 ∨ n = 27 ∨ n = 28 ∨ n = 29 := by omega
  all_goals kernel_rfl

theorem table_info : (Tryz.prog.info? 300).map (·.size) = some tableC.size := by kernel_rfl
theorem zero_size : Tryz.zeroCells300.size = tableC.size := by kernel_rfl
theorem table_one : tableC.all (·.oneCell') = true := by kernel_rfl

set_option maxRecDepth 100000 in
set_option maxHeartbeats 4000000 in
theorem table_any (w : World) : Calls Tryz.prog 224 #[] w fun e w' => e = .returned (.agg tableC) ∧ Keep NoB w w' := by
  go_enter Tryz.func224, Tryz.ntmps224
  go_wp2_with (first
    | (refine wpList_build_to rfl 300 _ rfl tableC (by kernel_rfl) ?_)
    | (refine wpList_store_row rfl 300 _ _ rfl w.heap.size tableC rfl rfl 300 _ (heap_alloc_last w _) table_info zero_size table_one ?_; rw [World.setRow_alloc_new]))
  exact bodyPost_ret (v := .agg tableC) (results_cell rfl rfl (run_loadVar_new (P := Tryz.prog) w 300 tableC 30 _ Tryz.underlying300 table_info)) rfl ⟨rfl, (Keep.refl NoB w).alloc _⟩

theorem run_index_row (op : Int) (h : isOp op = true) (w : World) : (Instr.index 300 (.agg tableC) (.int .i64 op)).run Tryz.prog w = .ok (.agg (rowC (rowAt op))) w := by
  have hb := isOp_yes h
  have e : rowAt op = rowsL.getD op.toNat row0 := by unfold rowAt; rw [if_pos h]
  have hp := row_part op.toNat (by omega)
  have hi : (sizeOf 259).run Tryz.prog w = .ok 9 w := Tryz.sizeOf259 w
  unfold Instr.index
  simp [run_underlying Tryz.underlying300, asIntOf, hb.1, hb.2, hi, part, hp, e]

end Go.Proofs.YtgifflfjhockaaaGreatDoor.O

namespace Go.Proofs.YtgifflfjhockaaaGreatDoor
open Go.RowKit

/-- A world that keeps all that lay in w0. -/
structure KW (w0 : World) where
  w : World
  keep : Keep NoB w0 w
instance kwNonempty (w0 : World) : Nonempty (KW w0) := ⟨⟨w0, Keep.refl _ _⟩⟩

theorem wp_region_kept {P : Program} {id : Nat} {Q : Exit → Act → World → Prop} {a : Act} {w : World} {l : List Oper} (w0 : World) (hm : P.follows .mixedOrders = true) (hB : Region.lexB .any l.toArray = true) (hw : Keep NoB w0 w)
    (h : wpQuiet P l.toArray (fun w' => ∃ n : KW w0, w' = n.w) (fun a' => ∀ w', (∃ n : KW w0, w' = n.w) → Q .normal a' w') l a) : (Code.region id l.toArray true).wp P Q a w :=
  wp_region_quiet (C := fun w' => ∃ n : KW w0, w' = n.w) hm hB ⟨⟨_, hw.drew⟩, rfl⟩ (by simpa using h)

/-- A callee's contract, met in such a world. -/
theorem kept_of {P : Program} {f : FuncId} {args : Array Value} {w0 : World} {n : KW w0} {v : Value}
    (h : Calls P f args n.w fun e w' => e = .returned v ∧ Keep NoB n.w w') : Calls P f args n.w fun e w'' => e = .returned v ∧ ∃ m : KW w0, w'' = m.w :=
  h.mono fun _ _ ⟨he, hk⟩ => ⟨he, ⟨_, keepN n.keep hk⟩, rfl⟩

/-- A cell that lay in w0 lies in each such world. -/
theorem KW.cell {w0 : World} {p : Addr} {v : Value} (h : w0.cell? p = some v) (n : KW w0) : n.w.cell? p = some v := n.keep.cell h id

end Go.Proofs.YtgifflfjhockaaaGreatDoor

namespace Go.Proofs.YtgifflfjhockaaaGreatDoor
open Go.RowKit

/-- What stays when memory is made. -/
def StableI (I : World → Prop) : Prop := ∀ w w', I w → Keep NoB w w' → I w'
theorem StableI.and {I J : World → Prop} (h : StableI I) (h' : StableI J) : StableI fun w => I w ∧ J w := fun w w' hw hk => ⟨h w w' hw.1 hk, h' w w' hw.2 hk⟩
theorem stable_blk (g : Nat) (o : Obj) : StableI fun w => w.heap[g]? = some o := fun _ _ h hk => (hk.block g (Array.getElem?_eq_some_iff.1 h).1 id).trans h
theorem stable_keep (w0 : World) : StableI fun w => Keep NoB w0 w := fun _ _ h hk => keepN h hk

/-- The operations that make a block. -/
def isMake (o : Oper) : Bool := match o.op with
  | .alloc _ => true
  | .buildSlice .. => true
  | .makeSlice .. => true
  | _ => false

section
variable {P : Program} {ops : Array Oper} {md : Region.Mode}

/-- The operation yields a value, at once or by a call. -/
def yieldsR (R : Value → World → Prop) : Program → Result Next → Prop
  | _, .ok (.value u) w' => R u w'
  | _, .ok .skip w' => R undef w'
  | P, .ok (.enter f args) w' => Calls P f args w' fun e w'' => ∃ u, e = .returned u ∧ R u w''
  | _, _ => False
def yieldsK (P : Program) (o : Oper) (a : Act) (w : World) (R : Value → World → Prop) : Prop := yieldsR R P ((execOp a.eval o).run P w)

def Quiet1 (P : Program) (o : Oper) (a : Act) (I : World → Prop) (v : Value) : Prop := ∀ w, I w → yieldsK P o a w fun u w' => u = v ∧ Keep NoB w w'
def Gen1 (P : Program) (o : Oper) (a : Act) (I : World → Prop) (V : Value → World → Prop) : Prop := (∀ v, StableI (V v)) ∧ ∀ w, I w → yieldsK P o a w fun u w' => V u w' ∧ Keep NoB w w'
def Make1 (P : Program) (o : Oper) (a : Act) (mk : Nat → Value) (obj : Obj) : Prop := ∀ w, (execOp a.eval o).run P w = .ok (.value (mk w.heap.size)) (w.alloc obj)

abbrev Kont := Act → (World → Prop) → Prop

/-- Operation number i comes up. -/
def mOp (P : Program) (ops : Array Oper) (gen : Bool) (i : Nat) (K : Kont) (a : Act) (I : World → Prop) : Prop :=
  match ops[i]? with
  | none => K a I
  | some o =>
    if Region.wanted o (yielded ops a.tmps) then
      (if isMake o then ∃ mk obj, Make1 P o a mk obj ∧ ∀ g, K (a.put o.dst (mk g)) fun w => I w ∧ w.heap[g]? = some obj
       else (∃ v, Quiet1 P o a I v ∧ K (a.put o.dst v) I) ∨ (gen = true ∧ ∃ V, Gen1 P o a I V ∧ ∀ v, K (a.put o.dst v) fun w => I w ∧ V v w))
    else K (a.put o.dst undef) I

theorem mOp_mono {gen gen' : Bool} {i : Nat} {a : Act} {I : World → Prop} {K K' : Kont} (hg : gen = true → gen' = true) (h : ∀ a I, K a I → K' a I) (hh : mOp P ops gen i K a I) : mOp P ops gen' i K' a I := by
  unfold mOp at *
  split
  · rename_i ho; simp only [ho] at hh; exact h _ _ hh
  · rename_i o ho
    simp only [ho] at hh
    split
    · rename_i hw
      simp only [hw, if_true] at hh
      split
      · rename_i hm
        simp only [hm, if_true] at hh
        obtain ⟨mk, obj, h1, h2⟩ := hh
        exact ⟨mk, obj, h1, fun g => h _ _ (h2 g)⟩
      · rename_i hm
        simp only [hm] at hh
        rcases hh with ⟨v, h1, h2⟩ | ⟨hgen, V, h1, h2⟩
        · exact .inl ⟨v, h1, h _ _ h2⟩
        · exact .inr ⟨hg hgen, V, h1, fun v => h _ _ (h2 v)⟩
    · rename_i hw; simp only [hw] at hh; exact h _ _ hh

/-- Whatever order is picked from here on. -/
def wpAnyM (P : Program) (md : Region.Mode) (ops : Array Oper) (Q : Act → World → Prop) : Nat → Array Bool → Act → (World → Prop) → Prop
  | 0, listed, a, I => Region.ready md ops listed = [] ∧ ∀ w, I w → Q a w
  | fuel + 1, listed, a, I =>
    (Region.ready md ops listed = [] → ∀ w, I w → Q a w) ∧
    ∀ i ∈ Region.ready md ops listed, mOp P ops true i (wpAnyM P md ops Q fuel (listed.setIfInBounds i true)) a I

theorem Oper.wp_of_yields {o : Oper} {a : Act} {w : World} {K' : Act → World → Prop} {Q' : Exit → Act → World → Prop} {R : Value → World → Prop} (h : yieldsK P o a w R) (hK : ∀ u w', R u w' → K' (a.put o.dst u) w') : o.wp P a w K' Q' := by
  unfold yieldsK at h
  unfold Oper.wp
  generalize (execOp a.eval o).run P w = r at *
  cases r with
  | ok n w' =>
    cases n <;> simp only [yieldsR] at h <;> simp only [Oper.upon]
    case value u => exact hK _ _ h
    case skip => exact hK _ _ h
    case enter f args => exact h.mono fun e w'' ⟨u, he, hr⟩ => by subst he; exact hK _ _ hr
  | halt x w' => simp only [yieldsR] at h

theorem wpOp_of_mOp {gen : Bool} {i : Nat} {a : Act} {I : World → Prop} {K : Kont} {K' : Act → World → Prop} {Q' : Exit → Act → World → Prop} {w : World} (hI : StableI I) (hw0 : I w)
    (h : ∀ a I w', StableI I → I w' → K a I → K' a w') (hh : mOp P ops gen i K a I) : wpOp P ops Q' i K' a w := by
  unfold mOp at hh
  unfold wpOp
  split
  · rename_i ho; simp only [ho] at hh; exact h _ _ _ hI hw0 hh
  · rename_i o ho
    simp only [ho] at hh
    split
    · rename_i hw
      simp only [hw, if_true] at hh
      refine .inl ?_
      split at hh
      · obtain ⟨mk, obj, h1, h2⟩ := hh
        have hk : Keep NoB w (w.alloc obj) := (Keep.refl _ _).alloc _
        have hy : yieldsK P o a w fun u w' => u = mk w.heap.size ∧ w' = w.alloc obj := by unfold yieldsK; rw [h1 w]; exact ⟨rfl, rfl⟩
        refine Oper.wp_of_yields hy ?_
        rintro u w' ⟨rfl, rfl⟩
        exact h _ _ _ (hI.and (stable_blk _ _)) ⟨hI _ _ hw0 hk, heap_alloc_new w obj⟩ (h2 _)
      · rcases hh with ⟨v, h1, h2⟩ | ⟨_, V, h1, h2⟩
        · refine Oper.wp_of_yields (h1 w hw0) ?_
          rintro u w' ⟨rfl, hk⟩
          exact h _ _ _ hI (hI _ _ hw0 hk) h2
        · refine Oper.wp_of_yields (h1.2 w hw0) ?_
          rintro u w' ⟨hv, hk⟩
          exact h _ _ _ (hI.and (h1.1 u)) ⟨hI _ _ hw0 hk, hv⟩ (h2 u)
    · rename_i hw; simp only [hw] at hh; exact h _ _ _ hI hw0 hh

/-- It is a wpAny, from every world of the class. -/
theorem wpAny_of_M {Q : Act → World → Prop} {Q' : Exit → Act → World → Prop} (hQ : ∀ a w, Q a w → Q' .normal a w) : ∀ (fuel : Nat) (listed : Array Bool) (a : Act) (I : World → Prop) (w : World), StableI I → I w →
    wpAnyM P md ops Q fuel listed a I → wpAny P md ops Q' fuel listed a w
  | 0, _, _, _, _, _, hw, h => ⟨h.1, hQ _ _ (h.2 _ hw)⟩
  | fuel + 1, _, _, _, _, hI, hw, h => ⟨fun h0 => hQ _ _ (h.1 h0 _ hw), fun i hi => wpOp_of_mOp hI hw (fun a' I' w' hI' hw' hk => wpAny_of_M hQ fuel _ a' I' w' hI' hw' hk) (h.2 i hi)⟩

/-- In every world of the class the operation leaves v, and makes memory at most. -/
def YM (P : Program) (ops : Array Oper) (o : Oper) (v : Value) (a : Act) (I : World → Prop) : Prop :=
  (Region.wanted o (yielded ops a.tmps) = true ∧ isMake o = false ∧ Quiet1 P o a I v) ∨ (Region.wanted o (yielded ops a.tmps) = false ∧ v = undef)

theorem YM.mOp {i : Nat} {o : Oper} {v : Value} {a : Act} {I : World → Prop} (hi : ops[i]? = some o) (hy : YM P ops o v a I) {K : Kont} (h : K (a.put o.dst v) I) : mOp P ops true i K a I := by
  unfold Go.Proofs.YtgifflfjhockaaaGreatDoor.mOp
  simp only [hi]
  rcases hy with ⟨hw, hm, hv⟩ | ⟨hw, rfl⟩
  · simp only [hw, if_true, hm, Bool.false_eq_true, if_false]; exact .inl ⟨v, hv, h⟩
  · simp only [hw, Bool.false_eq_true, if_false]; exact h

theorem YM.of_same {o : Oper} {v : Value} {a a' : Act} {I I' : World → Prop} (hy : YM P ops o v a I) (hI : ∀ w, I' w → I w) (he : execOp a'.eval o = execOp a.eval o)
    (hw : Region.wanted o (yielded ops a'.tmps) = Region.wanted o (yielded ops a.tmps)) : YM P ops o v a' I' := by
  unfold YM Quiet1 yieldsK at *
  rw [he, hw]
  exact hy.imp (fun ⟨h1, h2, h3⟩ => ⟨h1, h2, fun w h => h3 w (hI w h)⟩) id

/-- An operation oj, apart from oi: whether oi's value is already there makes no difference to it, and it makes none to oi. -/
theorem mOp_put {j : Nat} {oi oj : Oper} {v : Value} (hj : ops[j]? = some oj) (hap : oi.apart ops oj = true)
    (hsi : ∀ cs b, oi.op ≠ .select cs b) (hsj : ∀ cs b, oj.op ≠ .select cs b) {K : Kont} {a : Act} {I : World → Prop}
    (hy : YM P ops oi v a I) (h : mOp P ops true j K (a.put oi.dst v) I) :
    mOp P ops true j (fun a' I' => YM P ops oi v a' I' ∧ K (a'.put oi.dst v) I') a I := by
  obtain ⟨h1, h2, h3⟩ := Oper.apart_spec hap
  have keep : ∀ u, ∀ I' : World → Prop, (∀ w, I' w → I w) → YM P ops oi v (a.put oj.dst u) I' := fun u I' hI =>
    hy.of_same hI (execOp_put oi hsi a oj.dst u h3) (wanted_put oi a oj.dst u h3)
  unfold mOp at *
  simp only [hj] at *
  rw [wanted_put oj a oi.dst v h1] at h
  split
  · rename_i hw
    simp only [hw, if_true] at h
    split
    · rename_i hm
      simp only [hm, if_true] at h
      obtain ⟨mk, obj, k1, k2⟩ := h
      refine ⟨mk, obj, ?_, fun g => ⟨keep _ _ (fun w hw => hw.1), by rw [← Act.put_comm a v (mk g) h2]; exact k2 g⟩⟩
      unfold Make1 at *
      rwa [execOp_put oj hsj a oi.dst v h1] at k1
    · rename_i hm
      simp only [hm] at h
      rcases h with ⟨u, k1, k2⟩ | ⟨hg, V, k1, k2⟩
      · refine .inl ⟨u, ?_, keep u _ (fun _ h => h), by rw [← Act.put_comm a v u h2]; exact k2⟩
        unfold Quiet1 yieldsK at *
        rwa [execOp_put oj hsj a oi.dst v h1] at k1
      · refine .inr ⟨by simp, V, ?_, fun u => ⟨keep u _ (fun _ h => h.1), by rw [← Act.put_comm a v u h2]; exact k2 u⟩⟩
        unfold Gen1 yieldsK at *
        rwa [execOp_put oj hsj a oi.dst v h1] at k1
  · rename_i hw
    simp only [hw] at h
    exact ⟨keep _ _ (fun _ h => h), by rw [← Act.put_comm a v undef h2]; exact h⟩

theorem not_waits {i : Nat} {oj : Oper} {listed : Array Bool} (hr : i ∈ Region.ready md ops listed) (hall : ∀ e ∈ oj.after, Region.binds md e = true → listed.getD e.on false = true) :
    ∀ e ∈ oj.after, Region.binds md e = true → e.on ≠ i := fun e he hb heq => by
  have h1 := hall e he hb
  have h0 := (mem_ready.1 hr).1
  rw [heq] at h1
  rcases Nat.lt_or_ge i listed.size with h' | h'
  · simp [h'] at h0 h1; rw [h0] at h1; cases h1
  · simp [Array.getElem?_eq_none h'] at h1

/-- A quiet operation that may come up now may be taken first. -/
theorem wpAnyM_first {Q : Act → World → Prop} {i : Nat} {oi : Oper} {v : Value} (hi : ops[i]? = some oi) (hsel : ∀ (j : Nat) (o : Oper) cs b, ops[j]? = some o → o.op ≠ .select cs b) :
    ∀ (fuel : Nat) (listed : Array Bool) (a : Act) (I : World → Prop),
      (∀ j oj, ops[j]? = some oj → j ≠ i → listed.getD j true = false → (∀ e ∈ oj.after, Region.binds md e = true → e.on ≠ i) → oi.apart ops oj = true) →
      i ∈ Region.ready md ops listed → YM P ops oi v a I →
      wpAnyM P md ops Q fuel (listed.setIfInBounds i true) (a.put oi.dst v) I → wpAnyM P md ops Q (fuel + 1) listed a I := by
  intro fuel
  induction fuel with
  | zero =>
    intro listed a I _ hr hy H
    refine ⟨fun h => (by rw [h] at hr; cases hr), fun j hj => ?_⟩
    by_cases hji : j = i
    · subst hji; exact hy.mOp hi H
    · have := ready_mono hj hji
      rw [H.1] at this
      cases this
  | succ fuel ih =>
    intro listed a I hfree hr hy H
    refine ⟨fun h => (by rw [h] at hr; cases hr), fun j hj => ?_⟩
    by_cases hji : j = i
    · subst hji; exact hy.mOp hi H
    · have h1 := H.2 j (ready_mono hj hji)
      obtain ⟨hjun, oj, hoj, hall⟩ := mem_ready.1 hj
      have h2 := mOp_put hoj (hfree j oj hoj hji hjun (not_waits hr hall)) (fun cs b => hsel i oi cs b hi) (fun cs b => hsel j oj cs b hoj) hy h1
      have hfree' : ∀ k ok, ops[k]? = some ok → k ≠ i → (listed.setIfInBounds j true).getD k true = false →
          (∀ e ∈ ok.after, Region.binds md e = true → e.on ≠ i) → oi.apart ops ok = true := fun k ok hk hki hun hno => by
        refine hfree k ok hk hki ?_ hno
        by_cases hjk : j = k
        · subst hjk; exact hjun
        · rw [getD_set_ne true hjk] at hun; exact hun
      refine mOp_mono id (fun a' I' h3 => ih (listed.setIfInBounds j true) a' I' hfree' (ready_mono hr (Ne.symm hji)) h3.1 ?_) h2
      rw [Array.setIfInBounds_comm _ _ hji]
      exact h3.2

/-- Until number i comes up nothing but what makes a block does. -/
def onlyMakes (md : Region.Mode) (ops : Array Oper) (i : Nat) : Nat → Array Bool → Bool
  | 0, _ => false
  | fuel + 1, listed => (Region.ready md ops listed).all fun j => j == i || ((ops[j]?).map isMake).getD false && onlyMakes md ops i fuel (listed.setIfInBounds j true)

theorem make_same {o : Oper} {a : Act} {mk mk' : Nat → Value} {obj obj' : Obj} (h : Make1 P o a mk obj) (h' : Make1 P o a mk' obj') : mk' = mk ∧ obj' = obj := by
  have key : ∀ w : World, mk' w.heap.size = mk w.heap.size ∧ w.alloc obj' = w.alloc obj := fun w => by
    have e := (h' w).symm.trans (h w)
    injection e with e1 e2
    injection e1 with e1
    exact ⟨e1, e2⟩
  refine ⟨funext fun n => ?_, ?_⟩
  · have := (key { heap := Array.replicate n obj, tape := fun _ _ => 0, drawn := 0, os := default, output := #[] }).1
    simpa using this
  · have := (key { heap := #[], tape := fun _ _ => 0, drawn := 0, os := default, output := #[] }).2
    have e := congrArg (fun w : World => w.heap[0]?) this
    have a1 : ∀ (w : World) (o : Obj), w.heap = #[] → (w.alloc o).heap[0]? = some o := fun w o hw => by
      have := heap_alloc_new w o
      rwa [hw] at this
    rw [a1 _ _ rfl, a1 _ _ rfl] at e
    exact Option.some.inj e

/-- An operation that makes a block may be taken first, if nothing else but such may come up ahead of it. -/
theorem wpAnyM_make {Q : Act → World → Prop} {i : Nat} {oi : Oper} (hi : ops[i]? = some oi) (hm : isMake oi = true) (hsel : ∀ (j : Nat) (o : Oper) cs b, ops[j]? = some o → o.op ≠ .select cs b) {mk : Nat → Value} {obj : Obj} :
    ∀ (fuel n : Nat) (listed : Array Bool) (a : Act) (I : World → Prop),
      (∀ j oj, ops[j]? = some oj → j ≠ i → listed.getD j true = false → (∀ e ∈ oj.after, Region.binds md e = true → e.on ≠ i) → oi.apart ops oj = true) →
      onlyMakes md ops i n listed = true → i ∈ Region.ready md ops listed → Region.wanted oi (yielded ops a.tmps) = true → Make1 P oi a mk obj →
      (∀ g, wpAnyM P md ops Q fuel (listed.setIfInBounds i true) (a.put oi.dst (mk g)) fun w => I w ∧ w.heap[g]? = some obj) → wpAnyM P md ops Q (fuel + 1) listed a I := by
  intro fuel
  have own : ∀ (fuel : Nat) (listed : Array Bool) (a : Act) (I : World → Prop), Region.wanted oi (yielded ops a.tmps) = true → Make1 P oi a mk obj →
      (∀ g, wpAnyM P md ops Q fuel (listed.setIfInBounds i true) (a.put oi.dst (mk g)) fun w => I w ∧ w.heap[g]? = some obj) → mOp P ops true i (wpAnyM P md ops Q fuel (listed.setIfInBounds i true)) a I := by
    intro fuel listed a I hw hk H
    unfold mOp
    simp only [hi, hw, if_true, hm]
    exact ⟨mk, obj, hk, H⟩
  induction fuel with
  | zero =>
    intro n listed a I _ _ hr hw hk H
    refine ⟨fun h => (by rw [h] at hr; cases hr), fun j hj => ?_⟩
    by_cases hji : j = i
    · subst hji; exact own _ _ _ _ hw hk H
    · have := ready_mono hj hji
      rw [(H 0).1] at this
      cases this
  | succ fuel ih =>
    intro n listed a I hfree hom hr hw hk H
    refine ⟨fun h => (by rw [h] at hr; cases hr), fun j hj => ?_⟩
    by_cases hji : j = i
    · subst hji; exact own _ _ _ _ hw hk H
    · obtain ⟨m, rfl⟩ : ∃ m, n = m + 1 := by
        cases n with
        | zero => cases hom
        | succ m => exact ⟨m, rfl⟩
      have hom' := List.all_eq_true.1 hom j hj
      obtain ⟨hjun, oj, hoj, hall⟩ := mem_ready.1 hj
      simp only [beq_iff_eq, hji, Bool.or_eq_true, false_or, hoj, Option.map_some, Option.getD_some, Bool.and_eq_true] at hom'
      obtain ⟨hmj, hom2⟩ := hom'
      have hap := hfree j oj hoj hji hjun (not_waits hr hall)
      obtain ⟨h1, h2, h3⟩ := Oper.apart_spec hap
      have hsi := fun cs b => hsel i oi cs b hi
      have hsj := fun cs b => hsel j oj cs b hoj
      have hfree' : ∀ k ok, ops[k]? = some ok → k ≠ i → (listed.setIfInBounds j true).getD k true = false →
          (∀ e ∈ ok.after, Region.binds md e = true → e.on ≠ i) → oi.apart ops ok = true := fun k ok hk hki hun hno => by
        refine hfree k ok hk hki ?_ hno
        by_cases hjk : j = k
        · subst hjk; exact hjun
        · rw [getD_set_ne true hjk] at hun; exact hun
      have on : ∀ (u : Value) (I' : World → Prop), (∀ g, wpAnyM P md ops Q fuel ((listed.setIfInBounds i true).setIfInBounds j true) ((a.put oi.dst (mk g)).put oj.dst u) fun w => I' w ∧ w.heap[g]? = some obj) →
          wpAnyM P md ops Q (fuel + 1) (listed.setIfInBounds j true) (a.put oj.dst u) I' := fun u I' hK => by
        refine ih m (listed.setIfInBounds j true) (a.put oj.dst u) I' hfree' hom2 (ready_mono hr (Ne.symm hji)) ?_ ?_ fun g => ?_
        · rw [wanted_put oi a oj.dst u h3]; exact hw
        · unfold Make1 at *; rw [execOp_put oi hsi a oj.dst u h3]; exact hk
        · rw [Array.setIfInBounds_comm _ _ hji, ← Act.put_comm a (mk g) u h2]; exact hK g
      have H1 : ∀ g, mOp P ops true j (wpAnyM P md ops Q fuel ((listed.setIfInBounds i true).setIfInBounds j true)) (a.put oi.dst (mk g)) fun w => I w ∧ w.heap[g]? = some obj := fun g => (H g).2 j (ready_mono hj hji)
      unfold mOp at H1 ⊢
      simp only [hoj, hmj, if_true] at H1 ⊢
      split
      · rename_i hwj
        have H2 : ∀ g, ∃ mk' obj', Make1 P oj (a.put oi.dst (mk g)) mk' obj' ∧ ∀ g', wpAnyM P md ops Q fuel ((listed.setIfInBounds i true).setIfInBounds j true) ((a.put oi.dst (mk g)).put oj.dst (mk' g')) fun w => (I w ∧ w.heap[g]? = some obj) ∧ w.heap[g']? = some obj' := fun g => by
          have := H1 g
          rwa [wanted_put oj a oi.dst (mk g) h1, if_pos hwj] at this
        have hmk : ∀ g mk' obj', Make1 P oj (a.put oi.dst (mk g)) mk' obj' → Make1 P oj a mk' obj' := fun g mk' obj' h => by
          unfold Make1 at *; rwa [execOp_put oj hsj a oi.dst (mk g) h1] at h
        obtain ⟨mkj, objj, k1, _⟩ := H2 0
        refine ⟨mkj, objj, hmk _ _ _ k1, fun g' => on _ _ fun g => ?_⟩
        obtain ⟨mk', obj', k1', k2⟩ := H2 g
        obtain ⟨rfl, rfl⟩ := make_same (hmk _ _ _ k1) (hmk _ _ _ k1')
        have e : (fun w : World => (I w ∧ w.heap[g']? = some obj') ∧ w.heap[g]? = some obj) = fun w => (I w ∧ w.heap[g]? = some obj) ∧ w.heap[g']? = some obj' := funext fun w => propext (and_right_comm)
        rw [e]
        exact k2 g'
      · rename_i hwj
        refine on _ _ fun g => ?_
        have := H1 g
        rwa [wanted_put oj a oi.dst (mk g) h1, if_neg hwj] at this

/-- The walk, in an order of one's own choice: true stands at an operation that comes up alone. -/
def wpM (P : Program) (ops : Array Oper) (Q : Act → World → Prop) : List (Nat × Bool) → Kont
  | [], a, I => ∀ w, I w → Q a w
  | (i, gen) :: rest, a, I => mOp P ops gen i (wpM P ops Q rest) a I

/-- The order may be chosen. -/
def orderM (md : Region.Mode) (ops : Array Oper) : List (Nat × Bool) → Array Bool → Bool
  | [], listed => (Region.ready md ops listed).isEmpty
  | (i, gen) :: rest, listed => (Region.ready md ops listed).contains i && (if gen then Region.ready md ops listed == [i] else Region.free md ops listed i && (!((ops[i]?).map isMake).getD false || onlyMakes md ops i ops.size listed)) && orderM md ops rest (listed.setIfInBounds i true)

theorem wpAnyM_order {Q : Act → World → Prop} (hs : Region.noSelect ops = true) : ∀ (l : List (Nat × Bool)) (listed : Array Bool) (a : Act) (I : World → Prop),
    orderM md ops l listed = true → wpM P ops Q l a I → wpAnyM P md ops Q l.length listed a I
  | [], _, _, _, hB, h => ⟨by simpa [orderM] using hB, h⟩
  | (i, gen) :: rest, listed, a, I, hB, h => by
    simp only [orderM, Bool.and_eq_true] at hB
    obtain ⟨⟨hr, hc⟩, hB'⟩ := hB
    have hr : i ∈ Region.ready md ops listed := by simpa using hr
    obtain ⟨_, oi, hi, _⟩ := mem_ready.1 hr
    have go := fun a' I' hK => wpAnyM_order (Q := Q) hs rest (listed.setIfInBounds i true) a' I' hB' hK
    cases gen with
    | true =>
      simp only [if_true, beq_iff_eq] at hc
      refine ⟨fun h => (by rw [h] at hr; cases hr), fun j hj => ?_⟩
      rw [hc] at hj
      obtain rfl := List.mem_singleton.1 hj
      exact mOp_mono id go h
    | false =>
      simp only [Bool.false_eq_true, if_false, Bool.and_eq_true, hi, Option.map_some, Option.getD_some, Bool.or_eq_true, Bool.not_eq_true'] at hc
      obtain ⟨hf, hmk⟩ := hc
      have hfree := Region.free_spec (md := md) hi hf
      change mOp P ops false i (wpM P ops Q rest) a I at h
      unfold mOp at h
      simp only [hi] at h
      split at h
      · rename_i hw
        split at h
        · rename_i hm
          obtain ⟨mk, obj, k1, k2⟩ := h
          rcases hmk with hmk | hmk
          · rw [hm] at hmk; cases hmk
          · exact wpAnyM_make hi hm (Region.noSelect_spec hs) rest.length ops.size listed a I hfree hmk hr hw k1 fun g => go _ _ (k2 g)
        · rename_i hm
          rcases h with ⟨v, k1, k2⟩ | ⟨hg, _⟩
          · exact wpAnyM_first hi (Region.noSelect_spec hs) rest.length listed a I hfree hr (.inl ⟨hw, by simpa using hm, k1⟩) (go _ _ k2)
          · cases hg
      · rename_i hw
        exact wpAnyM_first hi (Region.noSelect_spec hs) rest.length listed a I hfree hr (.inr ⟨by simpa using hw, rfl⟩) (go _ _ h)

/-- One walk serves every order. -/
theorem wp_region_mix {id : Nat} {Q : Exit → Act → World → Prop} {a : Act} {w : World} (l : List (Nat × Bool)) (I : World → Prop) (hm : P.follows .mixedOrders = true) (hs : Region.noSelect ops = true) (hl : l.length = ops.size)
    (hB : orderM .any ops l (Array.replicate ops.size false) = true) (hI : StableI I) (hw : I w.drew) (h : wpM P ops (Q .normal) l a I) : (Code.region id ops true).wp P Q a w :=
  wp_region_any hm (wpAny_of_M (Q := Q .normal) (fun _ _ h => h) _ _ _ I _ hI hw (by have := wpAnyM_order hs l _ a I hB h; rwa [hl] at this))

end
end Go.Proofs.YtgifflfjhockaaaGreatDoor
