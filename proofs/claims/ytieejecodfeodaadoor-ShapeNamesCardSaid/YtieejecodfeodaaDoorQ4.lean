/-
  The document's own Reel: Number, Signed, Raw, Bytes, End: as vary's. Conditions: no more than 2^47 bytes.
  Reading a number off bytes, and what the walks of shape share. No program, no conditions.
  The plain mathematics of shapes and signatures: which may be, their bytes, four types to one, and what is read of bytes. No program, no conditions.
  What halves answers: what is ahead of a text's first arrow, and behind it. No conditions.
  A region that draws its order, whose operations read, and whose calls may make memory but leave all that lay as it lay: one walk in the order of the text serves every order. No program, no conditions.
  A region that draws its order, whose operations read, call what may make memory, and make memory themselves, none of them writing what lay: one walk, in an order of one's own choice, serves every order. What was made is known by its block alone. No program, no conditions.
  The steps of a walk through a region by WMix. No program, no conditions.
-/
import Derived.BigQuiet
import Derived.Test.YtieejecodfeodaaDoorQ3
import Derived.Test.YtieejecodfeodaaDoorQ2
namespace Go.Proofs.YtieejecodfeodaaDoor.V
open Go.RowKit

/-- A reading method's end. -/
def RReads (w : World) (br : Nat) (O : Nat → Prop) (l : List UInt8) (q : Nat) (v : Value) (er : Nat) (e : Ending) (w' : World) : Prop :=
  e = .returned (.tuple #[v, .int .i64 er]) ∧ RefAt w' br O l q ∧ Keep (fun k => k = br) w w'

set_option maxRecDepth 100000 in
set_option maxHeartbeats 2000000 in
theorem refnumber_any (w : World) (br : Nat) (O : Nat → Prop) (l : List UInt8) (p most : Nat) (h : RefAt w br O l p) (hlen : l.length ≤ 140737488355328) :
    Calls Tryd.prog 76 #[.pointer (some ⟨br, 0, none⟩), .int .u64 most] w (RReads w br O l (NumR l p most).2.2 (.int .u64 (NumR l p most).1) (NumR l p most).2.1) := by
  have hx := nx_width (l.drop p)
  have hp := h.2.1
  rw [List.length_drop] at hx
  have HB := Lib.hid (fun R hR => reflook_any w br O l p h hlen R hR)
  unfold NumR bnd
  obtain ⟨⟨n, d, r⟩, hn⟩ : ∃ t, nx (l.drop p) = t := ⟨_, rfl⟩
  rw [hn] at hx ⊢
  have HL := Lib.hid (HB.out (n, d, r) hn.symm)
  clear hn HB
  dsimp only at hx ⊢
  by_cases hr : r = 0
  · subst hr
    rw [if_neg (by simp)]
    by_cases hm : most < n
    · rw [if_pos hm]
      go_enter Tryd.func76, Tryd.ntmps76
      go_wp2_with fail
      refine HL.out.mono ?_
      rintro e w1 ⟨he, hk1⟩
      unfold NxR at he
      subst he
      go_wp2
      go_ret2
      exact ⟨rfl, h.keep hk1 (fun _ _ => id), hk1.mono (fun _ hf _ => hf.elim)⟩
    · rw [if_neg hm]
      go_enter Tryd.func76, Tryd.ntmps76
      go_wp2_with fail
      refine HL.out.mono ?_
      rintro e w1 ⟨he, hk1⟩
      unfold NxR at he
      subst he
      have h1 := h.keep hk1 (fun _ _ => id)
      obtain ⟨A, c, hb1, _⟩ := h1.cells
      have q1 := hb1.cell 1
      have f1 := hb1.frozen 1
      simp at q1
      go_wp2
      go_ret2
      exact ⟨rfl, h.moved hk1 (by omega) (by omega)⟩
  · have hr1 : ((r : Int) != 0) = true := by rw [bne_iff_ne]; omega
    rw [if_pos hr]
    go_enter Tryd.func76, Tryd.ntmps76
    go_wp2_with fail
    refine HL.out.mono ?_
    rintro e w1 ⟨he, hk1⟩
    unfold NxR at he
    subst he
    go_wp2
    go_ret2
    exact ⟨rfl, h.keep hk1 (fun _ _ => id), hk1.mono (fun _ hf _ => hf.elim)⟩

/-- Bytes were taken, or there were too few of them. -/
def RTaken (w : World) (br : Nat) (O : Nat → Prop) (l : List UInt8) (p fr : Nat) (S : Int) (e : Ending) (w' : World) : Prop :=
  ((l.length : Int) - fr < S ∧ e = .returned (.tuple #[.slice none 0 0, .int .i64 10]) ∧ RefAt w' br O l p ∧ Keep (fun k => k = br) w w') ∨
  (S ≤ (l.length : Int) - fr ∧ ∃ A c, e = .returned (.tuple #[.slice A S.toNat c, .int .i64 0]) ∧ OwnB w' (Fresh w) (.slice A S.toNat c) ((l.drop fr).take S.toNat) ∧ RefAt w' br O l (fr + S.toNat) ∧ Keep (fun k => k = br) w w')

set_option maxRecDepth 100000 in
set_option maxHeartbeats 2000000 in
theorem refraw_any (w : World) (br : Nat) (O : Nat → Prop) (l : List UInt8) (p : Nat) (n : Int) (hRef : RefAt w br O l p) (hlen : l.length ≤ 140737488355328) (hm2 : n ≤ 9223372036854775807) :
    Calls Tryd.prog 77 #[.pointer (some ⟨br, 0, none⟩), .int .i64 n] w fun e w' =>
      (n < 0 ∧ e = .returned (.tuple #[.slice none 0 0, .int .i64 2]) ∧ RefAt w' br O l p ∧ Keep (fun k => k = br) w w') ∨ (0 ≤ n ∧ RTaken w br O l p p n e w') := by
  by_cases hn : n < 0
  · go_enter Tryd.func77, Tryd.ntmps77
    go_wp2
    go_ret2
    exact .inl ⟨hn, rfl, hRef, Keep.refl _ _⟩
  · obtain ⟨s, rfl⟩ := Int.eq_ofNat_of_zero_le (show 0 ≤ n by omega)
    have hp := hRef.2.1
    obtain ⟨A, c, hb1, hr, hc, hm, hA⟩ := hRef.cells
    have q0 := hb1.cell 0
    have q1 := hb1.cell 1
    simp at q0 q1
    unfold maxLen at hm
    have hws : IntKind.i64.wrap ((l.length : Int) - (p : Int)) = (l.length : Int) - (p : Int) := IntWalk.i64_in _ (by omega)
    by_cases hsh : (l.length : Int) - (p : Int) < (s : Int)
    · go_enter Tryd.func77, Tryd.ntmps77
      go_wp2
      go_quiet (fail)
      go_wp2
      go_ret2
      exact .inr ⟨by omega, .inl ⟨hsh, rfl, hRef.keep ((Keep.refl NoB w).drewN _) (fun _ _ => id), (Keep.refl _ w).drewN _⟩⟩
    · have hsh' : (s : Int) ≤ (l.length : Int) - (p : Int) := by omega
      have hs0 : (0 : Int) ≤ (p : Int) + (s : Int) := by omega
      have hs1 : (p : Int) + (s : Int) ≤ (c : Int) := by omega
      have hs2 : ((p : Int) + (s : Int)).toNat = p + s := by omega
      have hs4 : (p : Int) ≤ (p : Int) + (s : Int) := by omega
      have hcs : (c : Int) ≤ 9223372036854775807 := by omega
      have hwa : IntKind.i64.wrap ((p : Int) + (s : Int)) = (p : Int) + (s : Int) := IntWalk.i64_in _ (by omega)
      have hps : p + s - p = s := by omega
      have hpl : ((l.drop p).take s).length = s := by rw [List.length_take, List.length_drop]; omega
      have hrp := hr.part (c := c) (k := p) (m := s) hc
      have HT0 := Lib.hid (fun (wq : World) (hkq : Keep NoB w wq) (A' : Option Addr) (c' : Nat) (hA' : (if c = p then A else A.map (·.add p)) = A') => by
        have hrq := hrp.keep hkq (fun _ _ _ => id)
        have HT := twin_any wq.drew _ ((l.drop p).take s) c' (hrq.keep ((Keep.refl NoB wq).drew) (fun _ _ _ => id)) (by omega)
        rw [hpl, hA'] at HT
        exact HT)
      clear hrp
      go_enter Tryd.func77, Tryd.ntmps77
      go_wp2
      go_quiet (fail)
      obtain ⟨wq, hwq⟩ : ∃ wq, w.drewN nq = wq := ⟨_, rfl⟩
      rw [hwq]
      have hkq : Keep NoB w wq := hwq ▸ (Keep.refl NoB w).drewN nq
      clear hwq
      have hbq := hb1.keep hkq id
      have q0 := hbq.cell 0
      have q1 := hbq.cell 1
      simp at q0 q1
      go_wp2
      go_still_tail 15, (by kernel_rfl)
      change wpList _ _ _ _ _ wq.drew
      go_wp2_with fail
      all_goals
        first
          | refine (HT0.out wq hkq A 0 (if_pos ‹c = p›)).mono ?_
          | refine (HT0.out wq hkq (A.map (·.add p)) (c - p) (if_neg ‹¬ c = p›)).mono ?_
        rintro e w2 ⟨v, rfl, hv2, hk2⟩
        have hk02 := keepN hkq.drew hk2
        have hb2 := hb1.keep hk02 id
        obtain ⟨A2, c2, rfl, _⟩ := hv2.form
        rw [hpl] at hv2
        have q0 := hb2.cell 0
        have q1 := hb2.cell 1
        have f1 := hb2.frozen 1
        simp at q0 q1
        go_wp2
        go_ret2
        obtain ⟨m1, m2⟩ := hRef.moved (q := p + s) (Q := (p : Int) + s) hk02 (by omega) (by omega)
        have hbl := hb1.lt
        have hsz := hkq.size
        refine .inr ⟨by omega, .inr ⟨hsh', A2, c2, rfl, ?_, m1, m2⟩⟩
        exact (hv2.mono (O' := Fresh w) (fun k hk _ => Nat.le_trans hsz hk)).keep (O' := fun k => k = br) ((Keep.refl (fun k => k = br) w2).setCell (p := ⟨br, 1, none⟩) (fun _ => rfl) _) (fun k hk e => by unfold Fresh at hk; omega)

/-- What Bytes leaves. -/
def RBytesP (w : World) (br : Nat) (O : Nat → Prop) (l : List UInt8) (p : Nat) (b : Nat × Nat × Nat) (e : Ending) (w' : World) : Prop :=
  (b.2.2 ≠ 0 ∧ e = .returned (.tuple #[.slice none 0 0, .int .i64 b.2.2]) ∧ RefAt w' br O l p ∧ Keep (fun k => k = br) w w') ∨ (b.2.2 = 0 ∧ RTaken w br O l p (p + b.2.1) b.1 e w')

theorem refnumber_at (w : World) (br : Nat) (O : Nat → Prop) (l : List UInt8) (p most : Nat) (N : Int) (n r q : Nat) (h : RefAt w br O l p) (hlen : l.length ≤ 140737488355328) (hN : N = most) (hs : NumR l p most = (n, r, q)) :
    Calls Tryd.prog 76 #[.pointer (some ⟨br, 0, none⟩), .int .u64 N] w (RReads w br O l q (.int .u64 (n : Int)) r) := by
  subst hN
  have := refnumber_any w br O l p most h hlen
  rw [hs] at this
  exact this

theorem refraw_at (w : World) (br : Nat) (O : Nat → Prop) (l : List UInt8) (p : Nat) (n : Nat) (N : Int) (h : RefAt w br O l p) (hlen : l.length ≤ 140737488355328) (hN : N = (n : Int)) (hm2 : n ≤ 9223372036854775807) :
    Calls Tryd.prog 77 #[.pointer (some ⟨br, 0, none⟩), .int .i64 N] w (RTaken w br O l p p n) := by
  subst hN
  refine (refraw_any w br O l p n h hlen (by omega)).mono ?_
  rintro e w' (⟨h1, _⟩ | ⟨_, h2⟩)
  · omega
  · exact h2

end Go.Proofs.YtieejecodfeodaaDoor.V

namespace Go.Proofs.YtieejecodfeodaaDoor.S
open Go.RowKit

/-- What comes next, if nothing is wrong with it, is its number's bytes. -/
theorem nx_ok {l : List UInt8} (h : (V.nx l).2.2 = 0) : l = V.encL (V.nx l).1 ++ l.drop (V.nx l).2.1 ∧ (V.encL (V.nx l).1).length = (V.nx l).2.1 := by
  rcases l with _ | ⟨b, r⟩
  · cases h
  · rw [V.nx_cons] at h ⊢
    split at h
    · cases h
    · rename_i h1
      split at h
      · cases h
      · rename_i h2
        rw [if_neg h1, if_neg h2]
        have ht := V.td_rng b.toNat (by simpa using b.toNat_lt)
        obtain ⟨t, hT⟩ : ∃ t, V.td b.toNat = t + 1 := ⟨V.td b.toNat - 1, by omega⟩
        simp only
        have hw := V.dc_width b (r.take t) (V.td b.toNat) rfl (by rw [hT]; simp; omega)
        rw [hT] at h1 h2 hw ⊢
        rw [List.take_succ_cons] at h2 ⊢
        have e := hw.2.1 (by omega)
        rw [e]
        refine ⟨?_, by simp; omega⟩
        rw [List.drop_succ_cons, List.cons_append, List.take_append_drop]

theorem num_ok {l : List UInt8} {p m : Nat} (h : (V.NumR l p m).2.1 = 0) :
    l.drop p = V.encL (V.NumR l p m).1 ++ l.drop (V.NumR l p m).2.2 ∧ (V.NumR l p m).1 ≤ m ∧ (V.NumR l p m).1 < 18446744073709551616 ∧ (V.NumR l p m).2.2 = p + (V.encL (V.NumR l p m).1).length := by
  unfold V.NumR at h ⊢
  unfold V.bnd at h ⊢
  have hw := (V.nx_width (l.drop p)).2.2.2
  simp only at h ⊢
  split at h
  · rename_i h1; exact absurd h h1
  · rename_i h1
    split at h
    · cases h
    · rename_i h2
      rw [if_neg h1, if_neg h2]
      have e := nx_ok (l := l.drop p) h
      rw [List.drop_drop] at e
      exact ⟨e.1, by omega, hw, by rw [e.2]⟩
theorem num_enc {l s : List UInt8} {p m n : Nat} (h : l.drop p = V.encL n ++ s) (h1 : n ≤ m) (h2 : n < 18446744073709551616) : V.NumR l p m = (n, 0, p + (V.encL n).length) := by
  have hb : V.bnd (V.nx (l.drop p)) m = (n, V.wd n, 0) := by
    rw [h, V.nx_enc n h2]
    unfold V.bnd
    rw [if_neg (by simp), if_neg (by simp; omega)]
  unfold V.NumR
  rw [hb, V.encL_length n h2]
theorem num_case (l : List UInt8) (p M : Nat) : ∃ n r q : Nat, V.NumR l p M = (n, r, q) ∧ (r = 0 → n ≤ M ∧ n < 18446744073709551616) ∧ (r ≠ 0 → n = 0) := by
  refine ⟨_, _, _, rfl, fun h => ?_, fun h => ?_⟩
  · have := num_ok (l := l) (p := p) (m := M) h; exact ⟨this.2.1, this.2.2.1⟩
  · exact (V.bnd_zero (l.drop p) M h).1
theorem reel_lt {w : World} {br p : Nat} {O : Nat → Prop} {l : List UInt8} (h : V.ReelAt w br O l p) : br < w.heap.size := by
  obtain ⟨A, c, hb, _⟩ := h.cells
  exact hb.lt
theorem ref_lt {w : World} {br p : Nat} {O : Nat → Prop} {l : List UInt8} (h : V.RefAt w br O l p) : br < w.heap.size := by
  obtain ⟨A, c, hb, _⟩ := h.cells
  exact hb.lt
theorem own_rd {w : World} {O : Nat → Prop} {v : Value} {l : List UInt8} (h : V.OwnB w O v l) : ∃ A c, v = .slice A l.length c ∧ V.Rd w A l ∧ (∀ ad, A = some ad → ad.block < w.heap.size) := by
  obtain ⟨A, c, rfl, _, hr, _, _⟩ := h.form
  exact ⟨A, c, rfl, hr, fun ad e => (h.1.lt ad.block (by rw [e]; rfl)).2⟩
theorem rd_br {w w' : World} {A : Option Addr} {l : List UInt8} {B br : Nat} (h : V.Rd w A l) (hb : ∀ ad, A = some ad → ad.block < B) (hbr : B ≤ br) (hk : Keep (fun k => k = br) w w') : V.Rd w' A l :=
  h.keep hk (fun ad e _ he => by have := hb ad e; omega)
theorem rd_n {w w' : World} {A : Option Addr} {l : List UInt8} (h : V.Rd w A l) (hk : Keep NoB w w') : V.Rd w' A l := h.keep hk (fun _ _ _ => id)
theorem at_gen {w w1 : World} {br p : Nat} {O : Nat → Prop} {l : List UInt8} (h : V.ReelAt w1 br O l p) (hk : Keep NoB w1 w) :
    Calls Tryd.prog 21 #[.pointer (some ⟨br, 0, none⟩)] w fun e w' => e = .returned (.int .i64 p) ∧ Keep NoB w w' :=
  (V.at_any w br O l p (h.keep hk (fun _ _ => id))).mono fun _ _ ⟨he, hw⟩ => ⟨he, by rw [← hw]; exact Keep.refl _ _⟩
theorem keep_br {w w1 w2 : World} {br : Nat} (h : Keep NoB w w1) (h2 : Keep (fun k => k = br) w1 w2) (hbr : w.heap.size ≤ br) : Keep NoB w w2 := h.trans h2 (fun k e hl => by subst e; omega)
theorem list_self (T : ByteArray) : (T.toList == T.toList) = true := by simp
theorem own_rdI {w : World} {O : Nat → Prop} {v : Value} {n : Nat} {xs : List Value} (h : Own w 3 1 O v n xs) : ∃ A c, v = .slice A n c ∧ Rd w A xs := by
  obtain ⟨A, c, e, _, _, hr, _⟩ := h.form
  exact ⟨A, c, e, hr⟩

end Go.Proofs.YtieejecodfeodaaDoor.S

namespace Go.Proofs.YtieejecodfeodaaDoor.S
open Go.RowKit W

/-- A type that cells and results may have. -/
def heldB (t : Int) : Bool := decide (1 ≤ t ∧ t ≤ 3)
theorem held_iff (t : Int) : heldB t = true ↔ 1 ≤ t ∧ t ≤ 3 := by simp [heldB]
theorem held_not (t : Int) : heldB t = false ↔ ¬ (1 ≤ t ∧ t ≤ 3) := by unfold heldB; rw [decide_eq_false_iff_not]
theorem held_known {t : Int} (h : heldB t = true) : knownB t = true := by rw [held_iff] at h; rw [known_iff]; omega
theorem all_known {l : List Int} (h : l.all heldB = true) : l.all knownB = true := by
  rw [List.all_eq_true] at h ⊢
  exact fun x hx => held_known (h x hx)
/-- A shape that may be; a signature that may be. -/
def okS (l : List Int) : Bool := decide (1 ≤ l.length ∧ l.length ≤ 16) && l.all heldB
def okG (a r : List Int) : Bool := decide (a.length + r.length ≤ 64) && (a.all knownB && r.all heldB)
def chkS (l : List Int) : Int := if okS l = true then 0 else 60
def chkG (a r : List Int) : Int := if okG a r = true then 0 else 61
theorem okS_iff (l : List Int) : okS l = true ↔ (1 ≤ l.length ∧ l.length ≤ 16) ∧ l.all heldB = true := by unfold okS; rw [Bool.and_eq_true, decide_eq_true_iff]
theorem okG_iff (a r : List Int) : okG a r = true ↔ a.length + r.length ≤ 64 ∧ a.all knownB = true ∧ r.all heldB = true := by unfold okG; rw [Bool.and_eq_true, Bool.and_eq_true, decide_eq_true_iff]
theorem chkS_ok {l : List Int} (h : okS l = true) : chkS l = 0 := if_pos h
theorem chkS_no {l : List Int} (h : okS l = false) : chkS l = 60 := if_neg (by rw [h]; decide)
theorem chkG_ok {a r : List Int} (h : okG a r = true) : chkG a r = 0 := if_pos h
theorem chkG_no {a r : List Int} (h : okG a r = false) : chkG a r = 61 := if_neg (by rw [h]; decide)
theorem chkS_cases (l : List Int) : chkS l = 0 ∨ chkS l = 60 := by unfold chkS; split; exact .inl rfl; exact .inr rfl
theorem chkG_cases (a r : List Int) : chkG a r = 0 ∨ chkG a r = 61 := by unfold chkG; split; exact .inl rfl; exact .inr rfl

/-- So many digits of base 4, the lowest first. -/
def dig : List Int → Nat
  | [] => 0
  | t :: l => (t - 1).toNat + 4 * dig l
theorem dig_lt : ∀ (l : List Int), l.all knownB = true → dig l < 4 ^ l.length
  | [], _ => by simp [dig]
  | t :: l, h => by
    rw [List.all_cons, Bool.and_eq_true, known_iff] at h
    have := dig_lt l h.2
    rw [dig, List.length_cons, Nat.pow_succ]
    omega
theorem dig_at : ∀ (l : List Int) (j : Nat), l.all knownB = true → dig l / 4 ^ j % 4 = (l[j]?.map fun t => (t - 1).toNat).getD 0
  | [], j, _ => by simp [dig]
  | t :: l, 0, h => by
    rw [List.all_cons, Bool.and_eq_true, known_iff] at h
    rw [dig]; simp; omega
  | t :: l, j + 1, h => by
    rw [List.all_cons, Bool.and_eq_true, known_iff] at h
    have := dig_at l j h.2
    rw [dig, Nat.pow_succ, Nat.mul_comm (4 ^ j) 4, ← Nat.div_div_eq_div_mul, show ((t - 1).toNat + 4 * dig l) / 4 = dig l by omega, this]
    simp
theorem dig_snoc : ∀ (l : List Int) (t : Int), dig (l ++ [t]) = dig l + (t - 1).toNat * 4 ^ l.length
  | [], t => by simp [dig]
  | u :: l, t => by
    have h := dig_snoc l t
    rw [List.cons_append, dig, dig, h, List.length_cons, Nat.pow_succ]
    have e : (t - 1).toNat * (4 ^ l.length * 4) = 4 * ((t - 1).toNat * 4 ^ l.length) := by
      rw [Nat.mul_comm (4 ^ l.length) 4, Nat.mul_left_comm]
    omega

/-- How many bytes so many types are laid into. -/
def sz (n : Nat) : Nat := (n + 3) / 4
/-- A byte of types, as a number; all of them. -/
def packN (l : List Int) (k : Nat) : Nat := dig ((l.drop (4 * k)).take 4)
def packL (l : List Int) : List UInt8 := (List.range (sz l.length)).map fun k => UInt8.ofNat (packN l k)
theorem packL_length (l : List Int) : (packL l).length = sz l.length := by simp [packL]
theorem all_sub {l : List Int} {p : Int → Bool} (h : l.all p = true) (i j : Nat) : ((l.drop i).take j).all p = true := by
  rw [List.all_eq_true] at h ⊢
  exact fun x hx => h x (List.mem_of_mem_drop (List.mem_of_mem_take hx))
theorem packN_lt {l : List Int} (h : l.all knownB = true) (k : Nat) : packN l k < 256 := by
  have h1 := dig_lt _ (all_sub h (4 * k) 4)
  have h2 : 4 ^ ((l.drop (4 * k)).take 4).length ≤ 4 ^ 4 := Nat.pow_le_pow_right (by omega) (by simp; omega)
  unfold packN
  omega
theorem packL_at (l : List Int) (k : Nat) (h : k < sz l.length) : (packL l)[k]? = some (UInt8.ofNat (packN l k)) := by simp [packL, h]
/-- Types' bytes. -/
def bytesT (l : List Int) : List UInt8 := V.encL l.length ++ packL l

/-- The two bits that stand at a place of bytes; the types that so many places are. -/
def pc (b : List UInt8) (i : Nat) : Nat := ((b[i / 4]?.map UInt8.toNat).getD 0) / 4 ^ (i % 4) % 4
def unp (b : List UInt8) (n : Nat) : List Int := (List.range n).map fun i => (pc b i : Int) + 1
/-- Nothing stands behind so many. -/
def clean (b : List UInt8) (n : Nat) : Bool := (List.range (4 * b.length)).all fun i => decide (i < n ∨ pc b i = 0)
theorem pc_lt (b : List UInt8) (i : Nat) : pc b i < 4 := Nat.mod_lt _ (by omega)
theorem unp_length (b : List UInt8) (n : Nat) : (unp b n).length = n := by simp [unp]
theorem unp_at (b : List UInt8) (n i : Nat) (h : i < n) : (unp b n)[i]? = some ((pc b i : Int) + 1) := by simp [unp, h]
theorem unp_known (b : List UInt8) (n : Nat) : (unp b n).all knownB = true := by
  rw [List.all_eq_true]
  intro x hx
  obtain ⟨i, _, rfl⟩ := List.mem_map.1 hx
  have := pc_lt b i
  rw [known_iff]; omega
theorem unp_succ (b : List UInt8) (n : Nat) : unp b (n + 1) = unp b n ++ [(pc b n : Int) + 1] := by unfold unp; rw [List.range_succ, List.map_append]; rfl
theorem clean_iff (b : List UInt8) (n : Nat) : clean b n = true ↔ ∀ i, n ≤ i → i < 4 * b.length → pc b i = 0 := by
  unfold clean
  rw [List.all_eq_true]
  constructor
  · intro h i h1 h2
    have := h i (List.mem_range.2 h2)
    rw [decide_eq_true_iff] at this
    omega
  · intro h i h1
    rw [decide_eq_true_iff]
    have := List.mem_range.1 h1
    rcases Nat.lt_or_ge i n with h3 | h3
    · exact .inl h3
    · exact .inr (h i h3 this)
theorem pc_pack {l : List Int} (h : l.all knownB = true) (i : Nat) (hi : i / 4 < sz l.length) : pc (packL l) i = (l[i]?.map fun t => (t - 1).toNat).getD 0 := by
  unfold pc
  rw [packL_at l _ hi]
  simp only [Option.map_some, Option.getD_some]
  rw [UInt8.toNat_ofNat', Nat.mod_eq_of_lt (packN_lt h _)]
  unfold packN
  rw [dig_at _ _ (all_sub h _ _), List.getElem?_take, if_pos (Nat.mod_lt _ (by omega)), List.getElem?_drop, Nat.div_add_mod]
theorem unp_pack {l : List Int} (h : l.all knownB = true) : unp (packL l) l.length = l ∧ clean (packL l) l.length = true := by
  constructor
  · apply List.ext_getElem?
    intro i
    by_cases hi : i < l.length
    · rw [unp_at _ _ _ hi, pc_pack h i (by unfold sz; omega), List.getElem?_eq_getElem hi]
      have := List.all_eq_true.1 h _ (List.getElem_mem hi)
      rw [known_iff] at this
      simp; omega
    · rw [List.getElem?_eq_none (by rw [unp_length]; omega), List.getElem?_eq_none (by omega)]
  · rw [clean_iff]
    intro i h1 h2
    rw [packL_length] at h2
    rw [pc_pack h i (by omega), List.getElem?_eq_none h1]
    rfl
theorem byte_eq (x : Nat) (h : x < 256) : x = x % 4 + 4 * (x / 4 % 4 + 4 * (x / 16 % 4 + 4 * (x / 64 % 4))) := by omega
theorem dig_map (f : Nat → Nat) (m : Nat) (h : m ≤ 4) (g : ∀ j, m ≤ j → j < 4 → f j = 0) : dig ((List.range m).map fun j => (f j : Int) + 1) = f 0 + 4 * (f 1 + 4 * (f 2 + 4 * f 3)) := by
  have hm : m = 0 ∨ m = 1 ∨ m = 2 ∨ m = 3 ∨ m = 4 := by omega
  rcases hm with rfl | rfl | rfl | rfl | rfl
  · rw [g 0 (by omega) (by omega), g 1 (by omega) (by omega), g 2 (by omega) (by omega), g 3 (by omega) (by omega)]; rfl
  · rw [g 1 (by omega) (by omega), g 2 (by omega) (by omega), g 3 (by omega) (by omega)]; simp [List.range_succ, dig]
  · rw [g 2 (by omega) (by omega), g 3 (by omega) (by omega)]; simp [List.range_succ, dig]
  · rw [g 3 (by omega) (by omega)]; simp [List.range_succ, dig]
  · simp [List.range_succ, dig]
theorem unp_slice (b : List UInt8) (n k : Nat) : ((unp b n).drop (4 * k)).take 4 = (List.range (min 4 (n - 4 * k))).map fun j => (pc b (4 * k + j) : Int) + 1 := by
  apply List.ext_getElem?
  intro i
  rw [List.getElem?_take]
  by_cases h : i < min 4 (n - 4 * k)
  · rw [if_pos (by omega), List.getElem?_drop, unp_at _ _ _ (by omega), List.getElem?_map, List.getElem?_range h]
    rfl
  · rw [List.getElem?_eq_none (l := List.map _ _) (by simp; omega)]
    split
    · rw [List.getElem?_drop, List.getElem?_eq_none]; rw [unp_length]; omega
    · rfl
theorem pc_four {b : List UInt8} {k j : Nat} (hk : k < b.length) (hj : j < 4) : pc b (4 * k + j) = b[k].toNat / 4 ^ j % 4 := by
  unfold pc
  rw [show (4 * k + j) / 4 = k by omega, show (4 * k + j) % 4 = j by omega, List.getElem?_eq_getElem hk]
  rfl
theorem pack_unp {b : List UInt8} {n : Nat} (hb : b.length = sz n) (hc : clean b n = true) : packL (unp b n) = b := by
  apply List.ext_getElem?
  intro k
  by_cases hk : k < sz n
  · have hk2 : k < b.length := by omega
    rw [packL_at _ _ (by rw [unp_length]; exact hk), List.getElem?_eq_getElem hk2]
    congr 1
    unfold packN
    rw [unp_slice, dig_map (fun j => pc b (4 * k + j)) _ (by omega)]
    · have p0 := pc_four hk2 (j := 0) (by omega)
      have p1 := pc_four hk2 (j := 1) (by omega)
      have p2 := pc_four hk2 (j := 2) (by omega)
      have p3 := pc_four hk2 (j := 3) (by omega)
      simp only [p0, p1, p2, p3, Nat.pow_zero, Nat.div_one, show (4 : Nat) ^ 1 = 4 from rfl, show (4 : Nat) ^ 2 = 16 from rfl, show (4 : Nat) ^ 3 = 64 from rfl]
      rw [← byte_eq _ (UInt8.toNat_lt _)]
      exact UInt8.ofNat_toNat
    · intro j h1 h2
      exact (clean_iff b n).1 hc _ (by omega) (by omega)
  · rw [List.getElem?_eq_none (by rw [packL_length, unp_length]; omega), List.getElem?_eq_none (by omega)]

/-- The types that stand at a place, at most so many, and the place behind them. -/
def rdT (l : List UInt8) (p most : Nat) : Option (List Int × Nat) :=
  if (V.NumR l p most).2.1 ≠ 0 then none
  else if l.length < (V.NumR l p most).2.2 + sz (V.NumR l p most).1 then none
  else if clean ((l.drop (V.NumR l p most).2.2).take (sz (V.NumR l p most).1)) (V.NumR l p most).1 = true then
    some (unp ((l.drop (V.NumR l p most).2.2).take (sz (V.NumR l p most).1)) (V.NumR l p most).1, (V.NumR l p most).2.2 + sz (V.NumR l p most).1)
  else none
theorem rdT_1 {l : List UInt8} {p most n r q : Nat} (h : V.NumR l p most = (n, r, q)) (hr : r ≠ 0) : rdT l p most = none := by unfold rdT; rw [h]; exact if_pos hr
theorem rdT_2 {l : List UInt8} {p most n q : Nat} (h : V.NumR l p most = (n, 0, q)) (hl : l.length < q + sz n) : rdT l p most = none := by
  unfold rdT; rw [h]; dsimp only; rw [if_neg (fun h => h rfl), if_pos hl]
theorem rdT_3 {l : List UInt8} {p most n q : Nat} (h : V.NumR l p most = (n, 0, q)) (hc : clean ((l.drop q).take (sz n)) n = false) : rdT l p most = none := by
  unfold rdT; rw [h]; dsimp only; rw [if_neg (fun h => h rfl)]
  split
  · rfl
  · rw [if_neg (by rw [hc]; decide)]
theorem rdT_4 {l : List UInt8} {p most n q : Nat} (h : V.NumR l p most = (n, 0, q)) (hl : ¬ l.length < q + sz n) (hc : clean ((l.drop q).take (sz n)) n = true) :
    rdT l p most = some (unp ((l.drop q).take (sz n)) n, q + sz n) := by
  unfold rdT; rw [h]; dsimp only; rw [if_neg (fun h => h rfl), if_neg hl, if_pos hc]
theorem rdT_ok {l : List UInt8} {p most q : Nat} {x : List Int} (h : rdT l p most = some (x, q)) :
    x.all knownB = true ∧ x.length ≤ most ∧ l.drop p = bytesT x ++ l.drop q ∧ q = p + (bytesT x).length ∧ q ≤ l.length := by
  obtain ⟨n, r, q', hN⟩ : ∃ n r q', V.NumR l p most = (n, r, q') := ⟨_, _, _, rfl⟩
  by_cases hr : r = 0
  · subst hr
    by_cases hl : l.length < q' + sz n
    · rw [rdT_2 hN hl] at h; cases h
    · cases hc : clean ((l.drop q').take (sz n)) n with
      | false => rw [rdT_3 hN hc] at h; cases h
      | true =>
        rw [rdT_4 hN hl hc] at h
        injection h with h
        injection h with h1 h2
        have hk := num_ok (l := l) (p := p) (m := most) (by rw [hN])
        rw [hN] at hk
        dsimp only at hk
        obtain ⟨k1, k2, _, k4⟩ := hk
        have hb : ((l.drop q').take (sz n)).length = sz n := by simp; omega
        have hx : x.length = n := by rw [← h1, unp_length]
        have hp : packL x = (l.drop q').take (sz n) := by rw [← h1]; exact pack_unp hb hc
        refine ⟨by rw [← h1]; exact unp_known _ _, by omega, ?_, ?_, by omega⟩
        · unfold bytesT
          rw [hp, hx, k1, List.append_assoc, ← h2, ← List.drop_drop, List.take_append_drop]
        · unfold bytesT
          rw [List.length_append, hp, hb, hx]; omega
  · rw [rdT_1 hN hr] at h; cases h
theorem rdT_enc {l s : List UInt8} {p most : Nat} {x : List Int} (hx : x.all knownB = true) (hm : x.length ≤ most) (h64 : x.length < 18446744073709551616) (h : l.drop p = bytesT x ++ s) :
    rdT l p most = some (x, p + (bytesT x).length) := by
  unfold bytesT at h ⊢
  rw [List.append_assoc] at h
  have hN := num_enc h hm h64
  have hd : l.drop (p + (V.encL x.length).length) = packL x ++ s := by rw [← List.drop_drop, h, List.drop_left' rfl]
  have hlen := congrArg List.length hd
  rw [List.length_drop, List.length_append, packL_length] at hlen
  have ht : (l.drop (p + (V.encL x.length).length)).take (sz x.length) = packL x := by rw [hd, ← packL_length, List.take_left' rfl]
  obtain ⟨u1, u2⟩ := unp_pack hx
  by_cases hs : sz x.length = 0
  · have hx0 : x = [] := by unfold sz at hs; exact List.length_eq_zero_iff.1 (by omega)
    subst hx0
    have hw := (V.encL_length 0 (by omega))
    have hpl : p + (V.encL 0).length ≤ l.length := by
      have h3 := congrArg List.length h
      rw [List.length_drop, List.length_append] at h3
      have h4 : 0 < (V.encL 0).length := by decide
      simp at h3; omega
    rw [rdT_4 hN (by unfold sz; simp at hpl ⊢; omega) (by rw [ht]; exact u2), ht, u1]
    simp [packL, sz]
  · rw [rdT_4 hN (by omega) (by rw [ht]; exact u2), ht, u1, List.length_append, packL_length]
    congr 2
    omega
/-- A bound that doesn't matter. -/
theorem num_less {l : List UInt8} {p m M : Nat} (h : m ≤ M) : (∃ n q, n ≤ m ∧ V.NumR l p M = (n, 0, q) ∧ V.NumR l p m = (n, 0, q)) ∨ ((∃ n q, m < n ∧ V.NumR l p M = (n, 0, q)) ∧ (V.NumR l p m).2.1 ≠ 0) ∨ ((V.NumR l p M).2.1 ≠ 0 ∧ (V.NumR l p m).2.1 ≠ 0) := by
  unfold V.NumR V.bnd
  by_cases h0 : (V.nx (l.drop p)).2.2 = 0
  · by_cases h1 : M < (V.nx (l.drop p)).1
    · refine .inr (.inr ?_)
      rw [if_neg (by simpa using h0), if_pos h1, if_neg (by simpa using h0), if_pos (by omega)]
      simp
    · by_cases h2 : m < (V.nx (l.drop p)).1
      · refine .inr (.inl ⟨⟨(V.nx (l.drop p)).1, p + (V.nx (l.drop p)).2.1, h2, ?_⟩, ?_⟩)
        · rw [if_neg (by simpa using h0), if_neg h1, h0]
        · rw [if_neg (by simpa using h0), if_pos h2]; simp
      · refine .inl ⟨(V.nx (l.drop p)).1, p + (V.nx (l.drop p)).2.1, by omega, ?_, ?_⟩
        · rw [if_neg (by simpa using h0), if_neg h1, h0]
        · rw [if_neg (by simpa using h0), if_neg h2, h0]
  · refine .inr (.inr ?_)
    rw [if_pos h0, if_pos h0]
    exact ⟨h0, h0⟩
theorem rdT_less {l : List UInt8} {p m M : Nat} (h : m ≤ M) : rdT l p m = (match rdT l p M with | none => none | some x => if x.1.length ≤ m then some x else none) := by
  rcases num_less (l := l) (p := p) h with ⟨n, q, h1, h2, h3⟩ | ⟨⟨n, q, h1, h2⟩, h3⟩ | ⟨h1, h2⟩
  · by_cases hl : l.length < q + sz n
    · rw [rdT_2 h2 hl, rdT_2 h3 hl]
    · cases hc : clean ((l.drop q).take (sz n)) n with
      | false => rw [rdT_3 h2 hc, rdT_3 h3 hc]
      | true => rw [rdT_4 h2 hl hc, rdT_4 h3 hl hc]; dsimp only; rw [unp_length, if_pos h1]
  · have e : rdT l p m = none := by unfold rdT; exact if_pos h3
    rw [e]
    by_cases hl : l.length < q + sz n
    · rw [rdT_2 h2 hl]
    · cases hc : clean ((l.drop q).take (sz n)) n with
      | false => rw [rdT_3 h2 hc]
      | true => rw [rdT_4 h2 hl hc]; dsimp only; rw [unp_length, if_neg (by omega)]
  · have e : rdT l p m = none := by unfold rdT; exact if_pos h2
    have e2 : rdT l p M = none := by unfold rdT; exact if_pos h1
    rw [e, e2]

/-- The shape at a place, and the place behind it; a signature likewise. -/
def decS (l : List UInt8) (p : Nat) : Option (List Int × Nat) := match rdT l p 16 with
  | none => none
  | some x => if okS x.1 = true then some x else none
def decG (l : List UInt8) (p : Nat) : Option ((List Int × List Int) × Nat) := match rdT l p 64 with
  | none => none
  | some x => match rdT l x.2 64 with
    | none => none
    | some y => if okG x.1 y.1 = true then some ((x.1, y.1), y.2) else none
/-- The same with the bound that the arguments leave. -/
def decGm (l : List UInt8) (p : Nat) : Option ((List Int × List Int) × Nat) := match rdT l p 64 with
  | none => none
  | some x => match rdT l x.2 (64 - x.1.length) with
    | none => none
    | some y => if okG x.1 y.1 = true then some ((x.1, y.1), y.2) else none
theorem decGm_eq (l : List UInt8) (p : Nat) : decGm l p = decG l p := by
  unfold decGm decG
  cases rdT l p 64 with
  | none => rfl
  | some x =>
    dsimp only
    rw [rdT_less (l := l) (p := x.2) (m := 64 - x.1.length) (M := 64) (by omega)]
    cases rdT l x.2 64 with
    | none => rfl
    | some y =>
      dsimp only
      by_cases h : y.1.length ≤ 64 - x.1.length
      · rw [if_pos h]
      · rw [if_neg h]
        dsimp only
        rw [if_neg]
        intro h2
        have := ((okG_iff _ _).1 h2).1
        omega
def bytesG (a r : List Int) : List UInt8 := bytesT a ++ bytesT r
theorem decS_ok {l : List UInt8} {p q : Nat} {x : List Int} (h : decS l p = some (x, q)) : okS x = true ∧ l.drop p = bytesT x ++ l.drop q ∧ q = p + (bytesT x).length := by
  unfold decS at h
  cases hr : rdT l p 16 with
  | none => rw [hr] at h; cases h
  | some y =>
    rw [hr] at h
    dsimp only at h
    obtain ⟨y, q'⟩ := y
    by_cases ho : okS y = true
    · rw [if_pos ho] at h
      injection h with h
      injection h with h1 h2
      subst h1 h2
      obtain ⟨_, _, h3, h4, _⟩ := rdT_ok hr
      exact ⟨ho, h3, h4⟩
    · rw [if_neg ho] at h; cases h
theorem decS_enc {l s : List UInt8} {p : Nat} {x : List Int} (ho : okS x = true) (h : l.drop p = bytesT x ++ s) : decS l p = some (x, p + (bytesT x).length) := by
  obtain ⟨h1, h2⟩ := (okS_iff x).1 ho
  unfold decS
  rw [rdT_enc (all_known h2) h1.2 (by omega) h]
  exact if_pos ho
theorem decG_ok {l : List UInt8} {p q : Nat} {a r : List Int} (h : decG l p = some ((a, r), q)) : okG a r = true ∧ l.drop p = bytesG a r ++ l.drop q ∧ q = p + (bytesG a r).length := by
  unfold decG at h
  cases hr : rdT l p 64 with
  | none => rw [hr] at h; cases h
  | some y =>
    rw [hr] at h
    dsimp only at h
    obtain ⟨y, q'⟩ := y
    dsimp only at h
    cases hr2 : rdT l q' 64 with
    | none => rw [hr2] at h; cases h
    | some z =>
      rw [hr2] at h
      dsimp only at h
      obtain ⟨z, q2⟩ := z
      by_cases ho : okG y z = true
      · rw [if_pos ho] at h
        simp only [Option.some.injEq, Prod.mk.injEq] at h
        obtain ⟨⟨rfl, rfl⟩, rfl⟩ := h
        obtain ⟨_, _, h3, h4, _⟩ := rdT_ok hr
        obtain ⟨_, _, h5, h6, _⟩ := rdT_ok hr2
        refine ⟨ho, ?_, ?_⟩
        · unfold bytesG; rw [List.append_assoc, ← h5, h3]
        · unfold bytesG; rw [List.length_append, h6, h4]; omega
      · rw [if_neg ho] at h; cases h
theorem decG_enc {l s : List UInt8} {p : Nat} {a r : List Int} (ho : okG a r = true) (h : l.drop p = bytesG a r ++ s) : decG l p = some ((a, r), p + (bytesG a r).length) := by
  obtain ⟨h1, h2, h3⟩ := (okG_iff a r).1 ho
  unfold bytesG at h ⊢
  rw [List.append_assoc] at h
  have hd : l.drop (p + (bytesT a).length) = bytesT r ++ s := by rw [← List.drop_drop, h, List.drop_left' rfl]
  unfold decG
  rw [rdT_enc h2 (by omega) (by omega) h]
  dsimp only
  rw [rdT_enc (all_known h3) (by omega) (by omega) hd]
  dsimp only
  rw [if_pos ho, List.length_append, Nat.add_assoc]

/-- The text of a shape; of a signature; what is ahead of a text's first arrow, and behind it. -/
def shS (l : List Int) : List UInt8 := if okS l = true then txt l else []
def shG (a r : List Int) : List UInt8 := if okG a r = true then txt a ++ 62 :: txt r else []
def arr (s : List UInt8) : Nat := s.findIdx fun c => c == 62
def rdS (s : List UInt8) : Option (List Int) := match untxt s with
  | none => none
  | some x => if okS x = true then some x else none
def rdG (s : List UInt8) : Option (List Int × List Int) := if arr s < s.length then
    (match untxt (s.take (arr s)), untxt (s.drop (arr s + 1)) with
    | some a, some r => if okG a r = true then some (a, r) else none
    | _, _ => none)
  else none
theorem okS_txt {l : List Int} (h : okS l = true) : l.length ≤ 1024 ∧ l.all knownB = true := by
  obtain ⟨h1, h2⟩ := (okS_iff l).1 h
  exact ⟨by omega, all_known h2⟩
theorem okG_txt {a r : List Int} (h : okG a r = true) : (a.length ≤ 1024 ∧ a.all knownB = true) ∧ r.length ≤ 1024 ∧ r.all knownB = true := by
  obtain ⟨h1, h2, h3⟩ := (okG_iff a r).1 h
  exact ⟨⟨by omega, h2⟩, by omega, all_known h3⟩
theorem rdS_sh {l : List Int} (h : okS l = true) : rdS (shS l) = some l := by
  obtain ⟨h1, h2⟩ := okS_txt h
  unfold rdS shS
  rw [if_pos h, untxt_txt h1 h2]
  exact if_pos h
theorem sh_rdS {s : List UInt8} {l : List Int} (h : rdS s = some l) : okS l = true ∧ shS l = s := by
  unfold rdS at h
  cases hu : untxt s with
  | none => rw [hu] at h; cases h
  | some x =>
    rw [hu] at h
    dsimp only at h
    by_cases ho : okS x = true
    · rw [if_pos ho] at h
      injection h with h
      subst h
      refine ⟨ho, ?_⟩
      unfold shS
      rw [if_pos ho]
      exact txt_untxt hu
    · rw [if_neg ho] at h; cases h
theorem txt_no62 (l : List Int) : ∀ c ∈ txt l, c ≠ 62 := by
  intro c hc
  unfold txt at hc
  split at hc
  · obtain ⟨t, _, ht⟩ := List.mem_flatMap.1 hc
    unfold letC at ht
    repeat' split at ht
    all_goals first | (rw [List.mem_singleton.1 ht]; decide) | (simp at ht)
  · simp at hc
theorem arr_mid {a b : List UInt8} (h : ∀ c ∈ a, c ≠ 62) : arr (a ++ 62 :: b) = a.length := by
  unfold arr
  rw [List.findIdx_append]
  have e : a.findIdx (fun c => c == 62) = a.length := List.findIdx_eq_length.2 fun c hc => by simpa using h c hc
  rw [e]
  simp [List.findIdx_cons]
theorem arr_at {s : List UInt8} (h : arr s < s.length) : s = s.take (arr s) ++ 62 :: s.drop (arr s + 1) := by
  have h1 : s[arr s] = 62 := by
    have := List.findIdx_getElem (xs := s) (p := fun c => c == 62) (w := h)
    rw [beq_iff_eq] at this
    exact this
  conv => lhs; rw [← List.take_append_drop (arr s) s, List.drop_eq_getElem_cons h, h1]
theorem rdG_sh {a r : List Int} (h : okG a r = true) : rdG (shG a r) = some (a, r) := by
  obtain ⟨⟨h1, h2⟩, h3, h4⟩ := okG_txt h
  unfold rdG shG
  rw [if_pos h, arr_mid (txt_no62 a), if_pos (by simp)]
  rw [List.take_left' rfl, show (txt a ++ 62 :: txt r).drop ((txt a).length + 1) = txt r by rw [← List.drop_drop, List.drop_left' rfl]; rfl, untxt_txt h1 h2, untxt_txt h3 h4]
  exact if_pos h
theorem sh_rdG {s : List UInt8} {a r : List Int} (h : rdG s = some (a, r)) : okG a r = true ∧ shG a r = s := by
  unfold rdG at h
  by_cases hl : arr s < s.length
  · rw [if_pos hl] at h
    cases hu : untxt (s.take (arr s)) with
    | none => rw [hu] at h; simp at h
    | some x =>
      cases hv : untxt (s.drop (arr s + 1)) with
      | none => rw [hu, hv] at h; simp at h
      | some y =>
        rw [hu, hv] at h
        dsimp only at h
        by_cases ho : okG x y = true
        · rw [if_pos ho] at h
          injection h with h
          injection h with h1 h2
          subst h1 h2
          refine ⟨ho, ?_⟩
          unfold shG
          rw [if_pos ho, txt_untxt hu, txt_untxt hv]
          exact (arr_at hl).symm
        · rw [if_neg ho] at h; cases h
  · rw [if_neg hl] at h; cases h

end Go.Proofs.YtieejecodfeodaaDoor.S

namespace Go.Proofs.YtieejecodfeodaaDoor.S
open Go.RowKit W

theorem decN_cont (n b0 b1 b2 b3 : Nat) (hn : 1 ≤ n) (h : 128 ≤ b0) : 1 ≤ (Lib.decodeN n b0 b1 b2 b3).2 ∧ (Lib.decodeN n b0 b1 b2 b3).2 ≤ n ∧ (Lib.decodeN n b0 b1 b2 b3).2 ≤ 4 ∧
    (1 < (Lib.decodeN n b0 b1 b2 b3).2 → 128 ≤ b1) ∧ (2 < (Lib.decodeN n b0 b1 b2 b3).2 → 128 ≤ b2) ∧ (3 < (Lib.decodeN n b0 b1 b2 b3).2 → 128 ≤ b3) := by
  unfold Lib.decodeN
  repeat' split
  all_goals refine ⟨?_, ?_, ?_, ?_, ?_, ?_⟩ <;> simp only <;> omega
theorem decode_cont (S : ByteArray) (k : Nat) (hk : k < S.size) (h : 128 ≤ (S.get! k).toNat) : 1 ≤ (Utf8.decode S k).2 ∧ k + (Utf8.decode S k).2 ≤ S.size ∧ ∀ j, k ≤ j → j < k + (Utf8.decode S k).2 → 128 ≤ (S.get! j).toNat := by
  rw [Lib.decode_at]
  obtain ⟨h1, h2, h3, h4, h5, h6⟩ := decN_cont (S.size - k) (S.get! k).toNat (S.get! (k + 1)).toNat (S.get! (k + 2)).toNat (S.get! (k + 3)).toNat (by omega) h
  generalize (Lib.decodeN (S.size - k) (S.get! k).toNat (S.get! (k + 1)).toNat (S.get! (k + 2)).toNat (S.get! (k + 3)).toNat).2 = wd at h1 h2 h3 h4 h5 h6
  refine ⟨h1, by omega, fun j hj1 hj2 => ?_⟩
  obtain rfl | rfl | rfl | rfl : j = k ∨ j = k + 1 ∨ j = k + 2 ∨ j = k + 3 := by omega
  · exact h
  · exact h4 (by omega)
  · exact h5 (by omega)
  · exact h6 (by omega)
theorem extract_of {S : ByteArray} {s : List UInt8} (hs : S.data.toList = s) (f k : Nat) : S.extract f k = W.str ((s.drop f).take (k - f)) := by
  apply ByteArray.ext
  rw [ByteArray.data_extract]
  apply Array.ext'
  rw [Array.toList_extract, hs, List.extract_eq_take_drop]
theorem ext_left {S : ByteArray} {s : List UInt8} (hs : S.data.toList = s) (k : Nat) : S.extract 0 k = W.str (s.take k) := by rw [extract_of hs]; rfl
theorem ext_right {S : ByteArray} {s : List UInt8} (hs : S.data.toList = s) (k : Nat) : S.extract k S.size = W.str (s.drop k) := by
  rw [extract_of hs, size_of hs, ← List.length_drop, List.take_length]

/-- How halves ends. -/
def HalfR (w : World) (s : List UInt8) (e : Ending) (w' : World) : Prop :=
  ((arr s < s.length ∧ e = .returned (.tuple #[.string (W.str (s.take (arr s))), .string (W.str (s.drop (arr s + 1))), .bool true])) ∨ (¬ arr s < s.length ∧ e = .returned (.tuple #[.string ⟨#[]⟩, .string ⟨#[]⟩, .bool false]))) ∧ Keep NoB w w'
theorem arr_hit {s : List UInt8} {k : Nat} (hk : k < s.length) (h : ∀ c ∈ s.take k, c ≠ 62) (hc : s[k] = 62) : arr s = k := by
  have e : s = s.take k ++ 62 :: s.drop (k + 1) := by conv => lhs; rw [← List.take_append_drop k s, List.drop_eq_getElem_cons hk, hc]
  have := arr_mid (b := s.drop (k + 1)) h
  rw [← e] at this
  rw [this]; simp; omega
theorem arr_miss {s : List UInt8} (h : ∀ c ∈ s, c ≠ 62) : ¬ arr s < s.length := by
  have e : arr s = s.length := List.findIdx_eq_length.2 fun c hc => by simpa using h c hc
  omega
theorem half_yes {w w' : World} {S : ByteArray} {s : List UInt8} {k : Nat} (hs : S.data.toList = s) (hk : k < s.length) (h : ∀ c ∈ s.take k, c ≠ 62) (hc : s[k] = 62) (hK : Keep NoB w w') :
    HalfR w s (.returned (.tuple #[.string (S.extract 0 k), .string (S.extract (k + 1) S.size), .bool true])) w' := by
  have e := arr_hit hk h hc
  refine ⟨.inl ⟨by omega, ?_⟩, hK⟩
  rw [e, ext_left hs, ext_right hs]

set_option maxRecDepth 100000 in
set_option maxHeartbeats 4000000 in
theorem halves_any (S : ByteArray) (s : List UInt8) (w : World) (hs : Hid (S.data.toList = s)) (h1 : S.size ≤ 9223372036854775807) :
    Calls Tryd.prog 59 #[.string S] w (HalfR w s) := by
  have HSZ := Lib.hid (size_of hs.out)
  go_enter Tryd.func59, Tryd.ntmps59
  go_wp2
  have hk0 : (w.iter S 0).heap[w.heap.size]? = some (.stringIter S 0) := World.iter_heap w S 0
  have hK0 : Keep NoB w (w.iter S 0) := (Keep.refl NoB w).alloc _
  go_loopw [5] (fun _ wr => ∃ k : Nat, k ≤ S.size ∧ wr.heap[w.heap.size]? = some (.stringIter S k) ∧ Hid (∀ c ∈ s.take k, c ≠ 62) ∧ Keep NoB w wr) (fun _ wr => S.size - wr.iterPos w.heap.size)
  case atStart => exact ⟨0, Nat.zero_le _, hk0, fun c h => by simp at h, hK0⟩
  case round =>
    obtain ⟨k, hk, hit, hall, hK⟩ := hrel
    clear hk0 hK0
    have hmu : Hid (wr.iterPos w.heap.size = k) := by show _ = _; simp [World.iterPos, hit]
    by_cases hlt : k < S.size
    · have hks : k < s.length := by rw [← HSZ.out]; exact hlt
      have hbt := byte_at hs.out k hlt hks
      by_cases hb : (S[k]'hlt).toNat < 128
      · have hnext : ∀ ty, (Instr.next (.pointer (some ⟨w.heap.size, 0, none⟩)) true ty).run Tryd.prog wr = _ := fun ty => Lib.run_next_ascii_at wr w.heap.size S k ty hit hlt hb
        rw [hbt] at hnext hb
        have hit2 := Lib.iterAt_heap wr w.heap.size S k (k + 1) hit
        have hK2 := hK.iterAt (Nat.le_refl _) S (k + 1)
        generalize wr.iterAt w.heap.size S (k + 1) = w2 at hnext hit2 hK2
        clear hbt hK hit
        by_cases hc : s[k] = 62
        · have HX := Lib.hid (fun (w' : World) (h : Keep NoB w w') => half_yes hs.out hks hall.out hc h)
          have hq : (((s[k]).toNat : Int) == 62) = true := by rw [hc]; rfl
          generalize s[k] = c at hnext hb hq
          clear hc
          go_wp2
          go_quiet (fail)
          go_wp2
          go_ret3
          exact HX.out _ (hK2.drewN _)
        · have hq : (((s[k]).toNat : Int) == 62) = false := by
            rw [beq_eq_false_iff_ne]
            intro e
            exact hc (UInt8.toNat_inj.1 (by rw [show (62 : UInt8).toNat = 62 from rfl]; omega))
          have hall2 : Hid (∀ c ∈ s.take (k + 1), c ≠ 62) := by
            intro c h
            rw [List.take_succ_eq_append_getElem hks] at h
            rcases List.mem_append.1 h with h | h
            · exact hall.out c h
            · rw [List.mem_singleton.1 h]; exact hc
          generalize s[k] = c at hnext hb hq
          clear hc hall
          go_wp2
          go_roundw
          case rel => exact ⟨k + 1, by omega, hit2, hall2, hK2⟩
          case measure =>
            have hmu2 : w2.iterPos w.heap.size = k + 1 := by simp [World.iterPos, hit2]
            rw [hmu.out, hmu2]
            omega
      · have hnext : ∀ ty, (Instr.next (.pointer (some ⟨w.heap.size, 0, none⟩)) true ty).run Tryd.prog wr = _ := fun ty => Lib.run_next_any_at wr w.heap.size S k ty hit hlt
        have hg : 128 ≤ (S.get! k).toNat := by rw [W.get_at k hlt]; omega
        have hbig := decode_big S k hg
        obtain ⟨d1, d2, d3⟩ := decode_cont S k hlt hg
        have hit2 := Lib.iterAt_heap wr w.heap.size S k (k + (Utf8.decode S k).2) hit
        have hK2 := hK.iterAt (Nat.le_refl _) S (k + (Utf8.decode S k).2)
        have hall2 : Hid (∀ c ∈ s.take (k + (Utf8.decode S k).2), c ≠ 62) := by
          intro c h
          obtain ⟨j, hj, rfl⟩ := List.getElem_of_mem h
          rw [List.getElem_take]
          have hj2 : j < k + (Utf8.decode S k).2 ∧ j < s.length := by rw [List.length_take] at hj; omega
          rcases Nat.lt_or_ge j k with h3 | h3
          · exact hall.out _ (by rw [← List.getElem_take (j := k) (h := by rw [List.length_take]; omega)]; exact List.getElem_mem _)
          · have := d3 j h3 hj2.1
            have hjs : j < S.size := by omega
            rw [W.get_at j hjs, byte_at hs.out j hjs hj2.2] at this
            intro e
            rw [e] at this
            exact absurd this (by decide)
        generalize (Utf8.decode S k).2 = wd at hnext hit2 hK2 hall2 d1 d2
        generalize wr.iterAt w.heap.size S (k + wd) = w2 at hnext hit2 hK2
        generalize (Utf8.decode S k).1 = r at hnext hbig
        have hq : ((r : Int) == 62) = false := by rw [beq_eq_false_iff_ne]; omega
        clear hbt hK hit hall hb hg d3
        go_wp2
        go_roundw
        case rel => exact ⟨k + wd, by omega, hit2, hall2, hK2⟩
        case measure =>
          have hmu2 : w2.iterPos w.heap.size = k + wd := by simp [World.iterPos, hit2]
          rw [hmu.out, hmu2]
          omega
    · obtain hkn : k = s.length := by rw [← HSZ.out]; omega
      have hnext : ∀ ty, (Instr.next (.pointer (some ⟨w.heap.size, 0, none⟩)) true ty).run Tryd.prog wr = _ := fun ty => Lib.run_next_end_at wr w.heap.size S k ty hit hlt
      subst hkn
      have HX : Hid (¬ arr s < s.length) := arr_miss (by have := hall.out; rwa [List.take_length] at this)
      clear hall
      go_wp2
      go_ret3
      exact ⟨.inr ⟨HX.out, rfl⟩, hK⟩

end Go.Proofs.YtieejecodfeodaaDoor.S

namespace Go.Proofs.YtieejecodfeodaaDoor
open Go.RowKit

/-- A world that keeps all that lay in w0. -/
structure KW (w0 : World) where
  w : World
  keep : Keep NoB w0 w
instance kwNonempty (w0 : World) : Nonempty (KW w0) := ⟨⟨w0, Keep.refl _ _⟩⟩

theorem wp_region_kept {P : Program} {id : Nat} {Q : Exit → Act → World → Prop} {a : Act} {w : World} {l : List Oper} (w0 : World) (hm : P.follows .mixedOrders = true) (hB : Region.lexB .any l.toArray = true) (hw : Keep NoB w0 w)
    (h : wpQuiet P l.toArray (fun w' => ∃ n : KW w0, w' = n.w) (fun a' => ∀ w', (∃ n : KW w0, w' = n.w) → Q .normal a' w') l a) : (Code.region id l.toArray true).wp P Q a w :=
  wp_region_quiet (C := fun w' => ∃ n : KW w0, w' = n.w) hm hB ⟨⟨_, hw.drew⟩, rfl⟩ (by simpa using h)

/-- A callee's contract, met in such a world. -/
theorem kept_of {P : Program} {f : FuncId} {args : Array Value} {w0 : World} {n : KW w0} {v : Value}
    (h : Calls P f args n.w fun e w' => e = .returned v ∧ Keep NoB n.w w') : Calls P f args n.w fun e w'' => e = .returned v ∧ ∃ m : KW w0, w'' = m.w :=
  h.mono fun _ _ ⟨he, hk⟩ => ⟨he, ⟨_, keepN n.keep hk⟩, rfl⟩

/-- A cell that lay in w0 lies in each such world. -/
theorem KW.cell {w0 : World} {p : Addr} {v : Value} (h : w0.cell? p = some v) (n : KW w0) : n.w.cell? p = some v := n.keep.cell h id

end Go.Proofs.YtieejecodfeodaaDoor

namespace Go.Proofs.YtieejecodfeodaaDoor
open Go.RowKit

/-- What stays when memory is made. -/
def StableI (I : World → Prop) : Prop := ∀ w w', I w → Keep NoB w w' → I w'
theorem StableI.and {I J : World → Prop} (h : StableI I) (h' : StableI J) : StableI fun w => I w ∧ J w := fun w w' hw hk => ⟨h w w' hw.1 hk, h' w w' hw.2 hk⟩
theorem stable_blk (g : Nat) (o : Obj) : StableI fun w => w.heap[g]? = some o := fun _ _ h hk => (hk.block g (Array.getElem?_eq_some_iff.1 h).1 id).trans h
theorem stable_keep (w0 : World) : StableI fun w => Keep NoB w0 w := fun _ _ h hk => keepN h hk

/-- The operations that make a block. -/
def isMake (o : Oper) : Bool := match o.op with
  | .alloc _ => true
  | .buildSlice .. => true
  | .makeSlice .. => true
  | _ => false

section
variable {P : Program} {ops : Array Oper} {md : Region.Mode}

/-- The operation yields a value, at once or by a call. -/
def yieldsR (R : Value → World → Prop) : Program → Result Next → Prop
  | _, .ok (.value u) w' => R u w'
  | _, .ok .skip w' => R undef w'
  | P, .ok (.enter f args) w' => Calls P f args w' fun e w'' => ∃ u, e = .returned u ∧ R u w''
  | _, _ => False
def yieldsK (P : Program) (o : Oper) (a : Act) (w : World) (R : Value → World → Prop) : Prop := yieldsR R P ((execOp a.eval o).run P w)

def Quiet1 (P : Program) (o : Oper) (a : Act) (I : World → Prop) (v : Value) : Prop := ∀ w, I w → yieldsK P o a w fun u w' => u = v ∧ Keep NoB w w'
def Gen1 (P : Program) (o : Oper) (a : Act) (I : World → Prop) (V : Value → World → Prop) : Prop := (∀ v, StableI (V v)) ∧ ∀ w, I w → yieldsK P o a w fun u w' => V u w' ∧ Keep NoB w w'
def Make1 (P : Program) (o : Oper) (a : Act) (mk : Nat → Value) (obj : Obj) : Prop := ∀ w, (execOp a.eval o).run P w = .ok (.value (mk w.heap.size)) (w.alloc obj)

abbrev Kont := Act → (World → Prop) → Prop

/-- Operation number i comes up. -/
def mOp (P : Program) (ops : Array Oper) (gen : Bool) (i : Nat) (K : Kont) (a : Act) (I : World → Prop) : Prop :=
  match ops[i]? with
  | none => K a I
  | some o =>
    if Region.wanted o (yielded ops a.tmps) then
      (if isMake o then ∃ mk obj, Make1 P o a mk obj ∧ ∀ g, K (a.put o.dst (mk g)) fun w => I w ∧ w.heap[g]? = some obj
       else (∃ v, Quiet1 P o a I v ∧ K (a.put o.dst v) I) ∨ (gen = true ∧ ∃ V, Gen1 P o a I V ∧ ∀ v, K (a.put o.dst v) fun w => I w ∧ V v w))
    else K (a.put o.dst undef) I

theorem mOp_mono {gen gen' : Bool} {i : Nat} {a : Act} {I : World → Prop} {K K' : Kont} (hg : gen = true → gen' = true) (h : ∀ a I, K a I → K' a I) (hh : mOp P ops gen i K a I) : mOp P ops gen' i K' a I := by
  unfold mOp at *
  split
  · rename_i ho; simp only [ho] at hh; exact h _ _ hh
  · rename_i o ho
    simp only [ho] at hh
    split
    · rename_i hw
      simp only [hw, if_true] at hh
      split
      · rename_i hm
        simp only [hm, if_true] at hh
        obtain ⟨mk, obj, h1, h2⟩ := hh
        exact ⟨mk, obj, h1, fun g => h _ _ (h2 g)⟩
      · rename_i hm
        simp only [hm] at hh
        rcases hh with ⟨v, h1, h2⟩ | ⟨hgen, V, h1, h2⟩
        · exact .inl ⟨v, h1, h _ _ h2⟩
        · exact .inr ⟨hg hgen, V, h1, fun v => h _ _ (h2 v)⟩
    · rename_i hw; simp only [hw] at hh; exact h _ _ hh

/-- Whatever order is picked from here on. -/
def wpAnyM (P : Program) (md : Region.Mode) (ops : Array Oper) (Q : Act → World → Prop) : Nat → Array Bool → Act → (World → Prop) → Prop
  | 0, listed, a, I => Region.ready md ops listed = [] ∧ ∀ w, I w → Q a w
  | fuel + 1, listed, a, I =>
    (Region.ready md ops listed = [] → ∀ w, I w → Q a w) ∧
    ∀ i ∈ Region.ready md ops listed, mOp P ops true i (wpAnyM P md ops Q fuel (listed.setIfInBounds i true)) a I

theorem Oper.wp_of_yields {o : Oper} {a : Act} {w : World} {K' : Act → World → Prop} {Q' : Exit → Act → World → Prop} {R : Value → World → Prop} (h : yieldsK P o a w R) (hK : ∀ u w', R u w' → K' (a.put o.dst u) w') : o.wp P a w K' Q' := by
  unfold yieldsK at h
  unfold Oper.wp
  generalize (execOp a.eval o).run P w = r at *
  cases r with
  | ok n w' =>
    cases n <;> simp only [yieldsR] at h <;> simp only [Oper.upon]
    case value u => exact hK _ _ h
    case skip => exact hK _ _ h
    case enter f args => exact h.mono fun e w'' ⟨u, he, hr⟩ => by subst he; exact hK _ _ hr
  | halt x w' => simp only [yieldsR] at h

theorem wpOp_of_mOp {gen : Bool} {i : Nat} {a : Act} {I : World → Prop} {K : Kont} {K' : Act → World → Prop} {Q' : Exit → Act → World → Prop} {w : World} (hI : StableI I) (hw0 : I w)
    (h : ∀ a I w', StableI I → I w' → K a I → K' a w') (hh : mOp P ops gen i K a I) : wpOp P ops Q' i K' a w := by
  unfold mOp at hh
  unfold wpOp
  split
  · rename_i ho; simp only [ho] at hh; exact h _ _ _ hI hw0 hh
  · rename_i o ho
    simp only [ho] at hh
    split
    · rename_i hw
      simp only [hw, if_true] at hh
      refine .inl ?_
      split at hh
      · obtain ⟨mk, obj, h1, h2⟩ := hh
        have hk : Keep NoB w (w.alloc obj) := (Keep.refl _ _).alloc _
        have hy : yieldsK P o a w fun u w' => u = mk w.heap.size ∧ w' = w.alloc obj := by unfold yieldsK; rw [h1 w]; exact ⟨rfl, rfl⟩
        refine Oper.wp_of_yields hy ?_
        rintro u w' ⟨rfl, rfl⟩
        exact h _ _ _ (hI.and (stable_blk _ _)) ⟨hI _ _ hw0 hk, heap_alloc_new w obj⟩ (h2 _)
      · rcases hh with ⟨v, h1, h2⟩ | ⟨_, V, h1, h2⟩
        · refine Oper.wp_of_yields (h1 w hw0) ?_
          rintro u w' ⟨rfl, hk⟩
          exact h _ _ _ hI (hI _ _ hw0 hk) h2
        · refine Oper.wp_of_yields (h1.2 w hw0) ?_
          rintro u w' ⟨hv, hk⟩
          exact h _ _ _ (hI.and (h1.1 u)) ⟨hI _ _ hw0 hk, hv⟩ (h2 u)
    · rename_i hw; simp only [hw] at hh; exact h _ _ _ hI hw0 hh

/-- It is a wpAny, from every world of the class. -/
theorem wpAny_of_M {Q : Act → World → Prop} {Q' : Exit → Act → World → Prop} (hQ : ∀ a w, Q a w → Q' .normal a w) : ∀ (fuel : Nat) (listed : Array Bool) (a : Act) (I : World → Prop) (w : World), StableI I → I w →
    wpAnyM P md ops Q fuel listed a I → wpAny P md ops Q' fuel listed a w
  | 0, _, _, _, _, _, hw, h => ⟨h.1, hQ _ _ (h.2 _ hw)⟩
  | fuel + 1, _, _, _, _, hI, hw, h => ⟨fun h0 => hQ _ _ (h.1 h0 _ hw), fun i hi => wpOp_of_mOp hI hw (fun a' I' w' hI' hw' hk => wpAny_of_M hQ fuel _ a' I' w' hI' hw' hk) (h.2 i hi)⟩

/-- In every world of the class the operation leaves v, and makes memory at most. -/
def YM (P : Program) (ops : Array Oper) (o : Oper) (v : Value) (a : Act) (I : World → Prop) : Prop :=
  (Region.wanted o (yielded ops a.tmps) = true ∧ isMake o = false ∧ Quiet1 P o a I v) ∨ (Region.wanted o (yielded ops a.tmps) = false ∧ v = undef)

theorem YM.mOp {i : Nat} {o : Oper} {v : Value} {a : Act} {I : World → Prop} (hi : ops[i]? = some o) (hy : YM P ops o v a I) {K : Kont} (h : K (a.put o.dst v) I) : mOp P ops true i K a I := by
  unfold Go.Proofs.YtieejecodfeodaaDoor.mOp
  simp only [hi]
  rcases hy with ⟨hw, hm, hv⟩ | ⟨hw, rfl⟩
  · simp only [hw, if_true, hm, Bool.false_eq_true, if_false]; exact .inl ⟨v, hv, h⟩
  · simp only [hw, Bool.false_eq_true, if_false]; exact h

theorem YM.of_same {o : Oper} {v : Value} {a a' : Act} {I I' : World → Prop} (hy : YM P ops o v a I) (hI : ∀ w, I' w → I w) (he : execOp a'.eval o = execOp a.eval o)
    (hw : Region.wanted o (yielded ops a'.tmps) = Region.wanted o (yielded ops a.tmps)) : YM P ops o v a' I' := by
  unfold YM Quiet1 yieldsK at *
  rw [he, hw]
  exact hy.imp (fun ⟨h1, h2, h3⟩ => ⟨h1, h2, fun w h => h3 w (hI w h)⟩) id

/-- An operation oj, apart from oi: whether oi's value is already there makes no difference to it, and it makes none to oi. -/
theorem mOp_put {j : Nat} {oi oj : Oper} {v : Value} (hj : ops[j]? = some oj) (hap : oi.apart ops oj = true)
    (hsi : ∀ cs b, oi.op ≠ .select cs b) (hsj : ∀ cs b, oj.op ≠ .select cs b) {K : Kont} {a : Act} {I : World → Prop}
    (hy : YM P ops oi v a I) (h : mOp P ops true j K (a.put oi.dst v) I) :
    mOp P ops true j (fun a' I' => YM P ops oi v a' I' ∧ K (a'.put oi.dst v) I') a I := by
  obtain ⟨h1, h2, h3⟩ := Oper.apart_spec hap
  have keep : ∀ u, ∀ I' : World → Prop, (∀ w, I' w → I w) → YM P ops oi v (a.put oj.dst u) I' := fun u I' hI =>
    hy.of_same hI (execOp_put oi hsi a oj.dst u h3) (wanted_put oi a oj.dst u h3)
  unfold mOp at *
  simp only [hj] at *
  rw [wanted_put oj a oi.dst v h1] at h
  split
  · rename_i hw
    simp only [hw, if_true] at h
    split
    · rename_i hm
      simp only [hm, if_true] at h
      obtain ⟨mk, obj, k1, k2⟩ := h
      refine ⟨mk, obj, ?_, fun g => ⟨keep _ _ (fun w hw => hw.1), by rw [← Act.put_comm a v (mk g) h2]; exact k2 g⟩⟩
      unfold Make1 at *
      rwa [execOp_put oj hsj a oi.dst v h1] at k1
    · rename_i hm
      simp only [hm] at h
      rcases h with ⟨u, k1, k2⟩ | ⟨hg, V, k1, k2⟩
      · refine .inl ⟨u, ?_, keep u _ (fun _ h => h), by rw [← Act.put_comm a v u h2]; exact k2⟩
        unfold Quiet1 yieldsK at *
        rwa [execOp_put oj hsj a oi.dst v h1] at k1
      · refine .inr ⟨by simp, V, ?_, fun u => ⟨keep u _ (fun _ h => h.1), by rw [← Act.put_comm a v u h2]; exact k2 u⟩⟩
        unfold Gen1 yieldsK at *
        rwa [execOp_put oj hsj a oi.dst v h1] at k1
  · rename_i hw
    simp only [hw] at h
    exact ⟨keep _ _ (fun _ h => h), by rw [← Act.put_comm a v undef h2]; exact h⟩

theorem not_waits {i : Nat} {oj : Oper} {listed : Array Bool} (hr : i ∈ Region.ready md ops listed) (hall : ∀ e ∈ oj.after, Region.binds md e = true → listed.getD e.on false = true) :
    ∀ e ∈ oj.after, Region.binds md e = true → e.on ≠ i := fun e he hb heq => by
  have h1 := hall e he hb
  have h0 := (mem_ready.1 hr).1
  rw [heq] at h1
  rcases Nat.lt_or_ge i listed.size with h' | h'
  · simp [h'] at h0 h1; rw [h0] at h1; cases h1
  · simp [Array.getElem?_eq_none h'] at h1

/-- A quiet operation that may come up now may be taken first. -/
theorem wpAnyM_first {Q : Act → World → Prop} {i : Nat} {oi : Oper} {v : Value} (hi : ops[i]? = some oi) (hsel : ∀ (j : Nat) (o : Oper) cs b, ops[j]? = some o → o.op ≠ .select cs b) :
    ∀ (fuel : Nat) (listed : Array Bool) (a : Act) (I : World → Prop),
      (∀ j oj, ops[j]? = some oj → j ≠ i → listed.getD j true = false → (∀ e ∈ oj.after, Region.binds md e = true → e.on ≠ i) → oi.apart ops oj = true) →
      i ∈ Region.ready md ops listed → YM P ops oi v a I →
      wpAnyM P md ops Q fuel (listed.setIfInBounds i true) (a.put oi.dst v) I → wpAnyM P md ops Q (fuel + 1) listed a I := by
  intro fuel
  induction fuel with
  | zero =>
    intro listed a I _ hr hy H
    refine ⟨fun h => (by rw [h] at hr; cases hr), fun j hj => ?_⟩
    by_cases hji : j = i
    · subst hji; exact hy.mOp hi H
    · have := ready_mono hj hji
      rw [H.1] at this
      cases this
  | succ fuel ih =>
    intro listed a I hfree hr hy H
    refine ⟨fun h => (by rw [h] at hr; cases hr), fun j hj => ?_⟩
    by_cases hji : j = i
    · subst hji; exact hy.mOp hi H
    · have h1 := H.2 j (ready_mono hj hji)
      obtain ⟨hjun, oj, hoj, hall⟩ := mem_ready.1 hj
      have h2 := mOp_put hoj (hfree j oj hoj hji hjun (not_waits hr hall)) (fun cs b => hsel i oi cs b hi) (fun cs b => hsel j oj cs b hoj) hy h1
      have hfree' : ∀ k ok, ops[k]? = some ok → k ≠ i → (listed.setIfInBounds j true).getD k true = false →
          (∀ e ∈ ok.after, Region.binds md e = true → e.on ≠ i) → oi.apart ops ok = true := fun k ok hk hki hun hno => by
        refine hfree k ok hk hki ?_ hno
        by_cases hjk : j = k
        · subst hjk; exact hjun
        · rw [getD_set_ne true hjk] at hun; exact hun
      refine mOp_mono id (fun a' I' h3 => ih (listed.setIfInBounds j true) a' I' hfree' (ready_mono hr (Ne.symm hji)) h3.1 ?_) h2
      rw [Array.setIfInBounds_comm _ _ hji]
      exact h3.2

/-- Until number i comes up nothing but what makes a block does. -/
def onlyMakes (md : Region.Mode) (ops : Array Oper) (i : Nat) : Nat → Array Bool → Bool
  | 0, _ => false
  | fuel + 1, listed => (Region.ready md ops listed).all fun j => j == i || ((ops[j]?).map isMake).getD false && onlyMakes md ops i fuel (listed.setIfInBounds j true)

theorem make_same {o : Oper} {a : Act} {mk mk' : Nat → Value} {obj obj' : Obj} (h : Make1 P o a mk obj) (h' : Make1 P o a mk' obj') : mk' = mk ∧ obj' = obj := by
  have key : ∀ w : World, mk' w.heap.size = mk w.heap.size ∧ w.alloc obj' = w.alloc obj := fun w => by
    have e := (h' w).symm.trans (h w)
    injection e with e1 e2
    injection e1 with e1
    exact ⟨e1, e2⟩
  refine ⟨funext fun n => ?_, ?_⟩
  · have := (key { heap := Array.replicate n obj, tape := fun _ _ => 0, drawn := 0, os := default, output := #[] }).1
    simpa using this
  · have := (key { heap := #[], tape := fun _ _ => 0, drawn := 0, os := default, output := #[] }).2
    have e := congrArg (fun w : World => w.heap[0]?) this
    have a1 : ∀ (w : World) (o : Obj), w.heap = #[] → (w.alloc o).heap[0]? = some o := fun w o hw => by
      have := heap_alloc_new w o
      rwa [hw] at this
    rw [a1 _ _ rfl, a1 _ _ rfl] at e
    exact Option.some.inj e

/-- An operation that makes a block may be taken first, if nothing else but such may come up ahead of it. -/
theorem wpAnyM_make {Q : Act → World → Prop} {i : Nat} {oi : Oper} (hi : ops[i]? = some oi) (hm : isMake oi = true) (hsel : ∀ (j : Nat) (o : Oper) cs b, ops[j]? = some o → o.op ≠ .select cs b) {mk : Nat → Value} {obj : Obj} :
    ∀ (fuel n : Nat) (listed : Array Bool) (a : Act) (I : World → Prop),
      (∀ j oj, ops[j]? = some oj → j ≠ i → listed.getD j true = false → (∀ e ∈ oj.after, Region.binds md e = true → e.on ≠ i) → oi.apart ops oj = true) →
      onlyMakes md ops i n listed = true → i ∈ Region.ready md ops listed → Region.wanted oi (yielded ops a.tmps) = true → Make1 P oi a mk obj →
      (∀ g, wpAnyM P md ops Q fuel (listed.setIfInBounds i true) (a.put oi.dst (mk g)) fun w => I w ∧ w.heap[g]? = some obj) → wpAnyM P md ops Q (fuel + 1) listed a I := by
  intro fuel
  have own : ∀ (fuel : Nat) (listed : Array Bool) (a : Act) (I : World → Prop), Region.wanted oi (yielded ops a.tmps) = true → Make1 P oi a mk obj →
      (∀ g, wpAnyM P md ops Q fuel (listed.setIfInBounds i true) (a.put oi.dst (mk g)) fun w => I w ∧ w.heap[g]? = some obj) → mOp P ops true i (wpAnyM P md ops Q fuel (listed.setIfInBounds i true)) a I := by
    intro fuel listed a I hw hk H
    unfold mOp
    simp only [hi, hw, if_true, hm]
    exact ⟨mk, obj, hk, H⟩
  induction fuel with
  | zero =>
    intro n listed a I _ _ hr hw hk H
    refine ⟨fun h => (by rw [h] at hr; cases hr), fun j hj => ?_⟩
    by_cases hji : j = i
    · subst hji; exact own _ _ _ _ hw hk H
    · have := ready_mono hj hji
      rw [(H 0).1] at this
      cases this
  | succ fuel ih =>
    intro n listed a I hfree hom hr hw hk H
    refine ⟨fun h => (by rw [h] at hr; cases hr), fun j hj => ?_⟩
    by_cases hji : j = i
    · subst hji; exact own _ _ _ _ hw hk H
    · obtain ⟨m, rfl⟩ : ∃ m, n = m + 1 := by
        cases n with
        | zero => cases hom
        | succ m => exact ⟨m, rfl⟩
      have hom' := List.all_eq_true.1 hom j hj
      obtain ⟨hjun, oj, hoj, hall⟩ := mem_ready.1 hj
      simp only [beq_iff_eq, hji, Bool.or_eq_true, false_or, hoj, Option.map_some, Option.getD_some, Bool.and_eq_true] at hom'
      obtain ⟨hmj, hom2⟩ := hom'
      have hap := hfree j oj hoj hji hjun (not_waits hr hall)
      obtain ⟨h1, h2, h3⟩ := Oper.apart_spec hap
      have hsi := fun cs b => hsel i oi cs b hi
      have hsj := fun cs b => hsel j oj cs b hoj
      have hfree' : ∀ k ok, ops[k]? = some ok → k ≠ i → (listed.setIfInBounds j true).getD k true = false →
          (∀ e ∈ ok.after, Region.binds md e = true → e.on ≠ i) → oi.apart ops ok = true := fun k ok hk hki hun hno => by
        refine hfree k ok hk hki ?_ hno
        by_cases hjk : j = k
        · subst hjk; exact hjun
        · rw [getD_set_ne true hjk] at hun; exact hun
      have on : ∀ (u : Value) (I' : World → Prop), (∀ g, wpAnyM P md ops Q fuel ((listed.setIfInBounds i true).setIfInBounds j true) ((a.put oi.dst (mk g)).put oj.dst u) fun w => I' w ∧ w.heap[g]? = some obj) →
          wpAnyM P md ops Q (fuel + 1) (listed.setIfInBounds j true) (a.put oj.dst u) I' := fun u I' hK => by
        refine ih m (listed.setIfInBounds j true) (a.put oj.dst u) I' hfree' hom2 (ready_mono hr (Ne.symm hji)) ?_ ?_ fun g => ?_
        · rw [wanted_put oi a oj.dst u h3]; exact hw
        · unfold Make1 at *; rw [execOp_put oi hsi a oj.dst u h3]; exact hk
        · rw [Array.setIfInBounds_comm _ _ hji, ← Act.put_comm a (mk g) u h2]; exact hK g
      have H1 : ∀ g, mOp P ops true j (wpAnyM P md ops Q fuel ((listed.setIfInBounds i true).setIfInBounds j true)) (a.put oi.dst (mk g)) fun w => I w ∧ w.heap[g]? = some obj := fun g => (H g).2 j (ready_mono hj hji)
      unfold mOp at H1 ⊢
      simp only [hoj, hmj, if_true] at H1 ⊢
      split
      · rename_i hwj
        have H2 : ∀ g, ∃ mk' obj', Make1 P oj (a.put oi.dst (mk g)) mk' obj' ∧ ∀ g', wpAnyM P md ops Q fuel ((listed.setIfInBounds i true).setIfInBounds j true) ((a.put oi.dst (mk g)).put oj.dst (mk' g')) fun w => (I w ∧ w.heap[g]? = some obj) ∧ w.heap[g']? = some obj' := fun g => by
          have := H1 g
          rwa [wanted_put oj a oi.dst (mk g) h1, if_pos hwj] at this
        have hmk : ∀ g mk' obj', Make1 P oj (a.put oi.dst (mk g)) mk' obj' → Make1 P oj a mk' obj' := fun g mk' obj' h => by
          unfold Make1 at *; rwa [execOp_put oj hsj a oi.dst (mk g) h1] at h
        obtain ⟨mkj, objj, k1, _⟩ := H2 0
        refine ⟨mkj, objj, hmk _ _ _ k1, fun g' => on _ _ fun g => ?_⟩
        obtain ⟨mk', obj', k1', k2⟩ := H2 g
        obtain ⟨rfl, rfl⟩ := make_same (hmk _ _ _ k1) (hmk _ _ _ k1')
        have e : (fun w : World => (I w ∧ w.heap[g']? = some obj') ∧ w.heap[g]? = some obj) = fun w => (I w ∧ w.heap[g]? = some obj) ∧ w.heap[g']? = some obj' := funext fun w => propext (and_right_comm)
        rw [e]
        exact k2 g'
      · rename_i hwj
        refine on _ _ fun g => ?_
        have := H1 g
        rwa [wanted_put oj a oi.dst (mk g) h1, if_neg hwj] at this

/-- The walk, in an order of one's own choice: true stands at an operation that comes up alone. -/
def wpM (P : Program) (ops : Array Oper) (Q : Act → World → Prop) : List (Nat × Bool) → Kont
  | [], a, I => ∀ w, I w → Q a w
  | (i, gen) :: rest, a, I => mOp P ops gen i (wpM P ops Q rest) a I

/-- The order may be chosen. -/
def orderM (md : Region.Mode) (ops : Array Oper) : List (Nat × Bool) → Array Bool → Bool
  | [], listed => (Region.ready md ops listed).isEmpty
  | (i, gen) :: rest, listed => (Region.ready md ops listed).contains i && (if gen then Region.ready md ops listed == [i] else Region.free md ops listed i && (!((ops[i]?).map isMake).getD false || onlyMakes md ops i ops.size listed)) && orderM md ops rest (listed.setIfInBounds i true)

theorem wpAnyM_order {Q : Act → World → Prop} (hs : Region.noSelect ops = true) : ∀ (l : List (Nat × Bool)) (listed : Array Bool) (a : Act) (I : World → Prop),
    orderM md ops l listed = true → wpM P ops Q l a I → wpAnyM P md ops Q l.length listed a I
  | [], _, _, _, hB, h => ⟨by simpa [orderM] using hB, h⟩
  | (i, gen) :: rest, listed, a, I, hB, h => by
    simp only [orderM, Bool.and_eq_true] at hB
    obtain ⟨⟨hr, hc⟩, hB'⟩ := hB
    have hr : i ∈ Region.ready md ops listed := by simpa using hr
    obtain ⟨_, oi, hi, _⟩ := mem_ready.1 hr
    have go := fun a' I' hK => wpAnyM_order (Q := Q) hs rest (listed.setIfInBounds i true) a' I' hB' hK
    cases gen with
    | true =>
      simp only [if_true, beq_iff_eq] at hc
      refine ⟨fun h => (by rw [h] at hr; cases hr), fun j hj => ?_⟩
      rw [hc] at hj
      obtain rfl := List.mem_singleton.1 hj
      exact mOp_mono id go h
    | false =>
      simp only [Bool.false_eq_true, if_false, Bool.and_eq_true, hi, Option.map_some, Option.getD_some, Bool.or_eq_true, Bool.not_eq_true'] at hc
      obtain ⟨hf, hmk⟩ := hc
      have hfree := Region.free_spec (md := md) hi hf
      change mOp P ops false i (wpM P ops Q rest) a I at h
      unfold mOp at h
      simp only [hi] at h
      split at h
      · rename_i hw
        split at h
        · rename_i hm
          obtain ⟨mk, obj, k1, k2⟩ := h
          rcases hmk with hmk | hmk
          · rw [hm] at hmk; cases hmk
          · exact wpAnyM_make hi hm (Region.noSelect_spec hs) rest.length ops.size listed a I hfree hmk hr hw k1 fun g => go _ _ (k2 g)
        · rename_i hm
          rcases h with ⟨v, k1, k2⟩ | ⟨hg, _⟩
          · exact wpAnyM_first hi (Region.noSelect_spec hs) rest.length listed a I hfree hr (.inl ⟨hw, by simpa using hm, k1⟩) (go _ _ k2)
          · cases hg
      · rename_i hw
        exact wpAnyM_first hi (Region.noSelect_spec hs) rest.length listed a I hfree hr (.inr ⟨by simpa using hw, rfl⟩) (go _ _ h)

/-- One walk serves every order. -/
theorem wp_region_mix {id : Nat} {Q : Exit → Act → World → Prop} {a : Act} {w : World} (l : List (Nat × Bool)) (I : World → Prop) (hm : P.follows .mixedOrders = true) (hs : Region.noSelect ops = true) (hl : l.length = ops.size)
    (hB : orderM .any ops l (Array.replicate ops.size false) = true) (hI : StableI I) (hw : I w.drew) (h : wpM P ops (Q .normal) l a I) : (Code.region id ops true).wp P Q a w :=
  wp_region_any hm (wpAny_of_M (Q := Q .normal) (fun _ _ h => h) _ _ _ I _ hI hw (by have := wpAnyM_order hs l _ a I hB h; rwa [hl] at this))

end
end Go.Proofs.YtieejecodfeodaaDoor

namespace Go.Proofs.YtieejecodfeodaaDoor
open Go.RowKit

/-- A world of a class. -/
structure KI (I : World → Prop) where
  w : World
  has : I w

section
variable {P : Program} {l tl : List Oper} {Q : Act → World → Prop} {rest : List (Nat × Bool)} {i : Nat} {gen : Bool} {o : Oper} {a : Act} {I : World → Prop}

theorem at_drop (ho : l.drop i = o :: tl) : l.toArray[i]? = some o := by
  rw [List.getElem?_toArray, ← List.head?_drop, ho]; rfl
theorem wpM_skip (ho : l.drop i = o :: tl) (hw : Region.wanted o (yielded l.toArray a.tmps) = false) (h : wpM P l.toArray Q rest (a.put o.dst undef) I) : wpM P l.toArray Q ((i, gen) :: rest) a I := by
  change mOp P l.toArray gen i (wpM P l.toArray Q rest) a I
  have ho := at_drop ho
  unfold mOp
  simp only [ho, hw, Bool.false_eq_true, if_false]
  exact h

/-- An operation that reads, reckons or calls. -/
theorem wpM_step (ho : l.drop i = o :: tl) (hm : isMake o = false) {d : Tmp} (hd : o.dst = some d) (hlt : decide (d < a.tmps.size) = true) (hw : Region.wanted o (yielded l.toArray a.tmps) = true)
    (HH : ∃ A' : Act, (∀ n : KI I, ∀ K : Act → Prop, (∀ a', a' = A' → K a') → o.quiet P a (fun w' => ∃ m : KW n.w, w' = m.w) K) ∧ a.put o.dst (A'.tmps.getD d undef) = A' ∧ wpM P l.toArray Q rest A' I) : wpM P l.toArray Q ((i, gen) :: rest) a I := by
  obtain ⟨A', H, hA, h⟩ := HH
  change mOp P l.toArray gen i (wpM P l.toArray Q rest) a I
  have ho := at_drop ho
  unfold mOp
  simp only [ho, hw, if_true, hm, Bool.false_eq_true, if_false]
  have hlt := of_decide_eq_true hlt
  have key : ∀ n : KI I, ∃ v, a.put o.dst v = A' ∧ yieldsK P o a n.w fun u w' => u = v ∧ Keep NoB n.w w' := fun n => by
    obtain ⟨v, h1, h2⟩ := H n (fun a' => a' = A') (fun _ h => h)
    refine ⟨v, h2, ?_⟩
    have h3 := h1 n.w ⟨⟨n.w, Keep.refl _ _⟩, rfl⟩
    unfold Oper.quietAt at h3
    unfold yieldsK
    generalize (execOp a.eval o).run P n.w = r at *
    cases r with
    | ok x w' =>
      cases x <;> simp only [Oper.quietUpon] at h3 <;> simp only [yieldsR]
      case value u => obtain ⟨rfl, rfl⟩ := h3; exact ⟨rfl, Keep.refl _ _⟩
      case skip => obtain ⟨rfl, rfl⟩ := h3; exact ⟨rfl, Keep.refl _ _⟩
      case enter f args =>
        obtain ⟨rfl, hc⟩ := h3
        exact hc.mono fun e w'' ⟨he, m, hm⟩ => ⟨v, he, rfl, by rw [hm]; exact m.keep⟩
    | halt x w' => simp only [Oper.quietUpon] at h3
  have val : ∀ v, a.put o.dst v = A' → v = A'.tmps.getD d undef := fun v e => by
    rw [← e, hd]
    simp [Act.put, hlt]
  refine .inl ⟨A'.tmps.getD d undef, fun w hw' => ?_, by rw [hA]; exact h⟩
  obtain ⟨v, e, hy⟩ := key ⟨w, hw'⟩
  rw [← val v e]; exact hy

/-- An operation that makes a block. -/
theorem wpM_make (ho : l.drop i = o :: tl) (hm : isMake o = true) (hw : Region.wanted o (yielded l.toArray a.tmps) = true) (mk : Nat → Value) (obj : Obj) (hk : Make1 P o a mk obj)
    (h : ∀ g, wpM P l.toArray Q rest (a.put o.dst (mk g)) fun w => I w ∧ w.heap[g]? = some obj) : wpM P l.toArray Q ((i, gen) :: rest) a I := by
  change mOp P l.toArray gen i (wpM P l.toArray Q rest) a I
  have ho := at_drop ho
  unfold mOp
  simp only [ho, hw, if_true, hm]
  exact ⟨mk, obj, hk, h⟩

/-- One that comes up alone, and yields whatever. -/
theorem wpM_gen (ho : l.drop i = o :: tl) (hm : isMake o = false) (hw : Region.wanted o (yielded l.toArray a.tmps) = true) (V : Value → World → Prop) (hV : ∀ v, StableI (V v))
    (H : ∀ n : KI I, yieldsK P o a n.w fun u w' => V u w' ∧ Keep NoB n.w w') (h : ∀ v, wpM P l.toArray Q rest (a.put o.dst v) fun w => I w ∧ V v w) : wpM P l.toArray Q ((i, true) :: rest) a I := by
  change mOp P l.toArray true i (wpM P l.toArray Q rest) a I
  have ho := at_drop ho
  unfold mOp
  simp only [ho, hw, if_true, hm, Bool.false_eq_true, if_false]
  exact .inr ⟨trivial, V, ⟨hV, fun w hw' => H ⟨w, hw'⟩⟩, h⟩

/-- Less may be known of the worlds. -/
theorem wpM_weak {ops : Array Oper} : ∀ (l : List (Nat × Bool)) (a : Act) (I I' : World → Prop), (∀ w, I w → I' w) → wpM P ops Q l a I' → wpM P ops Q l a I
  | [], _, _, _, hI, h => fun w hw => h w (hI w hw)
  | (i, gen) :: rest, a, I, I', hI, h => by
    change mOp P ops gen i (wpM P ops Q rest) a I
    change mOp P ops gen i (wpM P ops Q rest) a I' at h
    unfold mOp at *
    split
    · rename_i ho; simp only [ho] at h; exact wpM_weak rest a I I' hI h
    · rename_i o ho
      simp only [ho] at h
      split
      · rename_i hw
        simp only [hw, if_true] at h
        split
        · rename_i hm
          simp only [hm, if_true] at h
          obtain ⟨mk, obj, h1, h2⟩ := h
          exact ⟨mk, obj, h1, fun g => wpM_weak rest _ _ _ (fun w hw => ⟨hI w hw.1, hw.2⟩) (h2 g)⟩
        · rename_i hm
          simp only [hm] at h
          rcases h with ⟨v, h1, h2⟩ | ⟨hg, V, h1, h2⟩
          · exact .inl ⟨v, fun w hw => h1 w (hI w hw), wpM_weak rest _ _ _ hI h2⟩
          · exact .inr ⟨hg, V, ⟨h1.1, fun w hw => h1.2 w (hI w hw)⟩, fun v => wpM_weak rest _ _ _ (fun w hw => ⟨hI w hw.1, hw.2⟩) (h2 v)⟩
      · rename_i hw; simp only [hw] at h; exact wpM_weak rest _ _ _ hI h

theorem wpM_nil (h : ∀ n : KI I, Q a n.w) : wpM P l.toArray Q [] a I := fun w hw => h ⟨w, hw⟩

/-! The same laws with the goal shut in a structure: a goal that is laid bare is unfolded, operation by operation, wherever one is not wanted. -/

/-- What is shut in. -/
structure Shut (p : Prop) : Prop where
  out : p

theorem shM_skip (ho : l.drop i = o :: tl) (hw : Region.wanted o (yielded l.toArray a.tmps) = false) (hu : a.put o.dst undef = a) (h : Shut (wpM P l.toArray Q rest a I)) : Shut (wpM P l.toArray Q ((i, gen) :: rest) a I) :=
  ⟨wpM_skip ho hw (by rw [hu]; exact h.out)⟩
theorem shM_step (ho : l.drop i = o :: tl) (hm : isMake o = false) {d : Tmp} (hd : o.dst = some d) (hlt : decide (d < a.tmps.size) = true) (hw : Region.wanted o (yielded l.toArray a.tmps) = true)
    (HH : ∃ A' : Act, (∀ n : KI I, ∀ K : Act → Prop, (∀ a', a' = A' → K a') → o.quiet P a (fun w' => ∃ m : KW n.w, w' = m.w) K) ∧ a.put o.dst (A'.tmps.getD d undef) = A' ∧ Shut (wpM P l.toArray Q rest A' I)) : Shut (wpM P l.toArray Q ((i, gen) :: rest) a I) :=
  ⟨wpM_step ho hm hd hlt hw (HH.imp fun _ h => ⟨h.1, h.2.1, h.2.2.out⟩)⟩
theorem shM_make (ho : l.drop i = o :: tl) (hm : isMake o = true) (hw : Region.wanted o (yielded l.toArray a.tmps) = true) (mk : Nat → Value) (obj : Obj) (hk : Make1 P o a mk obj)
    (h : ∀ g, Shut (wpM P l.toArray Q rest (a.put o.dst (mk g)) fun w => I w ∧ w.heap[g]? = some obj)) : Shut (wpM P l.toArray Q ((i, gen) :: rest) a I) :=
  ⟨wpM_make ho hm hw mk obj hk fun g => (h g).out⟩
theorem shM_gen (ho : l.drop i = o :: tl) (hm : isMake o = false) (hw : Region.wanted o (yielded l.toArray a.tmps) = true) (V : Value → World → Prop) (hV : ∀ v, StableI (V v))
    (H : ∀ n : KI I, yieldsK P o a n.w fun u w' => V u w' ∧ Keep NoB n.w w') (h : ∀ v, Shut (wpM P l.toArray Q rest (a.put o.dst v) fun w => I w ∧ V v w)) : Shut (wpM P l.toArray Q ((i, true) :: rest) a I) :=
  ⟨wpM_gen ho hm hw V hV H fun v => (h v).out⟩
theorem shM_nil (h : ∀ n : KI I, Q a n.w) : Shut (wpM P l.toArray Q [] a I) := ⟨wpM_nil h⟩
theorem wp_region_sh {id : Nat} {Q : Exit → Act → World → Prop} {w : World} {ops : Array Oper} (l : List (Nat × Bool)) (I : World → Prop) (hm : P.follows .mixedOrders = true) (hs : Region.noSelect ops = true) (hl : l.length = ops.size)
    (hB : orderM .any ops l (Array.replicate ops.size false) = true) (hI : StableI I) (hw : I w.drew) (h : Shut (wpM P ops (Q .normal) l a I)) : (Code.region id ops true).wp P Q a w :=
  wp_region_mix l I hm hs hl hB hI hw h.out

end
end Go.Proofs.YtieejecodfeodaaDoor
