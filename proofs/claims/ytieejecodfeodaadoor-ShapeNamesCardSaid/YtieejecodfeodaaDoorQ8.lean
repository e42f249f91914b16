/-
  What the laws' own alive answers: true. Conditions: the letters stand.
  ShapeParts' walk: a shape's cells are told one by one, and may be each alone; a signature's results likewise; turned about it may be just if no argument is P. Conditions: the letters stand; the lists lie in memory.
  An argument that is a slice of bytes, opened: an address from which a list of bytes stands. No conditions.
  What the rows of shape share: the condition on the listed package-level variable, opened; arguments that are lists of numbers, and signatures, opened. No conditions.
-/
import Derived.ChangeSame
import Derived.Deep.Fields
import Derived.Deep.Slices
import Derived.HandedShaped
import Derived.LaidLaws
import Derived.LaidMore
import Derived.Lib.LaidTab
import Derived.Lib.SmallJoins
import Derived.OpenShut
import Derived.ProofKit
import Derived.SizedLaws
import Derived.Test.YtieejecodfeodaaDoorQ7
import Derived.Test.YtieejecodfeodaaDoorQ2
import Derived.Test.YtieejecodfeodaaDoorRows
namespace Go.Proofs.YtieejecodfeodaaDoor.S
open Go.RowKit W

/-- of, and sig, of texts that are written out. -/
theorem of_lit (s : List UInt8) (l : List Int) (w : World) (hL : LetAt w) (h1 : s.length ≤ 1024) (h : untxt s = some l) (n : Nat) (hn : l.length = n) :
    Calls Tryd.prog 40 #[.string (W.str s)] w fun e w' => ∃ B d, e = .returned (.slice B n d) ∧ Rd w' B (ivs l) ∧ Keep NoB w w' := by
  subst hn
  refine (own_of (W.str s) s l w hL rfl (by rw [size_of (s := s) (by simp)]; omega) h).mono ?_
  rintro e w' ⟨B, d, rfl, hO, hk⟩
  obtain ⟨A', c', e, hr⟩ := own_rdI hO
  cases e
  exact ⟨_, _, rfl, hr, hk⟩
theorem sig_lit (s t : List UInt8) (a r : List Int) (w : World) (hL : LetAt w) (h1 : s.length ≤ 1024) (h2 : t.length ≤ 1024) (hu : untxt s = some a) (hv : untxt t = some r) (na nb : Nat) (hna : a.length = na) (hnb : r.length = nb) :
    Calls Tryd.prog 41 #[.string (W.str s), .string (W.str t)] w fun e w' => ∃ A1 c1 A2 c2, e = .returned (.agg #[.slice A1 na c1, .slice A2 nb c2]) ∧ Rd w' A1 (ivs a) ∧ Rd w' A2 (ivs r) ∧ Keep NoB w w' := by
  subst hna hnb
  refine (own_sig (W.str s) (W.str t) s t a r w hL rfl rfl (by rw [size_of (s := s) (by simp)]; omega) (by rw [size_of (s := t) (by simp)]; omega) hu hv).mono ?_
  rintro e w' ⟨A1, c1, A2, c2, rfl, hO1, hO2, hk⟩
  obtain ⟨A', c', e, hr⟩ := own_rdI hO1
  cases e
  obtain ⟨A'', c'', e, hr2⟩ := own_rdI hO2
  cases e
  exact ⟨_, _, _, _, rfl, hr, hr2, hk⟩
theorem rd_bytes (w : World) (E : TypeId) (l : List UInt8) : V.Rd (w.alloc (.cells (V.bvs l).toArray E)) (some ⟨w.heap.size, 0, none⟩) l := fun _ => ⟨_, rfl, fun j u hu => by
  have e : (⟨w.heap.size, 0, none⟩ : Addr).add j = ⟨w.heap.size, j, none⟩ := by unfold Addr.add; by_cases hj : j = 0 <;> simp [hj]
  rw [e, (Blk.new w E _).cell j]
  simpa using hu⟩
theorem rd_n2 {w w' : World} {A : Option Addr} {l : List UInt8} (h : V.Rd w A l) (hk : Keep NoB w w') : V.Rd w' A l := h.keep hk (fun _ _ _ => id)
theorem own_app0 {w w' : World} {A : Option Addr} {n c : Nat} {l : List UInt8} (h : V.OwnB w' (Fresh w) (.slice A n c) l) (hn : l.length = n) : V.Rd w' A l := by
  obtain ⟨A', c', e, _, hr, _⟩ := h.form
  cases e; exact hr
/-- Encode of a shape that is known. -/
theorem enc_lit (A : Option Addr) (l : List Int) (na c : Nat) (w : World) (hr : Rd w A (ivs l)) (hn : l.length = na) (hm : na ≤ 100) (xs : List UInt8) (E : Int) (hx : encS l = xs ∧ chkS l = E) (m : Nat) (hm2 : xs.length = m) :
    Calls Tryd.prog 11 #[.slice A na c] w fun e w' => ∃ B d, e = .returned (.tuple #[.slice B m d, .int .i64 E]) ∧ V.Rd w' B xs ∧ Keep NoB w w' := by
  obtain ⟨rfl, rfl⟩ := hx
  subst hm2
  refine (encodeS_any A l na c w hr hn (by omega)).mono ?_
  rintro e w' ⟨v, rfl, hO, hk⟩
  obtain ⟨B, d, rfl, hr, _⟩ := own_rd hO
  exact ⟨B, d, rfl, hr, hk⟩

theorem decS_lit (w : World) (br : Nat) (Ob : Nat → Prop) (l : List UInt8) (p : Nat) (h : V.ReelAt w br Ob l p) (hlen : l.length ≤ 1000) (hd : decS l p = none) :
    Calls Tryd.prog 14 #[.pointer (some ⟨br, 0, none⟩)] w fun e w' => ∃ A c, e = .returned (.tuple #[.slice A 0 c, .int .i64 60]) ∧ Keep (fun k => k = br) w w' := by
  refine (decodeS_any w br Ob l p h (by omega)).mono ?_
  rintro e w' ⟨v, q, rfl, hO, _, _, hk⟩
  rw [hd] at hO ⊢
  obtain ⟨A, c, rfl, _⟩ := own_rdI hO
  exact ⟨A, c, rfl, hk⟩
theorem showG_lit (A : Option Addr) (a : List Int) (na ca : Nat) (B : Option Addr) (r : List Int) (nb cb : Nat) (w : World) (hL : LetAt w) (ha : Rd w A (ivs a)) (hr : Rd w B (ivs r)) (hna : a.length = na) (hnb : r.length = nb) (hn6 : na ≤ 1000) (hm6 : nb ≤ 1000) (xs : List UInt8) (hx : shG a r = xs) :
    Calls Tryd.prog 36 #[.agg #[.slice A na ca, .slice B nb cb]] w fun e w' => e = .returned (.string (W.str xs)) ∧ Keep NoB w w' := by
  subst hx
  exact showG_any A a na ca B r nb cb w hL ha hr hna hnb (by omega) (by omega)

set_option maxRecDepth 100000 in
set_option maxHeartbeats 4000000 in
theorem alive_any (w : World) (hL0 : LetAt w) : Calls Tryd.prog 42 #[] w fun e w' => e = .returned (.bool true) ∧ Keep NoB w w' := by
  have HL := Lib.hid hL0
  clear hL0
  have gK := Keep.refl NoB w
  have qA := list_self ⟨#[3, 36]⟩
  have qB := list_self ⟨#[5, 85, 0]⟩
  have qC := list_self ⟨#[73, 80, 62, 82]⟩
  have qD := list_self ⟨#[62]⟩
  go_enter Tryd.func42, Tryd.ntmps42
  go_wp2_with fail
  refine (of_lit [73, 82, 70] ([1, 2, 3] : List Int) _ (HL.out.keep gK) (by decide) (by kernel_rfl) 3 rfl).mono ?_
  rintro e w1 ⟨A1, c1, rfl, r1, k1⟩
  replace gK := keepN gK k1
  clear k1
  go_wp2_with fail
  refine (enc_lit _ _ _ _ _ r1 rfl (by decide) [3, 36] 0 ⟨by kernel_rfl, by kernel_rfl⟩ 2 rfl).mono ?_
  rintro e w2 ⟨A2, c2, rfl, r2, k1⟩
  replace gK := keepN gK k1
  clear k1
  clear r1
  go_wp2_with fail
  refine (of_lit [82, 82, 82, 82, 73] ([2, 2, 2, 2, 1] : List Int) _ (HL.out.keep gK) (by decide) (by kernel_rfl) 5 rfl).mono ?_
  rintro e w3 ⟨A3, c3, rfl, r3, k1⟩
  replace gK := keepN gK k1
  replace r2 := rd_n2 r2 k1
  clear k1
  go_wp2_with fail
  refine (enc_lit _ _ _ _ _ r3 rfl (by decide) [5, 85, 0] 0 ⟨by kernel_rfl, by kernel_rfl⟩ 3 rfl).mono ?_
  rintro e w4 ⟨A4, c4, rfl, r4, k1⟩
  replace gK := keepN gK k1
  replace r2 := rd_n2 r2 k1
  clear k1
  clear r3
  have hb := rd_bytes w4 5 [1, 4]
  have hk4 := (Keep.refl NoB w4).alloc (.cells (V.bvs [1, 4]).toArray 5)
  replace gK := keepN gK hk4
  replace r2 := rd_n2 r2 hk4
  replace r4 := rd_n2 r4 hk4
  have hb2 : ∀ ad, A2 = some ad → 0 < [3, 36].length → ad.block < (w4.alloc (.cells (V.bvs [1, 4]).toArray 5)).heap.size := fun ad e h0 => V.Rd.lt r2 e h0
  have hb4 : ∀ ad, A4 = some ad → 0 < [5, 85, 0].length → ad.block < (w4.alloc (.cells (V.bvs [1, 4]).toArray 5)).heap.size := fun ad e h0 => V.Rd.lt r4 e h0
  have hw4 := gK.size
  clear hk4
  go_wp2_with fail
  refine (V.on_any _ (some ⟨w4.heap.size, 0, none⟩) [1, 4] 2 hb (by decide)).mono ?_
  rintro e w5 ⟨br, rfl, hR, k1⟩
  have hbr := reel_lt hR
  have hbo : (w4.alloc (.cells (V.bvs [1, 4]).toArray 5)).heap.size ≤ br := hR.1
  replace gK := keepN gK k1
  replace r2 := rd_n2 r2 k1
  replace r4 := rd_n2 r4 k1
  clear hb k1
  have hg4 : w4.heap.size < br := by have := hbo; simp [World.size_alloc] at this; omega
  have b2 : ∀ ad, A2 = some ad → 0 < [3, 36].length → ad.block < br := fun ad e h0 => by have := hb2 ad e h0; omega
  have b4 : ∀ ad, A4 = some ad → 0 < [5, 85, 0].length → ad.block < br := fun ad e h0 => by have := hb4 ad e h0; omega
  have hwb : w.heap.size ≤ br := by have := hw4; omega
  clear hb2 hb4 hbo hw4
  go_wp2_with fail
  refine (decS_lit w5 br _ [1, 4] 0 hR (by decide) (by kernel_rfl)).mono ?_
  rintro e w6 ⟨A6, c6, rfl, k1⟩
  replace gK := keep_br gK k1 hwb
  replace r2 : V.Rd w6 A2 [3, 36] := r2.keep k1 (fun ad e h0 he => by have := b2 ad e h0; omega)
  replace r4 : V.Rd w6 A4 [5, 85, 0] := r4.keep k1 (fun ad e h0 he => by have := b4 ad e h0; omega)
  clear k1 hR hbr hg4 b2 b4 hwb
  have cv2 : (convert 23 9 (.slice A2 2 c2)).run Tryd.prog w6 = .ok (.string ⟨#[3, 36]⟩) w6 := V.conv_rd (c := c2) r2
  have cv4 : (convert 23 9 (.slice A4 3 c4)).run Tryd.prog w6 = .ok (.string ⟨#[5, 85, 0]⟩) w6 := V.conv_rd (c := c4) r4
  clear r2 r4
  go_wp2_with fail
  refine (sig_lit [73, 80] [82] ([1, 4] : List Int) ([2] : List Int) _ (HL.out.keep gK) (by decide) (by decide) (by kernel_rfl) (by kernel_rfl) 2 1 rfl rfl).mono ?_
  rintro e w7 ⟨A7, c7, A8, c8, rfl, r7, r8, k1⟩
  replace gK := keepN gK k1
  clear k1
  go_wp2_with fail
  refine (showG_lit A7 ([1, 4] : List Int) 2 c7 A8 ([2] : List Int) 1 c8 _ (HL.out.keep gK) r7 r8 rfl rfl (by decide) (by decide) [73, 80, 62, 82] (by kernel_rfl)).mono ?_
  rintro e w8 ⟨rfl, k1⟩
  replace gK := keepN gK k1
  clear k1
  clear r7 r8
  go_wp2_with fail
  refine (showG_lit none [] 0 0 none [] 0 0 _ (HL.out.keep gK) (Rd.none_ _ _) (Rd.none_ _ _) rfl rfl (by decide) (by decide) [62] (by kernel_rfl)).mono ?_
  rintro e w9 ⟨rfl, k1⟩
  replace gK := keepN gK k1
  clear k1
  go_wp2_with fail
  refine (of_lit [80] ([4] : List Int) _ (HL.out.keep gK) (by decide) (by kernel_rfl) 1 rfl).mono ?_
  rintro e w10 ⟨A10, c10, rfl, r10, k1⟩
  replace gK := keepN gK k1
  clear k1
  go_wp2_with fail
  refine (chkS_any _ _ _ _ _ r10 rfl (by decide) 60 (show chkS [4] = 60 by kernel_rfl)).mono ?_
  rintro e w11 ⟨rfl, k1⟩
  replace gK := keepN gK k1
  clear k1
  clear r10
  go_wp2_with fail
  refine (sig_lit [] [80] ([] : List Int) ([4] : List Int) _ (HL.out.keep gK) (by decide) (by decide) (by kernel_rfl) (by kernel_rfl) 0 1 rfl rfl).mono ?_
  rintro e w12 ⟨A12, c12, A13, c13, rfl, r12, r13, k1⟩
  replace gK := keepN gK k1
  clear k1
  go_wp2_with fail
  refine (chkG_any _ _ _ _ _ _ _ _ _ r12 r13 rfl rfl (by decide) (by decide) 61 (show chkG [] [4] = 61 by kernel_rfl)).mono ?_
  rintro e w13 ⟨rfl, k1⟩
  replace gK := keepN gK k1
  clear k1
  go_wp2
  go_ret
  exact ⟨rfl, gK⟩

end Go.Proofs.YtieejecodfeodaaDoor.S

namespace Go.Proofs.YtieejecodfeodaaDoor.S
open Go.RowKit W

theorem one_ok {t : Int} (h : heldB t = true) : chkS [t] = 0 := chkS_ok (okS_mk (by simp) (by simp [h]))
theorem held_count {a : List Int} (h : a.all knownB = true) : (a.all heldB = true) ↔ a.count 4 = 0 := by
  rw [List.count_eq_zero, List.all_eq_true]
  rw [List.all_eq_true] at h
  constructor
  · intro h2 h4
    have := h2 4 h4
    exact absurd this (by decide)
  · intro h4 x hx
    have h1 := (known_iff x).1 (h x hx)
    have : x ≠ 4 := fun e => h4 (e ▸ hx)
    rw [held_iff]; omega
theorem turn_ok {a r : List Int} (h : okG a r = true) : chkG r a = if a.count 4 = 0 then 0 else 61 := by
  obtain ⟨h1, h2, h3⟩ := (okG_iff a r).1 h
  by_cases hc : a.count 4 = 0
  · rw [if_pos hc]
    exact chkG_ok (okG_mk (by omega) (all_known h3) ((held_count h2).2 hc))
  · rw [if_neg hc]
    refine chkG_no (okG_res ?_)
    cases hh : a.all heldB
    · rfl
    · exact absurd ((held_count h2).1 hh) hc
theorem rd_sub {w : World} {g o : Nat} {l : List Int} {k : Nat} (hk : k < l.length) (h : ∀ (i : Nat) (hi : i < l.length), w.cell? ⟨g, o + i, none⟩ = some (.int .i64 l[i])) : Rd w (some ⟨g, o + k, none⟩) (ivs [l[k]]) := fun _ => ⟨g, o + k, rfl, fun j u hu => by
  cases j with
  | zero =>
    simp at hu
    rw [Nat.add_zero, h k hk, ← hu]
  | succ j => simp at hu⟩
theorem count_step {a : List Int} {k : Nat} (hk : k < a.length) : (a.take (k + 1)).count 4 = (a.take k).count 4 + if a[k] = 4 then 1 else 0 := by
  rw [List.take_succ_eq_append_getElem hk, List.count_append, List.count_singleton]
  by_cases h : a[k] = 4
  · rw [h]; simp
  · have : (a[k] == 4) = false := by rw [beq_eq_false_iff_ne]; exact h
    rw [this, if_neg h]; rfl
theorem chk_beq (l : List Int) : (chkS l == 0) = okS l := by
  cases h : okS l
  · rw [chkS_no h]; rfl
  · rw [chkS_ok h]; rfl

set_option maxRecDepth 100000 in
set_option maxHeartbeats 8000000 in
theorem parts_walk (A : Option Addr) (l : List Int) (n c : Nat) (A1 : Option Addr) (a : List Int) (n1 c1 : Nat) (B1 : Option Addr) (r : List Int) (m1 d1 : Nat) (w : World) (hL0 : LetAt w) (hr : Rd w A (ivs l)) (ha : Rd w A1 (ivs a)) (hb : Rd w B1 (ivs r))
    (hn : Hid (l.length = n)) (hn1 : Hid (a.length = n1)) (hm1 : Hid (r.length = m1)) (hc : n ≤ c) (hc1 : n1 ≤ c1) (hd1 : m1 ≤ d1) (hcm : c ≤ maxLen) (hd1m : d1 ≤ maxLen) :
    Calls Tryd.prog 8 #[.slice A n c, .agg #[.slice A1 n1 c1, .slice B1 m1 d1]] w fun e w' => e = .returned (.bool true) ∧ Keep NoB w w' := by
  unfold maxLen at hcm hd1m
  have HL := Lib.hid hL0
  have bx := Blk.new w 26 #[.slice A1 n1 c1, .slice B1 m1 d1]
  have k0 := (Keep.refl NoB w).alloc (.cells #[.slice A1 n1 c1, .slice B1 m1 d1] 26)
  clear hL0
  by_cases hg : n ≤ 100 ∧ n1 ≤ 100 ∧ m1 ≤ 100
  · have HG := Lib.hid (fun w => great_no A A1 B1 n c n1 c1 m1 d1 w hg.1 hg.2.1 hg.2.2)
    have HC := Lib.hid (fun w hr => chkS_any A l n c w hr hn (by omega) (chkS l) rfl)
    have hfine := chk_beq l
    have HK := Lib.hid (fun w (z : Int) hr => cell_any A l n c z w hr hn (by omega) _ _ ⟨rfl, rfl⟩)
    obtain ⟨h100, h101, h102⟩ := hg
    have hr0 := Lib.hid hr
    have ha0 := Lib.hid ha
    have hb0 := Lib.hid hb
    obtain ⟨Rv, hRv⟩ : ∃ Rv, chkS l = Rv := ⟨_, rfl⟩
    obtain ⟨fv, hfv⟩ : ∃ fv, okS l = fv := ⟨_, rfl⟩
    rw [hRv] at HC hfine
    rw [hfv] at hfine
    have HFV := Lib.hid hfv
    clear hr ha hb hRv hfv
    go_enter Tryd.func8, Tryd.ntmps8
    go_wp2_with fail
    refine (alive_any _ (HL.out.keep k0)).mono ?_
    rintro e w1 ⟨rfl, k1⟩
    have bx1 := bx.keep k1 id
    have gK := keepN k0 k1
    obtain ⟨x0, x1⟩ := blk2 bx1
    clear bx k0 k1
    go_wp2_with fail
    refine (HG.out _).mono ?_
    rintro e w2 ⟨rfl, k2⟩
    replace bx1 := bx1.keep k2 id
    replace gK := keepN gK k2
    clear x0 x1 k2
    go_wp2_with fail
    refine (HC.out _ (hr0.out.keepN gK)).mono ?_
    rintro e w3 ⟨rfl, k3⟩
    replace bx1 := bx1.keep k3 id
    replace gK := keepN gK k3
    clear k3 HG HC
    go_wp2
    go_loopw [7] (fun i wr => ∃ z : Int, i = .int .i64 z ∧ -1 ≤ z ∧ z ≤ (n : Int) + 1 ∧ Keep NoB w3 wr) (fun i _ => ((n : Int) + 1 - intOf i).toNat)
    case atStart => exact ⟨-1, rfl, by omega, by omega, Keep.refl _ _⟩
    case round =>
      obtain ⟨z, rfl, hz1, hz2, hK⟩ := hrel
      have hrr := (hr0.out.keepN gK).keepN hK
      by_cases hz : z ≤ n
      · cases fv
        · have hE := cell_no (l := l) (i := z) (by rw [HFV.out]; intro h; exact absurd h.1 (by decide))
          have HK2 := Lib.hid (HK.out wr z hrr)
          rw [hE.1, hE.2] at HK2
          clear hE hrr HK
          go_wp2_with fail
          refine HK2.out.mono ?_
          rintro e w5 ⟨rfl, k5⟩
          go_wp2
          go_roundw
          case rel => exact ⟨z + 1, by go_num, by omega, by omega, keepN hK k5⟩
          case measure => simp [intOf]; omega
        · by_cases hin : 0 ≤ z ∧ z < n
          · obtain ⟨hin1, hin2⟩ := hin
            obtain ⟨k, rfl⟩ := Int.eq_ofNat_of_zero_le hin1
            have hkl : k < l.length := by rw [hn.out]; omega
            have hE := cell_yes HFV.out hkl
            have HK2 := Lib.hid (HK.out wr k hrr)
            rw [hE.1, hE.2] at HK2
            have hall := ((okS_iff l).1 HFV.out).2
            have hx := List.all_eq_true.1 hall _ (List.getElem_mem hkl)
            obtain ⟨g, o, rfl, hcell⟩ := rdI_at hrr (by omega)
            have ck := hcell k hkl
            have hsub := rd_sub hkl hcell
            have hone := one_ok hx
            have HCK := Lib.hid (fun (w : World) (hr : Rd w (some ⟨g, o + k, none⟩) (ivs [l[k]])) => chkS_any (some ⟨g, o + k, none⟩) [l[k]] 1 (c - k) w hr rfl (by decide) 0 hone)
            have HS := Lib.hid hsub
            have hck : ¬ c = k := by omega
            have hkc : (k : Int) < (c : Int) := by omega
            clear hE hrr HK hall hx hcell hsub hone hin1
            generalize l[k] = x at HK2 ck HCK HS
            go_wp2_with fail
            refine HK2.out.mono ?_
            rintro e w5 ⟨rfl, k5⟩
            have ck5 := k5.cell ck id
            clear ck
            go_wp2_with (go_at_call 22; refine (HCK.out _ (HS.out.keepN k5)).mono ?_; rintro e w6 ⟨rfl, k6⟩)
            go_roundw
            case rel => exact ⟨(k : Int) + 1, by go_num, by omega, by omega, keepN (keepN hK k5) k6⟩
            case measure => simp [intOf]; omega
          · have hE := cell_no (l := l) (i := z) (by rw [hn.out]; omega)
            have HK2 := Lib.hid (HK.out wr z hrr)
            rw [hE.1, hE.2] at HK2
            clear hE hrr HK
            by_cases hz0 : 0 ≤ z
            · have hzn : ¬ z < n := by omega
              go_wp2_with fail
              refine HK2.out.mono ?_
              rintro e w5 ⟨rfl, k5⟩
              go_wp2
              go_roundw
              case rel => exact ⟨z + 1, by go_num, by omega, by omega, keepN hK k5⟩
              case measure => simp [intOf]; omega
            · go_wp2_with fail
              refine HK2.out.mono ?_
              rintro e w5 ⟨rfl, k5⟩
              go_wp2
              go_roundw
              case rel => exact ⟨z + 1, by go_num, by omega, by omega, keepN hK k5⟩
              case measure => simp [intOf]; omega
      · have bxr := bx1.keep hK id
        have gKr := keepN gK hK
        clear bx1 gK hK hrr HK HFV hfine
        cases ho : okG a r
        · have HGC := Lib.hid (fun w ha hr => chkG_any A1 a n1 c1 B1 r m1 d1 w ha hr hn1 hm1 (by omega) (by omega) 61 (chkG_no ho))
          obtain ⟨x0, x1⟩ := blk2 bxr
          clear ho
          go_wp2_with (go_at_call 34; refine (HGC.out _ (ha0.out.keepN gKr) (hb0.out.keepN gKr)).mono ?_; rintro e w4 ⟨rfl, k4⟩)
          go_ret
          exact ⟨rfl, keepN gKr k4⟩
        · have HGC := Lib.hid (fun w ha hr => chkG_any A1 a n1 c1 B1 r m1 d1 w ha hr hn1 hm1 (by omega) (by omega) 0 (chkG_ok ho))
          have HTC := Lib.hid (fun w ha hr => chkG_any B1 r m1 d1 A1 a n1 c1 w ha hr hm1 hn1 (by omega) (by omega) _ (turn_ok ho))
          have HSM := Lib.hid (fun w ha hr ha' hr' => same_any A1 a n1 c1 B1 r m1 d1 A1 a n1 c1 B1 r m1 d1 w ha hr ha' hr' hn1 hm1 hn1 hm1 (by omega) (by omega) (by omega) (by omega) true (show true = _ by simp))
          have HHR := Lib.hid ((okG_iff a r).1 ho).2.2
          obtain ⟨x0, x1⟩ := blk2 bxr
          clear ho
          go_wp2_with fail
          refine (HGC.out _ (ha0.out.keepN gKr) (hb0.out.keepN gKr)).mono ?_
          rintro e w4 ⟨rfl, k4⟩
          have bx4 := bxr.keep k4 id
          have gK4 := keepN gKr k4
          clear x0 x1 k4 bxr gKr HGC
          obtain ⟨x0, x1⟩ := blk2 bx4
          have ha4 := ha0.out.keepN gK4
          have HHA := Lib.hid ha4
          clear ha4
          go_wp2
          go_loop [11, 83] (fun ct i => ∃ k : Nat, k ≤ n1 ∧ i = .int .i64 k ∧ ∃ q : Nat, q ≤ k ∧ ct = .int .i64 q ∧ Hid ((a.take k).count 4 = q)) (fun _ i => n1 - (intOf i).toNat)
          case atStart => exact ⟨0, Nat.zero_le _, rfl, 0, Nat.le_refl _, rfl, rfl⟩
          case round =>
            obtain ⟨k, hk, rfl, q, hq, rfl, hct⟩ := hrel
            by_cases hlt : k < n1
            · have hka : k < a.length := by rw [hn1.out]; exact hlt
              obtain ⟨ga, oa, rfl, hca⟩ := rdI_at HHA.out (by omega)
              have ca := hca k hka
              have HS := Lib.hid (count_step hka)
              clear hca
              generalize a[k] = x at ca HS
              by_cases hx : x = 4
              · subst hx
                have HQ : Hid ((a.take (k + 1)).count 4 = q + 1) := by show _ = _; rw [HS.out, hct.out]; rfl
                clear HS hct
                go_wp2
                go_round
                case rel => exact ⟨k + 1, by omega, by go_num, q + 1, by omega, by go_num, HQ⟩
                case measure => simp [intOf]; omega
              · have HQ : Hid ((a.take (k + 1)).count 4 = q) := by show _ = _; rw [HS.out, hct.out, if_neg hx]; rfl
                have hxq : (x == 4) = false := by rw [beq_eq_false_iff_ne]; exact hx
                clear HS hct hx
                go_wp2
                go_round
                case rel => exact ⟨k + 1, by omega, by go_num, q, by omega, rfl, HQ⟩
                case measure => simp [intOf]; omega
            · obtain rfl : k = n1 := by omega
              have HQ : Hid (a.count 4 = q) := by
                have := hct.out
                rwa [List.take_of_length_le (by rw [hn1.out]; exact Nat.le_refl _)] at this
              clear hct HHA
              go_wp2
              clear x0 x1
              go_loopw [95] (fun i wr => ∃ j : Nat, j ≤ m1 ∧ i = .int .i64 j ∧ Keep NoB w4 wr) (fun i _ => m1 - (intOf i).toNat)
              case atStart => exact ⟨0, Nat.zero_le _, rfl, Keep.refl _ _⟩
              case round =>
                obtain ⟨j, hj, rfl, hK⟩ := hrel
                have bxj := bx4.keep hK id
                have gKj := keepN gK4 hK
                obtain ⟨x0, x1⟩ := blk2 bxj
                by_cases hjl : j < m1
                · have hjr : j < r.length := by rw [hm1.out]; exact hjl
                  have hx := List.all_eq_true.1 HHR.out _ (List.getElem_mem hjr)
                  obtain ⟨g, o, rfl, hcell⟩ := rdI_at (hb0.out.keepN gKj) (by omega)
                  have hsub := rd_sub hjr hcell
                  have hone := one_ok hx
                  have HCK := Lib.hid (fun (w : World) (hr : Rd w (some ⟨g, o + j, none⟩) (ivs [r[j]])) => chkS_any (some ⟨g, o + j, none⟩) [r[j]] 1 (d1 - j) w hr rfl (by decide) 0 hone)
                  have HS := Lib.hid hsub
                  have hck : ¬ d1 = j := by omega
                  have hkc : (j : Int) < (d1 : Int) := by omega
                  clear hx hcell hsub hone
                  generalize r[j] = x at HCK HS
                  go_wp2_with (go_at_call 22; refine (HCK.out _ HS.out).mono ?_; rintro e w6 ⟨rfl, k6⟩)
                  go_roundw
                  case rel => exact ⟨j + 1, by omega, by go_num, keepN hK k6⟩
                  case measure => simp [intOf]; omega
                · have haj := ha0.out.keepN gKj
                  have hbj := hb0.out.keepN gKj
                  by_cases hq0 : q = 0
                  · subst hq0
                    have HT2 := Lib.hid (fun w ha hr => HTC.out w ha hr)
                    rw [HQ.out, if_pos rfl] at HT2
                    clear bx4 gK4 hK HTC
                    go_wp2_with fail
                    refine (HT2.out _ hbj haj).mono ?_
                    rintro e w7 ⟨rfl, k7⟩
                    obtain ⟨y0, y1⟩ := blk2 (bxj.keep k7 id)
                    clear x0 x1
                    go_wp2_with (go_at_call 38; refine (HSM.out _ (haj.keepN k7) (hbj.keepN k7) (haj.keepN k7) (hbj.keepN k7)).mono ?_; rintro e w8 ⟨rfl, k8⟩)
                    go_ret
                    exact ⟨rfl, keepN (keepN gKj k7) k8⟩
                  · have HT2 := Lib.hid (fun w ha hr => HTC.out w ha hr)
                    rw [HQ.out, if_neg hq0] at HT2
                    have hqq : ((q : Int) == 0) = false := by rw [beq_eq_false_iff_ne]; omega
                    clear bx4 gK4 hK HTC hq0
                    go_wp2_with fail
                    refine (HT2.out _ hbj haj).mono ?_
                    rintro e w7 ⟨rfl, k7⟩
                    obtain ⟨y0, y1⟩ := blk2 (bxj.keep k7 id)
                    clear x0 x1
                    go_wp2_with (go_at_call 38; refine (HSM.out _ (haj.keepN k7) (hbj.keepN k7) (haj.keepN k7) (hbj.keepN k7)).mono ?_; rintro e w8 ⟨rfl, k8⟩)
                    go_ret
                    exact ⟨rfl, keepN (keepN gKj k7) k8⟩
  · have HG := Lib.hid (fun w => great_yes A A1 B1 n c n1 c1 m1 d1 w hg)
    clear hg
    go_enter Tryd.func8, Tryd.ntmps8
    go_wp2_with fail
    refine (alive_any _ (HL.out.keep k0)).mono ?_
    rintro e w1 ⟨rfl, k1⟩
    obtain ⟨x0, x1⟩ := blk2 (bx.keep k1 id)
    have gK := keepN k0 k1
    clear bx k0 k1
    go_wp2_with fail
    refine (HG.out _).mono ?_
    rintro e w2 ⟨rfl, k2⟩
    go_wp2
    go_ret
    exact ⟨rfl, keepN gK k2⟩

end Go.Proofs.YtieejecodfeodaaDoor.S

namespace Go.Proofs.YtieejecodfeodaaDoor.V
open Go.ChangeShapes Go.WideShapes Go.ChangeAt Go.RowKit

theorem cellsU8 : Tryd.prog.cellsOf 5 = 1 := by kernel_rfl

theorem u8_bounds {n : Int} (h : (Lit.int .u8 n).wf = true) : 0 ≤ n ∧ n < 256 := by
  have hmin : IntKind.u8.min = 0 := rfl
  have hmax : IntKind.u8.max = 255 := rfl
  simp only [Lit.wf, Bool.and_eq_true, decide_eq_true_eq] at h
  omega

/-- The bytes of a list of numbers that fit bytes. -/
def toU8 (zs : List Int) : List UInt8 := zs.map fun z => UInt8.ofNat z.toNat
theorem bvs_toU8 (zs : List Int) (h : ∀ n ∈ zs, (Lit.int .u8 n).wf = true) : bvs (toU8 zs) = zs.map (Value.int .u8) := by
  unfold bvs toU8
  rw [List.map_map]
  apply List.map_congr_left
  intro z hz
  obtain ⟨h0, h1⟩ := u8_bounds (h z hz)
  show Value.int .u8 (((UInt8.ofNat z.toNat).toNat : Nat) : Int) = _
  rw [UInt8.toNat_ofNat', Nat.mod_eq_of_lt (show z.toNat < 2 ^ 8 by omega)]
  congr 1
  omega

set_option maxRecDepth 100000 in
theorem read_bytes {H : Type} {enc : TypeId × Value → H} {W : World} {base : Nat} {spare : Nat → Bool} {held : Bool} {fuel : Nat} {cs : List Value} {x : DataW H × List MemPlace}
    (h : DataW.trod enc Tryd.prog W base spare held fuel 23 cs = some x) : ∃ A l c, cs = [.slice A l.length c] ∧ Rd W A l ∧ l.length ≤ c ∧ c ≤ maxLen := by
  rcases open_ints Tryd.underlying23 Tryd.underlying5 cellsU8 h with ⟨hcs, _⟩ | ⟨a, len, cap, zs, hcs, _, hl, hm, hz, _, hcell, hwz⟩
  · exact ⟨none, [], 0, hcs, Rd.none_ _ _, Nat.le_refl _, Nat.zero_le _⟩
  · have hzl : len ≤ zs.length := by rw [hz]; split <;> omega
    have hlen : (toU8 (zs.take len)).length = len := by simp [toU8]; omega
    refine ⟨some a, toU8 (zs.take len), cap, by rw [hlen]; exact hcs, fun _ => ⟨a, rfl, fun j u hu => ?_⟩, by rw [hlen]; exact hl, hm⟩
    rw [bvs_toU8 _ (fun n hn => hwz n (List.mem_of_mem_take hn))] at hu
    obtain ⟨hj, hju⟩ := List.getElem?_eq_some_iff.1 hu
    have hj' : j < len := by simp at hj; omega
    have hc := hcell j (by omega)
    rw [hc]
    simp at hju
    rw [← hju]
    simp [List.getD, List.getElem?_eq_getElem (show j < zs.length by omega)]

section
variable {H : Type} {enc : TypeId × Value → H} {w : World} {base b0 : Nat} {spare : Nat → Bool} {held : Bool} {r : Reach} {v : Value} {d : DataW H} {p : List MemPlace}
set_option maxRecDepth 100000 in
theorem open_bytes (hv : Value.okWide Tryd.prog w r b0 23 v) (h : DataW.Trod enc Tryd.prog w base spare held 23 v d p) : ∃ A l c, v = .slice A l.length c ∧ Rd w A l ∧ l.length ≤ c ∧ c ≤ maxLen := by
  obtain ⟨a0, len, cap, rfl⟩ := okWide_slice Tryd.underlying23 hv
  obtain ⟨fuel, hf⟩ := h
  obtain ⟨A, l, c, hcs, hr, hc, hm⟩ := read_bytes hf
  simp only [Value.cells, List.cons.injEq, Value.slice.injEq, and_true] at hcs
  obtain ⟨rfl, rfl, rfl⟩ := hcs
  exact ⟨_, l, _, rfl, hr, hc, hm⟩
end

end Go.Proofs.YtieejecodfeodaaDoor.V

namespace Go.Proofs.YtieejecodfeodaaDoor.S
open Go.ChangeShapes Go.WideShapes Go.ChangeAt Go.RowKit W

theorem seatOwn : ownKnob Tryd.prog.godebug = none := by kernel_rfl
theorem seatLaidOut : laidOutB Tryd.prog = true := by kernel_rfl
theorem tLet : (Tryd.prog.globals[0]?).map (·.type) = some 131 := by kernel_rfl
theorem letAt_of {rest : List (String × DataW Unit)} {W0 : World} (h : laidMet Tryd.prog (("backstay/value.letters", Rows.laid_backstay_value_letters) :: rest) W0) : LetAt W0 :=
  Lib.tabIs_of_head (zs := [0, 73, 82, 70, 80]) (k := .i32) W.gLet tLet Tryd.underlying131 Tryd.underlying21 (by kernel_rfl) (by kernel_rfl) h
theorem handed_and {H : Type} {enc : TypeId × Value → H} {a : Assume} {C : Checked} {os : Os} {f : FuncId} {fn : Func} {s : ChangeSpec} {conds : List PathCond} {apart fresh handsOn again : Bool} {X : World → Array Value → Prop}
    (hX : ∀ (w w' : World) (args : Array Value), w.heap = w'.heap → X w args → X w' args) (own : ownKnob C.prog.godebug = none) (started : os.Started) (noInit : C.prog.inits.idxOf? f = none) (hfn : C.prog.funcs[f]? = some fn)
    (witness : ∃ (w : World) (tape : Tape) (i : Input), w.os = os ∧ (w.forCall tape i).Shaped C.prog ∧ i.vars = [] ∧ Input.okWide C.prog (w.forCall tape i) .any w.heap.size f i ∧
      ((s.pre enc C.prog fn conds apart (w.forCall tape i).memory i.args ∧ X (w.forCall tape i).memory i.args) ∧ sizedMet enc C.prog fn (OpenSpec.ofChange s) apart (w.forCall tape i).memory i.args) ∧ a.holds C.prog (lone (Frame.enter C.prog f i.args .normal) [] (w.forCall tape i)))
    (contract : ∀ (W : World) (base : Nat) (args : Array Value) (ds gs : List (DataW H)) (before : List MemPlace),
      (∀ (j : Nat) t v, fn.params[j]? = some t → args[j]? = some v → Value.okWide C.prog W .any base t v) → DataW.Whole enc C.prog fn.params.toList s.vars apart W args.toList ds gs before →
      W.ShapedOpen C.prog → X W args → Calls C.prog f args W fun e W' => ∃ v, e = .returned v ∧ s.post enc C.prog fn apart fresh handsOn again W args v W') :
    ReturnsInHanded a C os f .any (fun w args => (s.pre enc C.prog fn conds apart w args ∧ X w args) ∧ sizedMet enc C.prog fn (OpenSpec.ofChange s) apart w args) (s.post enc C.prog fn apart fresh handsOn again) := by
  refine returnsInHanded_of_calls own started noInit witness ?_
  intro w tape i _ hsh _ hok hpre _
  obtain ⟨_, _, _, fn', hfn', _, _, _, _, hval⟩ := hok
  obtain rfl : fn' = fn := Option.some.inj (hfn'.symm.trans hfn)
  obtain ⟨⟨⟨ds, gs, before, hw, _⟩, hx⟩, _⟩ := hpre
  refine (contract (w.forCall tape i) w.heap.size i.args ds gs before hval (DataW.Whole.of_heap (w' := w.forCall tape i) (by rfl) hw) hsh (hX _ _ _ (by rfl) hx)).mono fun e W' ⟨v, he, hp⟩ => ?_
  subst he
  exact ChangeSpec.post_blind hp

theorem addr_of_cell {w : World} {a : Addr} {v : Value} (h : w.cell? a = some v) : a = ⟨a.block, a.off, none⟩ := by
  obtain ⟨b, o, s⟩ := a
  cases s with
  | none => rfl
  | some s => unfold World.cell? at h; split at h <;> simp at h
theorem add_of (b o k : Nat) : (⟨b, o, none⟩ : Addr).add k = ⟨b, o + k, none⟩ := by unfold Addr.add; by_cases hk : k = 0 <;> simp [hk]

section
variable {H : Type} {enc : TypeId × Value → H} {W0 : World} {base : Nat} {spare : Nat → Bool} {held : Bool} {fuel : Nat} {cs : List Value} {x : DataW H × List MemPlace}
theorem read_ints (h : DataW.trod enc Tryd.prog W0 base spare held fuel 22 cs = some x) : ∃ A l c, cs = [.slice A l.length c] ∧ Rd W0 A (ivs l) ∧ l.length ≤ c ∧ c ≤ maxLen := by
  rcases open_ints Tryd.underlying22 Tryd.underlying3 (by kernel_rfl) h with ⟨hcs, _⟩ | ⟨a, len, cap, zs, hcs, _, hl, hm, hz, _, hcell, _⟩
  · exact ⟨none, [], 0, hcs, Rd.none_ _ _, Nat.le_refl _, Nat.zero_le _⟩
  · have hzl : len ≤ zs.length := by rw [hz]; split <;> omega
    have hlen : (zs.take len).length = len := by rw [List.length_take]; omega
    refine ⟨some a, zs.take len, cap, by rw [hlen]; exact hcs, fun h0 => ?_, by rw [hlen]; exact hl, hm⟩
    have h0' : 0 < len := by rw [List.length_map, hlen] at h0; exact h0
    have ea := addr_of_cell (hcell 0 (by omega))
    have ea' : a = ⟨a.block, a.off, none⟩ := by simpa [Addr.add] using ea
    refine ⟨a.block, a.off, by rw [← ea'], fun j u hu => ?_⟩
    obtain ⟨hj, hju⟩ := List.getElem?_eq_some_iff.1 hu
    have hj' : j < len := by simp at hj; omega
    have hc := hcell j (by omega)
    rw [ea', add_of] at hc
    rw [hc]
    simp at hju
    rw [← hju]
    simp [List.getD, List.getElem?_eq_getElem (show j < zs.length by omega)]
end
section
variable {H : Type} {enc : TypeId × Value → H} {w : World} {base b0 : Nat} {spare : Nat → Bool} {held : Bool} {r : Reach} {v : Value} {d : DataW H} {p : List MemPlace}
set_option maxRecDepth 100000 in
theorem open_list (hv : Value.okWide Tryd.prog w r b0 22 v) (h : DataW.Trod enc Tryd.prog w base spare held 22 v d p) : ∃ A l c, v = .slice A l.length c ∧ Rd w A (ivs l) ∧ l.length ≤ c ∧ c ≤ maxLen := by
  obtain ⟨a0, len, cap, rfl⟩ := okWide_slice Tryd.underlying22 hv
  obtain ⟨fuel, hf⟩ := h
  obtain ⟨A, l, c, hcs, hr, hc, hm⟩ := read_ints hf
  simp only [Value.cells, List.cons.injEq, Value.slice.injEq, and_true] at hcs
  obtain ⟨rfl, rfl, rfl⟩ := hcs
  exact ⟨_, l, _, rfl, hr, hc, hm⟩
set_option maxRecDepth 100000 in
theorem open_sig (hv : Value.okWide Tryd.prog w r b0 26 v) (h : DataW.Trod enc Tryd.prog w base spare held 26 v d p) :
    ∃ A a c B r d, v = .agg #[.slice A a.length c, .slice B r.length d] ∧ Rd w A (ivs a) ∧ Rd w B (ivs r) ∧ a.length ≤ c ∧ r.length ≤ d ∧ c ≤ maxLen ∧ d ≤ maxLen := by
  obtain ⟨v0, v1, y0, y1, n, rfl, _, _, h0, h1⟩ := Joins.open_agg2 Tryd.underlying26 (by kernel_rfl) (by kernel_rfl) hv h
  obtain ⟨A, a, c, e0, ra, hc, hm⟩ := read_ints h0
  obtain ⟨B, r, d, e1, rb, hd, hm2⟩ := read_ints h1
  simp only [List.cons.injEq, and_true] at e0 e1
  subst e0 e1
  exact ⟨A, a, c, B, r, d, rfl, ra, rb, hc, hd, hm, hm2⟩
end

end Go.Proofs.YtieejecodfeodaaDoor.S
