/-
  What the document's Decode and DecodeSignature answer. Conditions: the Reel reads bytes in memory, no more than 2^47.
  The document's Decode of a function. Conditions: the Reel reads bytes in memory, no more than 2^47.
  What the document's Decode of images answers. Conditions: the bytes lie in memory, no more than 2^30.
  What the document's Decode of images answers, where there is room for a sum. Conditions: the bytes lie in memory, no more than 2^30.
-/
import Derived.Test.YtgifflfjhockaaaGreatDoorQ15
import Derived.Test.YtgifflfjhockaaaGreatDoorQ9
import Derived.Test.YtgifflfjhockaaaGreatDoorQ12
import Derived.Test.YtgifflfjhockaaaGreatDoorQ3
import Derived.Test.YtgifflfjhockaaaGreatDoorQ13
import Derived.Test.YtgifflfjhockaaaGreatDoorQ2
namespace Go.Proofs.YtgifflfjhockaaaGreatDoor.S
open Go.RowKit W

set_option maxRecDepth 100000 in
set_option maxHeartbeats 4000000 in
theorem rdecodeS_any (w : World) (br : Nat) (Ob : Nat → Prop) (l : List UInt8) (p : Nat) (h : V.RefAt w br Ob l p) (hlen : l.length ≤ 140737488355328) :
    Calls Tryz.prog 47 #[.pointer (some ⟨br, 0, none⟩)] w (ShpR w br (fun w' q => V.RefAt w' br Ob l q) (decS l p)) := by
  have HU := Lib.hid (rread_any w br Ob l p 16 (by omega) h hlen)
  cases hR : rdT l p 16 with
  | none =>
    have HD := Lib.hid (decS_none hR)
    rw [hR] at HU
    go_enter Tryz.func47, Tryz.ntmps47
    go_wp2_with fail
    refine HU.out.mono ?_
    rintro e w1 ⟨A1, n1, c1, q, rfl, _, h1, k1⟩
    go_wp2
    go_ret2
    exact shp_none HD.out h1 k1
  | some x =>
    obtain ⟨xs, qx⟩ := x
    obtain ⟨hk, hml, _⟩ := rdT_ok hR
    have HL : Hid (xs.length ≤ 16) := hml
    rw [hR] at HU
    cases ho : okS xs
    · have HD := Lib.hid (decS_no hR ho)
      have HI := Lib.hid (fun (A : Option Addr) (c : Nat) (w : World) hr => rchkS_any A xs xs.length c w hr rfl (by have := HL.out; omega) 60 (chkS_no ho))
      clear hR ho hk hml
      go_enter Tryz.func47, Tryz.ntmps47
      go_wp2_with fail
      refine HU.out.mono ?_
      rintro e w1 ⟨A1, n1, c1, q, rfl, hO, h1, k1⟩
      obtain ⟨rfl, rfl, hO1⟩ := hO _ rfl
      have r1 : Rd w1 A1 (ivs xs) := by
        obtain ⟨A', c', e, hr⟩ := own_rdI hO1
        cases e; exact hr
      clear hO hO1
      go_wp2_with (go_at_call 55; refine (HI.out _ _ _ r1).mono ?_; rintro e w2 ⟨rfl, k2⟩)
      go_ret2
      exact shp_none HD.out (h1.keep k2 (fun _ _ => id)) (keep_nb k1 k2)
    · have HD := Lib.hid (decS_some hR ho)
      have HI := Lib.hid (fun (A : Option Addr) (c : Nat) (w : World) hr => rchkS_any A xs xs.length c w hr rfl (by have := HL.out; omega) 0 (chkS_ok ho))
      clear hR ho hk hml
      go_enter Tryz.func47, Tryz.ntmps47
      go_wp2_with fail
      refine HU.out.mono ?_
      rintro e w1 ⟨A1, n1, c1, q, rfl, hO, h1, k1⟩
      obtain ⟨rfl, rfl, hO1⟩ := hO _ rfl
      have r1 : Rd w1 A1 (ivs xs) := by
        obtain ⟨A', c', e, hr⟩ := own_rdI hO1
        cases e; exact hr
      have HO1 := Lib.hid hO1
      clear hO hO1
      go_wp2_with (go_at_call 55; refine (HI.out _ _ _ r1).mono ?_; rintro e w2 ⟨rfl, k2⟩)
      go_ret2
      rw [HD.out]
      exact ⟨_, _, rfl, HO1.out.keepN k2, h1.keep k2 (fun _ _ => id), fun y hy => (by injection hy with hy; rw [← hy]), keep_nb k1 k2⟩

theorem decG_1 {l : List UInt8} {p : Nat} (h : rdT l p 64 = none) : decG l p = none := by unfold decG; rw [h]
theorem decG_2 {l : List UInt8} {p : Nat} {x : List Int × Nat} (h : rdT l p 64 = some x) (h2 : rdT l x.2 64 = none) : decG l p = none := by unfold decG; rw [h]; dsimp only; rw [h2]
theorem decG_3 {l : List UInt8} {p : Nat} {x y : List Int × Nat} (h : rdT l p 64 = some x) (h2 : rdT l x.2 64 = some y) (ho : okG x.1 y.1 = false) : decG l p = none := by
  unfold decG; rw [h]; dsimp only; rw [h2]; exact if_neg (by rw [ho]; decide)
theorem decG_4 {l : List UInt8} {p : Nat} {x y : List Int × Nat} (h : rdT l p 64 = some x) (h2 : rdT l x.2 64 = some y) (ho : okG x.1 y.1 = true) : decG l p = some ((x.1, y.1), y.2) := by
  unfold decG; rw [h]; dsimp only; rw [h2]; exact if_pos ho

set_option maxRecDepth 100000 in
set_option maxHeartbeats 4000000 in
theorem rdecodeG_any (w : World) (br : Nat) (Ob : Nat → Prop) (l : List UInt8) (p : Nat) (hO : ∀ k, Ob k → k < w.heap.size) (h : V.RefAt w br Ob l p) (hlen : l.length ≤ 140737488355328) :
    Calls Tryz.prog 91 #[.pointer (some ⟨br, 0, none⟩)] w (SigR w br (fun w' q => V.RefAt w' br Ob l q) (decG l p)) := by
  have hbr := ref_lt h
  have bz := Blk.new w 57 #[.slice none 0 0, .slice none 0 0]
  have k0 := (Keep.refl NoB w).alloc (.cells #[.slice none 0 0, .slice none 0 0] 57)
  have h0 := h.keep k0 (fun _ _ => id)
  have HU := Lib.hid (rread_any _ br Ob l p 64 (by omega) h0 hlen)
  have HOb : Hid (∀ k, Ob k → ¬ (k = w.heap.size)) := fun k hk e => by have := hO k hk; omega
  clear h h0
  cases hR : rdT l p 64 with
  | none =>
    have HD := Lib.hid (decG_1 hR)
    rw [hR] at HU
    go_enter Tryz.func91, Tryz.ntmps91
    go_wp2_with fail
    refine HU.out.mono ?_
    rintro e w1 ⟨A1, n1, c1, q, rfl, _, h1, k1⟩
    have bz1 := bz.keep k1 (fun e => by omega)
    obtain ⟨z0, z1⟩ := blk2 bz1
    have fz := fun i => bz1.frozen i
    have HBZ := Lib.hid (fun u v => blk_put2 bz1 u v)
    have gK := (k0.mono (O' := fun k => k = br) (fun _ hf _ => hf.elim)).trans k1 (fun _ h _ => h)
    clear bz bz1 k0 k1
    go_wp2
    refine bodyPost_ret (ret_sig rfl rfl (HBZ.out _ _) rfl) rfl ?_
    exact sig_none HD.out (h1.keep (keep_at2 w1 w.heap.size _ _) HOb.out) (keep_put2 gK (Nat.le_refl _) _ _)
  | some x =>
    obtain ⟨xs, qx⟩ := x
    obtain ⟨hk, hml, _⟩ := rdT_ok hR
    rw [hR] at HU
    have HU2 := Lib.hid (fun (w : World) (h : V.RefAt w br Ob l qx) => rread_any w br Ob l qx 64 (by omega) h hlen)
    have HO1 : Hid (w.heap.size < (w.alloc (.cells #[.slice none 0 0, .slice none 0 0] 57)).heap.size) := by show _ < _; simp
    cases hR2 : rdT l qx 64 with
    | none =>
      have HD := Lib.hid (decG_2 hR hR2)
      rw [hR2] at HU2
      clear hR hR2 hk
      go_enter Tryz.func91, Tryz.ntmps91
      go_wp2_with fail
      refine HU.out.mono ?_
      rintro e w1 ⟨A1, n1, c1, q, rfl, hq, h1, k1⟩
      obtain ⟨rfl, rfl, _⟩ := hq _ rfl
      have bz1 := bz.keep k1 (fun e => by omega)
      have gK := (k0.mono (O' := fun k => k = br) (fun _ hf _ => hf.elim)).trans k1 (fun _ h _ => h)
      clear bz k0 hq
      go_wp2_with fail
      refine (HU2.out _ h1).mono ?_
      rintro e w2 ⟨A2, n2, c2, q2, rfl, _, h2, k2⟩
      have bz2 := (bz1.keep k2 (fun e => by omega)).alloc (.cells #[.slice A1 xs.length c1, .slice A2 n2 c2] 57)
      have h3 := h2.keep ((Keep.refl NoB w2).alloc (.cells #[.slice A1 xs.length c1, .slice A2 n2 c2] 57)) (fun _ _ => id)
      obtain ⟨z0, z1⟩ := blk2 bz2
      have fz := fun i => bz2.frozen i
      have HBZ := Lib.hid (fun u v => blk_put2 bz2 u v)
      replace gK := (keep_bb gK k2).alloc (.cells #[.slice A1 xs.length c1, .slice A2 n2 c2] 57)
      clear bz1 bz2 k2 k1 h2
      go_wp2
      refine bodyPost_ret (ret_sig rfl rfl (HBZ.out _ _) rfl) rfl ?_
      exact sig_none HD.out (h3.keep (keep_at2 _ w.heap.size _ _) HOb.out) (keep_put2 gK (Nat.le_refl _) _ _)
    | some y =>
      obtain ⟨ys, qy⟩ := y
      obtain ⟨hk2, hml2, _⟩ := rdT_ok hR2
      rw [hR2] at HU2
      have HI : Hid ((okG xs ys = false → decG l p = none ∧ ∀ (A : Option Addr) (ca : Nat) (B : Option Addr) (cb : Nat) (w : World), Rd w A (ivs xs) → Rd w B (ivs ys) → Calls Tryz.prog 100 #[.agg #[.slice A xs.length ca, .slice B ys.length cb]] w fun e w' => e = .returned (.int .i64 61) ∧ Keep NoB w w') ∧
        (okG xs ys = true → decG l p = some ((xs, ys), qy) ∧ ∀ (A : Option Addr) (ca : Nat) (B : Option Addr) (cb : Nat) (w : World), Rd w A (ivs xs) → Rd w B (ivs ys) → Calls Tryz.prog 100 #[.agg #[.slice A xs.length ca, .slice B ys.length cb]] w fun e w' => e = .returned (.int .i64 0) ∧ Keep NoB w w')) :=
        ⟨fun ho => ⟨decG_3 hR hR2 ho, fun A ca B cb w ha hr => rchkG_any A xs xs.length ca B ys ys.length cb w ha hr rfl rfl (by omega) (by omega) 61 (chkG_no ho)⟩, fun ho => ⟨decG_4 hR hR2 ho, fun A ca B cb w ha hr => rchkG_any A xs xs.length ca B ys ys.length cb w ha hr rfl rfl (by omega) (by omega) 0 (chkG_ok ho)⟩⟩
      clear hR hR2 hk hk2
      go_enter Tryz.func91, Tryz.ntmps91
      go_wp2_with fail
      refine HU.out.mono ?_
      rintro e w1 ⟨A1, n1, c1, q, rfl, hq, h1, k1⟩
      obtain ⟨rfl, rfl, hO1⟩ := hq _ rfl
      have bz1 := bz.keep k1 (fun e => by omega)
      have gK := (k0.mono (O' := fun k => k = br) (fun _ hf _ => hf.elim)).trans k1 (fun _ h _ => h)
      replace hO1 := hO1.mono (O' := fun k => w.heap.size < k) (fun k hf _ => by have := HO1.out; unfold Fresh at hf; omega)
      have hs1 : w.heap.size < w1.heap.size := bz1.lt
      clear bz k0 hq k1 HO1
      go_wp2_with fail
      refine (HU2.out _ h1).mono ?_
      rintro e w2 ⟨A2, n2, c2, q2, rfl, hq2, h2, k2⟩
      obtain ⟨rfl, rfl, hO2⟩ := hq2 _ rfl
      replace hO2 := (hO2.mono (O' := fun k => w.heap.size < k) (fun k hf _ => by unfold Fresh at hf; omega)).keepN ((Keep.refl NoB w2).alloc (.cells #[.slice A1 xs.length c1, .slice A2 ys.length c2] 57))
      replace hO1 := (hO1.keep k2 (fun k hk e => by omega)).keepN ((Keep.refl NoB w2).alloc (.cells #[.slice A1 xs.length c1, .slice A2 ys.length c2] 57))
      have bz2 := (bz1.keep k2 (fun e => by omega)).alloc (.cells #[.slice A1 xs.length c1, .slice A2 ys.length c2] 57)
      have bg2 := Blk.new w2 57 #[.slice A1 xs.length c1, .slice A2 ys.length c2]
      have h3 := h2.keep ((Keep.refl NoB w2).alloc (.cells #[.slice A1 xs.length c1, .slice A2 ys.length c2] 57)) (fun _ _ => id)
      replace gK := (keep_bb gK k2).alloc (.cells #[.slice A1 xs.length c1, .slice A2 ys.length c2] 57)
      have r1 : Rd (w2.alloc (.cells #[.slice A1 xs.length c1, .slice A2 ys.length c2] 57)) A1 (ivs xs) := by
        obtain ⟨A', c', e, hr⟩ := own_rdI hO1
        cases e; exact hr
      have r2 : Rd (w2.alloc (.cells #[.slice A1 xs.length c1, .slice A2 ys.length c2] 57)) A2 (ivs ys) := by
        obtain ⟨A', c', e, hr⟩ := own_rdI hO2
        cases e; exact hr
      clear bz1 hq2 k2 h1 h2 HU HU2
      cases ho : okG xs ys
      · obtain ⟨hD, hI⟩ := HI.out.1 ho
        have HD := Lib.hid hD
        have HI2 := Lib.hid hI
        clear hD hI HI ho hO1 hO2
        go_wp2_with fail
        refine (HI2.out _ _ _ _ _ r1 r2).mono ?_
        rintro e w3 ⟨rfl, k3⟩
        have bz3 := bz2.keep k3 id
        obtain ⟨z0, z1⟩ := blk2 bz3
        have fz := fun i => bz3.frozen i
        have HBZ := Lib.hid (fun u v => blk_put2 bz3 u v)
        replace h3 := h3.keep k3 (fun _ _ => id)
        replace gK := keep_nb gK k3
        clear bz2 bz3 k3 r1 r2 HI2 bg2
        go_wp2
        refine bodyPost_ret (ret_sig rfl rfl (HBZ.out _ _) rfl) rfl ?_
        exact sig_none HD.out (h3.keep (keep_at2 w3 w.heap.size _ _) HOb.out) (keep_put2 gK (Nat.le_refl _) _ _)
      · obtain ⟨hD, hI⟩ := HI.out.2 ho
        have HD := Lib.hid hD
        have HI2 := Lib.hid hI
        clear hD hI HI ho
        go_wp2_with fail
        refine (HI2.out _ _ _ _ _ r1 r2).mono ?_
        rintro e w3 ⟨rfl, k3⟩
        have bz3 := bz2.keep k3 id
        obtain ⟨z0, z1⟩ := blk2 bz3
        obtain ⟨g0, g1⟩ := blk2 (bg2.keep k3 id)
        have fz := fun i => bz3.frozen i
        have HBZ := Lib.hid (fun u v => blk_put2 bz3 u v)
        replace h3 := h3.keep k3 (fun _ _ => id)
        have HP1 := Lib.hid (own_put2 (hO1.keepN k3) (Nat.le_refl _) (.slice A1 xs.length c1) (.slice A2 ys.length c2))
        have HP2 := Lib.hid (own_put2 (hO2.keepN k3) (Nat.le_refl _) (.slice A1 xs.length c1) (.slice A2 ys.length c2))
        replace gK := keep_nb gK k3
        clear bz2 bz3 k3 r1 r2 HI2 hO1 hO2 bg2
        go_wp2
        refine bodyPost_ret (ret_sig rfl rfl (HBZ.out _ _) rfl) rfl ?_
        rw [HD.out]
        exact ⟨_, _, _, rfl, HP1.out, HP2.out, h3.keep (keep_at2 w3 w.heap.size _ _) HOb.out, fun y hy => (by injection hy with hy; rw [← hy]), keep_put2 gK (Nat.le_refl _) _ _⟩

end Go.Proofs.YtgifflfjhockaaaGreatDoor.S

namespace Go.Proofs.YtgifflfjhockaaaGreatDoor.F
open Go.RowKit W

theorem st_of {l : List UInt8} {p q1 q2 q3 q4 : Nat} {s : List UInt8} {a r b : List Int} {d : List C.I3} (h1 : nmR l p = some (s, q1)) (h2 : S.decG l q1 = some ((a, r), q2)) (h3 : lcR l q2 = some (b, q3)) (h4 : C.decB l q3 = some (d, q4)) : st l p 4 = some (⟨s, a, r, b, d⟩, q4) := by
  show ((((some (nilF, p)).bind (stN l)).bind (stG l)).bind (stL l)).bind (stB l) = _
  simp only [Option.bind_some, stN, h1, Option.map_some, stG, h2, stL, h3, stB, h4]
/-- What the document's Bytes answers of a name. -/
def RnG (w : World) (At : World → Nat → Prop) (R : Option (List UInt8 × Nat)) (A : Option Addr) (n c : Nat) (E : Int) (w' : World) : Prop :=
  (R = none ∧ E ≠ 0 ∧ ∃ q, At w' q) ∨ (∃ s q, R = some (s, q) ∧ E = 0 ∧ V.OwnB w' (Fresh w) (.slice A n c) s ∧ s.length = n ∧ At w' q)
theorem rname_any (w : World) (br : Nat) (Ob : Nat → Prop) (l : List UInt8) (p : Nat) (h : V.RefAt w br Ob l p) (hlen : l.length ≤ 140737488355328) :
    Calls Tryz.prog 90 #[.pointer (some ⟨br, 0, none⟩), .int .i64 32] w fun e w' => ∃ A n c E, e = .returned (.tuple #[.slice A n c, .int .i64 E]) ∧ RnG w (fun w' q => V.RefAt w' br Ob l q) (nmR l p) A n c E w' ∧ Keep (fun k => k = br) w w' := by
  have HB := V.refbytesr_any w br Ob l p 32 h hlen (by omega) (by omega)
  rw [show (max (32 : Int) 0).toNat = 32 from rfl] at HB
  have hx := V.bnd_width (l.drop p) 32
  have hp := h.2.1
  rw [List.length_drop] at hx
  have hb0 : ∃ b, V.bnd (V.nx (l.drop p)) 32 = b := ⟨_, rfl⟩
  obtain ⟨⟨n, d, r⟩, hb⟩ := hb0
  rw [hb] at HB hx
  dsimp only at hx
  refine HB.mono ?_
  rintro e w1 (⟨hr, rfl, h1, k1⟩ | ⟨hr, (⟨hs, rfl, h1, k1⟩ | ⟨hs, A, c, rfl, hO, h1, k1⟩)⟩)
  · exact ⟨_, _, _, _, rfl, .inl ⟨nmR_1 hb hr, by dsimp only at hr ⊢; omega, p, h1⟩, k1⟩
  · dsimp only at hr hs
    subst hr
    exact ⟨_, _, _, _, rfl, .inl ⟨nmR_2 hb (by omega), by decide, p, h1⟩, k1⟩
  · dsimp only at hr hs hO h1 ⊢
    subst hr
    rw [Int.toNat_natCast] at hO h1 ⊢
    have hns : ¬ l.length < p + d + n := by omega
    exact ⟨_, _, _, _, rfl, .inr ⟨_, _, nmR_3 hb hns, rfl, hO, by rw [List.length_take, List.length_drop]; omega, h1⟩, k1⟩
theorem blk2F {w : World} {g : Nat} {t : TypeId} {u v : Value} (h : Blk w g t #[u, v]) : w.cell? ⟨g, 0, none⟩ = some u ∧ w.cell? ⟨g, 1, none⟩ = some v := ⟨h.cell 0, h.cell 1⟩
theorem nez {E : Int} (h : E ≠ 0) : (E != 0) = true := bne_iff_ne.2 h

set_option maxRecDepth 100000 in
set_option maxHeartbeats 8000000 in
theorem rdecodeF_any (w : World) (br : Nat) (Ob : Nat → Prop) (l : List UInt8) (p : Nat) (hO : ∀ k, Ob k → k < w.heap.size) (h : V.RefAt w br Ob l p) (hlen : l.length ≤ 140737488355328) :
    Calls Tryz.prog 48 #[.pointer (some ⟨br, 0, none⟩)] w (FunR w (fun k => k = br) (fun w' q => V.RefAt w' br Ob l q) (decF l p)) := by
  have hbr := S.ref_lt h
  have bz := Blk.new w 61 nilV.cells
  have k0 := (Keep.refl (fun k => k = br) w).alloc (.cells nilV.cells 61)
  unfold nilV FV.cells at bz k0
  generalize hw0 : w.alloc (.cells #[.string ⟨#[]⟩, .slice none 0 0, .slice none 0 0, .slice none 0 0, .slice none 0 0] 61) = w0 at bz k0
  have gs : w.heap.size + 1 ≤ w0.heap.size := by rw [← hw0]; simp
  have hat : V.RefAt w0 br Ob l p := by rw [← hw0]; exact h.keep ((Keep.refl NoB w).alloc _) (fun _ _ => id)
  have HPL : Hid (∀ k, Ob k → ¬ k = w.heap.size) := fun k hk e => by have := hO k hk; omega
  have HOB := Lib.hid hO
  have HN := Lib.hid (rname_any w0 br Ob l p hat hlen)
  clear h hO hat
  go_enter Tryz.func48, Tryz.ntmps48
  go_wp2_with fail
  clear hw0
  refine HN.out.mono ?_
  rintro e w1 ⟨A0, n0, c0, E0, rfl, hG, k1⟩
  have gK := k0.trans k1 (fun _ h _ => h)
  replace bz := bz.keep k1 (fun e => by omega)
  have gsB := Nat.le_trans gs k1.size
  clear HN k0 k1
  rcases hG with ⟨hn, hE, q0, h1⟩ | ⟨s, q1, hn, rfl, hON, hln, h1⟩
  · have HM := Lib.hid (decF_1 hn)
    have hE0 := nez hE
    obtain ⟨z0, z1, z2, z3, z4⟩ := blk5 (v := nilV) bz
    have fz := fun i => bz.frozen i
    have HB := Lib.hid (blk_put5 bz nilV)
    have HK9 := Lib.hid (gK.trans (keep_at5 _ w.heap.size nilV) (fun k e hk => by omega))
    have HA9 := Lib.hid (h1.keep (keep_at5 _ w.heap.size nilV) HPL.out)
    unfold nilV at z0 z1 z2 z3 z4
    dsimp only at z0 z1 z2 z3 z4
    clear gK bz h1 hn hE  HOB
    go_wp2
    refine bodyPost_ret (ret_funE (v := nilV) rfl rfl HB.out rfl) rfl ?_
    exact .inl ⟨HM.out, rfl, ⟨_, HA9.out⟩, HK9.out⟩
  · have HD := Lib.hid ((S.rdecodeG_any w1 br Ob l q1 (fun k hk => by have := HOB.out k hk; omega) h1 hlen).mono fun e w' h => sgG_of h)
    have HNM := Lib.hid hn
    have HN1 := Lib.hid (And.intro hON hln)
    clear hn hON hln h1
    go_wp2_with fail
    refine HD.out.mono ?_
    rintro e w2 ⟨A1, n1, c1, B1, m1, d1, E1, rfl, hG, k2⟩
    have ka := (Keep.refl NoB w2).alloc (.cells #[.slice A1 n1 c1, .slice B1 m1 d1] 57)
    have k2a := k2.trans ka (fun _ hf _ => hf.elim)
    replace gK := gK.trans k2a (fun _ h _ => h)
    have gb := Blk.new w2 57 #[.slice A1 n1 c1, .slice B1 m1 d1]
    replace bz := bz.keep k2a (fun e => by omega)
    have gs2 := k2.size
    have gsC := Nat.le_trans gsB gs2
    have gsD := Nat.le_trans gsB k2a.size
    replace HN1 := Lib.hid (And.intro (HN1.out.1.keep k2a (fun k hk e => by unfold Fresh at hk; omega)) HN1.out.2)
    clear HD k2a k2
    rcases hG with ⟨hn, hE, q2, h2⟩ | ⟨a, r, q2, hn, rfl, hA1, hB1, h2⟩
    · have HM := Lib.hid (decF_2 HNM.out hn)
      have hE0 := nez hE
      replace h2 := h2.keep ka (fun _ _ => id)
      obtain ⟨z0, z1, z2, z3, z4⟩ := blk5 (v := nilV) bz
      have fz := fun i => bz.frozen i
      have HB := Lib.hid (blk_put5 bz nilV)
      have HK9 := Lib.hid (gK.trans (keep_at5 _ w.heap.size nilV) (fun k e hk => by omega))
      have HA9 := Lib.hid (h2.keep (keep_at5 _ w.heap.size nilV) HPL.out)
      unfold nilV at z0 z1 z2 z3 z4
      dsimp only at z0 z1 z2 z3 z4
      clear gK bz h2 hn hE  HOB ka gb HNM HN1
      go_wp2
      refine bodyPost_ret (ret_funE (v := nilV) rfl rfl HB.out rfl) rfl ?_
      exact .inl ⟨HM.out, rfl, ⟨_, HA9.out⟩, HK9.out⟩
    · replace h2 := h2.keep ka (fun _ _ => id)
      have HG1 := Lib.hid hn
      have HO1 := Lib.hid (And.intro (hA1.keepN ka) (hB1.keepN ka))
      clear hA1 hB1 hn ka
      have HD := Lib.hid ((S.rdecodeG_any _ br Ob l q2 (fun k hk => by have := HOB.out k hk; omega) h2 hlen).mono fun e w' h => sgG_of h)
      clear h2
      go_wp2_with fail
      refine HD.out.mono ?_
      rintro e w3 ⟨A2, n2, c2, B2, m2, d2, E2, rfl, hG, k3⟩
      have ka := (Keep.refl NoB w3).alloc (.cells #[.slice A2 n2 c2, .slice B2 m2 d2] 57)
      have k3a := k3.trans ka (fun _ hf _ => hf.elim)
      replace gK := gK.trans k3a (fun _ h _ => h)
      replace gb := gb.keep k3a (fun e => by omega)
      have gc := Blk.new w3 57 #[.slice A2 n2 c2, .slice B2 m2 d2]
      replace bz := bz.keep k3a (fun e => by omega)
      have gs3 := k3.size
      simp only [World.size_alloc] at gs3
      have gsE : w.heap.size + 1 ≤ w3.heap.size := by omega
      have gsF := Nat.le_trans gsD k3a.size
      replace HN1 := Lib.hid (And.intro (HN1.out.1.keep k3a (fun k hk e => by unfold Fresh at hk; omega)) HN1.out.2)
      replace HO1 := Lib.hid (And.intro (HO1.out.1.keep k3a (fun k hk e => by unfold Fresh at hk; omega)) (HO1.out.2.keep k3a (fun k hk e => by unfold Fresh at hk; omega)))
      clear HD k3a k3
      rcases hG with ⟨hn, hE, q3, h3⟩ | ⟨b, r2, q3, hn, rfl, hA2, hB2, h3⟩
      · have HM := Lib.hid (decF_3 HNM.out HG1.out (lcR_1 hn))
        have hE0 := nez hE
        replace h3 := h3.keep ka (fun _ _ => id)
        obtain ⟨z0, z1, z2, z3, z4⟩ := blk5 (v := nilV) bz
        have fz := fun i => bz.frozen i
        have HB := Lib.hid (blk_put5 bz nilV)
        have HK9 := Lib.hid (gK.trans (keep_at5 _ w.heap.size nilV) (fun k e hk => by omega))
        have HA9 := Lib.hid (h3.keep (keep_at5 _ w.heap.size nilV) HPL.out)
        unfold nilV at z0 z1 z2 z3 z4
        dsimp only at z0 z1 z2 z3 z4
        clear gK bz h3 hn hE  HOB ka gb gc HNM HN1 HG1 HO1
        go_wp2
        refine bodyPost_ret (ret_funE (v := nilV) rfl rfl HB.out rfl) rfl ?_
        exact .inl ⟨HM.out, rfl, ⟨_, HA9.out⟩, HK9.out⟩
      · replace h3 := h3.keep ka (fun _ _ => id)
        obtain ⟨e20, e21⟩ := blk2F gc
        have hm2 := own_len hB2
        by_cases hr : r2 = []
        · subst hr
          obtain rfl : m2 = 0 := hm2.symm
          have HG2 := Lib.hid (lcR_3 hn)
          have HO2 := Lib.hid (hA2.keepN ka)
          clear hA2 hB2 hn ka hm2
          have HD := Lib.hid ((C.rcdecode_any _ br Ob l q3 (fun k hk => by have := HOB.out k hk; omega) h3 hlen).mono fun e w' h => bdG_of h)
          clear h3
          go_wp2_with fail
          refine HD.out.mono ?_
          rintro e w4 ⟨A3, n3, c3, E3, rfl, hG, k4⟩
          replace gK := gK.trans k4 (fun _ h _ => h)
          replace gb := gb.keep k4 (fun e => by omega)
          replace gc := gc.keep k4 (fun e => by omega)
          replace bz := bz.keep k4 (fun e => by omega)
          have gs4 := k4.size
          simp only [World.size_alloc] at gs4
          have gsG := Nat.le_trans gsF k4.size
          replace HN1 := Lib.hid (And.intro (HN1.out.1.keep k4 (fun k hk e => by unfold Fresh at hk; omega)) HN1.out.2)
          replace HO1 := Lib.hid (And.intro (HO1.out.1.keep k4 (fun k hk e => by unfold Fresh at hk; omega)) (HO1.out.2.keep k4 (fun k hk e => by unfold Fresh at hk; omega)))
          replace HO2 := Lib.hid (HO2.out.keep k4 (fun k hk e => by unfold Fresh at hk; omega))
          clear HD k4 e20 e21
          obtain ⟨e10, e11⟩ := blk2F gb
          obtain ⟨e20, e21⟩ := blk2F gc
          have cv : (convert 26 9 (.slice A0 n0 c0)).run Tryz.prog w4 = .ok (.string (V.str s)) w4 := by
            obtain ⟨A', c', e, hr', _⟩ := S.own_rd HN1.out.1
            injection e with e1 e2 e3
            subst e1
            rw [← HN1.out.2]; exact V.conv_rd hr'
          have ka := (Keep.refl NoB w4).alloc (.cells #[.string (V.str s), .slice A1 n1 c1, .slice B1 m1 d1, .slice A2 n2 c2, .slice A3 n3 c3] 61)
          replace gK := gK.trans ka (fun _ hf _ => hf.elim)
          replace bz := bz.keep ka id
          rcases hG with ⟨hn, hE, q4, h4⟩ | ⟨xs, q4, hn, rfl, hA3, hI3, h4⟩
          · have HM := Lib.hid (decF_4 HNM.out HG1.out HG2.out hn)
            have hE0 := nez hE
            replace h4 := h4.keep ka (fun _ _ => id)
            obtain ⟨z0, z1, z2, z3, z4⟩ := blk5 (v := nilV) bz
            have fz := fun i => bz.frozen i
            have HB := Lib.hid (blk_put5 bz nilV)
            have HK9 := Lib.hid (gK.trans (keep_at5 _ w.heap.size nilV) (fun k e hk => by omega))
            have HA9 := Lib.hid (h4.keep (keep_at5 _ w.heap.size nilV) HPL.out)
            unfold nilV at z0 z1 z2 z3 z4
            dsimp only at z0 z1 z2 z3 z4
            clear gK bz h4 hn hE  HOB ka gb gc HNM HN1 HG1 HO1 HG2 HO2
            go_wp2
            refine bodyPost_ret (ret_funE (v := nilV) rfl rfl HB.out rfl) rfl ?_
            exact .inl ⟨HM.out, rfl, ⟨_, HA9.out⟩, HK9.out⟩
          · have HM0 := Lib.hid (decF_5 HNM.out HG1.out HG2.out hn)
            have HST := Lib.hid (st_of HNM.out HG1.out HG2.out hn)
            have hOF : OwnF _ (fun k => w.heap.size < k) ⟨V.str s, A1, n1, c1, B1, m1, d1, A2, n2, c2, A3, n3, c3⟩ ⟨s, a, r, b, xs⟩ :=
              OwnF.keepN (W := w4) ⟨rfl, HO1.out.1.mono (fun k hk _ => by unfold Fresh at hk; omega), HO1.out.2.mono (fun k hk _ => by unfold Fresh at hk; omega), HO2.out.mono (fun k hk _ => by unfold Fresh at hk; simp only [World.size_alloc] at hk; omega), hA3.mono (fun k hk _ => by unfold Fresh at hk; simp only [World.size_alloc] at hk; omega), hI3⟩ ka
            replace h4 := h4.keep ka (fun _ _ => id)
            have bf := Blk.new w4 61 (FV.cells ⟨V.str s, A1, n1, c1, B1, m1, d1, A2, n2, c2, A3, n3, c3⟩)
            have hsm := smF_of HST.out hOF
            have HC := Lib.hid (rcheck_any _ _ _ hOF.fn hsm _ rfl)
            clear HNM HN1 HG1 HO1 HG2 HO2 hn hA3 ka hsm HST HOB gb gc
            unfold FV.val at *
            unfold FV.cells at *
            dsimp only at *
            generalize hf : (⟨s, a, r, b, xs⟩ : Fu) = f at *
            clear hf
            cases ho : okF f
            · rw [chkF_no ho] at HC
              have HM : Hid (decF l p = none) := HM0.out.trans (ifF_no ho)
              have HX := Lib.hid (And.intro gK (And.intro bz h4))
              clear HM0 ho gK bz h4 hOF bf
              go_wp2_with fail
              refine HC.out.mono ?_
              rintro e w6 ⟨rfl, k6⟩
              obtain ⟨gK, bz, h4⟩ := HX.out
              replace bz := bz.keep k6 id
              replace gK := gK.trans k6 (fun _ h _ => h.elim)
              replace h4 := h4.keep k6 (fun _ _ => id)
              obtain ⟨z0, z1, z2, z3, z4⟩ := blk5 (v := nilV) bz
              have fz := fun i => bz.frozen i
              have HB := Lib.hid (blk_put5 bz nilV)
              have HK9 := Lib.hid (gK.trans (keep_at5 _ w.heap.size nilV) (fun k e hk => by omega))
              have HA9 := Lib.hid (h4.keep (keep_at5 _ w.heap.size nilV) HPL.out)
              unfold nilV at z0 z1 z2 z3 z4
              dsimp only at z0 z1 z2 z3 z4
              clear gK bz h4 HC HX k6
              go_wp2
              refine bodyPost_ret (ret_funE (v := nilV) rfl rfl HB.out rfl) rfl ?_
              exact .inl ⟨HM.out, rfl, ⟨_, HA9.out⟩, HK9.out⟩
            · rw [chkF_ok ho] at HC
              have HM : Hid (decF l p = some (f, q4)) := HM0.out.trans (ifF_ok ho)
              have HX := Lib.hid (And.intro gK (And.intro bz (And.intro h4 (And.intro hOF bf))))
              clear HM0 ho gK bz h4 hOF bf
              go_wp2_with fail
              refine HC.out.mono ?_
              rintro e w6 ⟨rfl, k6⟩
              obtain ⟨gK, bz, h4, hOF, bf⟩ := HX.out
              replace bz := bz.keep k6 id
              replace bf := bf.keep k6 id
              replace gK := gK.trans k6 (fun _ h _ => h.elim)
              replace h4 := h4.keep k6 (fun _ _ => id)
              replace hOF := hOF.keepN k6
              obtain ⟨z0, z1, z2, z3, z4⟩ := blk5 (v := nilV) bz
              obtain ⟨y0, y1, y2, y3, y4⟩ := blk5 (v := ⟨V.str s, A1, n1, c1, B1, m1, d1, A2, n2, c2, A3, n3, c3⟩) bf
              have fz := fun i => bz.frozen i
              have HB := Lib.hid (blk_put5 bz ⟨V.str s, A1, n1, c1, B1, m1, d1, A2, n2, c2, A3, n3, c3⟩)
              have HK9 := Lib.hid (gK.trans (keep_at5 _ w.heap.size ⟨V.str s, A1, n1, c1, B1, m1, d1, A2, n2, c2, A3, n3, c3⟩) (fun k e hk => by omega))
              have HA9 := Lib.hid (h4.keep (keep_at5 _ w.heap.size ⟨V.str s, A1, n1, c1, B1, m1, d1, A2, n2, c2, A3, n3, c3⟩) HPL.out)
              have HO9 := Lib.hid ((hOF.keep (keep_at5 w6 w.heap.size ⟨V.str s, A1, n1, c1, B1, m1, d1, A2, n2, c2, A3, n3, c3⟩) (fun k hk e => by omega)).mono (P' := Fresh w) (fun k hk _ => by unfold Fresh; omega))
              unfold nilV at z0 z1 z2 z3 z4
              dsimp only at z0 z1 z2 z3 z4 y0 y1 y2 y3 y4
              clear gK bz h4 hOF bf HC HX k6
              go_wp2
              refine bodyPost_ret (ret_funE (v := ⟨V.str s, A1, n1, c1, B1, m1, d1, A2, n2, c2, A3, n3, c3⟩) rfl rfl HB.out rfl) rfl ?_
              exact .inr ⟨f, q4, _, HM.out, rfl, HO9.out, HA9.out, HK9.out⟩
        · have hl2 : 0 < m2 := by rw [← hm2]; exact List.length_pos_iff.2 hr
          have HM := Lib.hid (decF_3 HNM.out HG1.out (lcR_2 hn hr))
          have hlb : decide ((0 : Int) < (m2 : Int)) = true := by rw [decide_eq_true_iff]; omega
          obtain ⟨z0, z1, z2, z3, z4⟩ := blk5 (v := nilV) bz
          have fz := fun i => bz.frozen i
          have HB := Lib.hid (blk_put5 bz nilV)
          have HK9 := Lib.hid (gK.trans (keep_at5 _ w.heap.size nilV) (fun k e hk => by omega))
          have HA9 := Lib.hid (h3.keep (keep_at5 _ w.heap.size nilV) HPL.out)
          unfold nilV at z0 z1 z2 z3 z4
          dsimp only at z0 z1 z2 z3 z4
          clear gK bz h3 hn  HOB ka gb gc HNM HN1 HG1 HO1 hm2 hr hA2 hB2
          go_wp2
          refine bodyPost_ret (ret_funE (v := nilV) rfl rfl HB.out rfl) rfl ?_
          exact .inl ⟨HM.out, rfl, ⟨_, HA9.out⟩, HK9.out⟩

end Go.Proofs.YtgifflfjhockaaaGreatDoor.F

namespace Go.Proofs.YtgifflfjhockaaaGreatDoor.I
open Go.RowKit W

/-- One shape read by the document: what comes, and what is wrong. -/
theorem rdecS_gen (w : World) (br : Nat) (Ob : Nat → Prop) (l : List UInt8) (p : Nat) (h : V.RefAt w br Ob l p) (hlen : l.length ≤ 140737488355328) :
    Calls Tryz.prog 47 #[.pointer (some ⟨br, 0, none⟩)] w fun r w' => ∃ A n c x E q, r = .returned (.tuple #[.slice A n c, .int .i64 E]) ∧ Own w' 3 1 (Fresh w) (.slice A n c) n (ivs x) ∧ V.RefAt w' br Ob l q ∧ Keep (fun k => k = br) w w' ∧ ((E = 0 ∧ S.decS l p = some (x, q)) ∨ (E ≠ 0 ∧ S.decS l p = none)) := by
  refine (S.rdecodeS_any w br Ob l p h hlen).mono ?_
  rintro r w' ⟨v, q, rfl, hv, hat, hq, hk⟩
  obtain ⟨A, c, rfl, _, _, _, _⟩ := hv.form
  cases hd : S.decS l p with
  | none =>
    rw [hd] at hv
    exact ⟨A, _, c, [], _, q, rfl, hv, hat, hk, .inr ⟨by decide, rfl⟩⟩
  | some y =>
    obtain ⟨y, q'⟩ := y
    rw [hd] at hv
    have := hq _ hd
    dsimp only at this
    subst this
    exact ⟨A, _, c, y, _, q, rfl, hv, hat, hk, .inl ⟨rfl, rfl⟩⟩
theorem rdecF_gen (w : World) (br : Nat) (Ob : Nat → Prop) (l : List UInt8) (p : Nat) (hO : ∀ k, Ob k → k < w.heap.size) (h : V.RefAt w br Ob l p) (hlen : l.length ≤ 140737488355328) :
    Calls Tryz.prog 48 #[.pointer (some ⟨br, 0, none⟩)] w fun r w' => ∃ v x E q, r = .returned (.tuple #[F.FV.val v, .int .i64 E]) ∧ F.OwnF w' (Fresh w) v x ∧ V.RefAt w' br Ob l q ∧ Keep (fun k => k = br) w w' ∧ ((E = 0 ∧ F.decF l p = some (x, q)) ∨ (E ≠ 0 ∧ F.decF l p = none)) := by
  refine (F.rdecodeF_any w br Ob l p hO h hlen).mono ?_
  rintro r w' (⟨hn, rfl, ⟨q, hat⟩, hk⟩ | ⟨f, q, v, hs, rfl, hv, hat, hk⟩)
  · exact ⟨F.nilV, F.nilF, 70, q, rfl, F.nilV_own _ _, hat, hk, .inr ⟨by decide, hn⟩⟩
  · exact ⟨v, f, 0, q, rfl, hv, hat, hk, .inl ⟨rfl, hs⟩⟩

/-- What the values are that the region of the sum yields. -/
def SDr (ad : Addr) (N c R : Nat) (fr : List UInt8) (F1 X1 : ByteArray) (bb : Bool) : Nat → Value → World → Prop
  | 0 => fun u _ => u = .int .i64 (N : Int)
  | 1 => fun u _ => u = .int .i64 5
  | 2 => fun u _ => u = .bool false
  | 3 => fun u _ => u = .bool false
  | 4 => fun u _ => u = .slice (some ad) (N + 4) c
  | 5 => fun u _ => u = .int .i64 (N : Int)
  | 6 => fun u _ => u = .slice (some ad) N c
  | 7 => fun u _ => u = .int .u32 (R : Int)
  | 8 => PtV fr
  | 9 => fun u _ => u = .string F1
  | 10 => fun u _ => u = .slice (some ad) (N + 4) c
  | 11 => fun u _ => u = .int .i64 (N : Int)
  | 12 => fun u _ => u = .slice (some (ad.add N)) 4 (c - N)
  | 13 => fun u _ => u = .string X1
  | 14 => fun u _ => u = .bool bb
  | 15 => fun u _ => u = .bool bb
  | _ => fun _ _ => True
theorem SDr_stable (ad : Addr) (N c R : Nat) (fr : List UInt8) (F1 X1 : ByteArray) (bb : Bool) : ∀ i u w w', SDr ad N c R fr F1 X1 bb i u w → Keep NoB w w' → SDr ad N c R fr F1 X1 bb i u w'
  | 0, _, _, _, h, _ | 1, _, _, _, h, _ | 2, _, _, _, h, _ | 3, _, _, _, h, _ | 4, _, _, _, h, _ | 5, _, _, _, h, _ | 6, _, _, _, h, _ | 7, _, _, _, h, _ => h
  | 8, _, _, _, h, hk => PtV.keepN h hk
  | 9, _, _, _, h, _ | 10, _, _, _, h, _ | 11, _, _, _, h, _ | 12, _, _, _, h, _ | 13, _, _, _, h, _ | 14, _, _, _, h, _ | 15, _, _, _, h, _ => h
  | _ + 16, _, _, _, h, _ => h

/-- What a round leaves. -/
structure DcS (wb W : World) (br k : Nat) (Ob : Nat → Prop) (l : List UInt8) (q p0 q0 r : Nat) (E : Int) (A : Option Addr) (M c m : Nat) (w2 : Value) (es : List SE) : Prop where
  hb : Blk W (br + 1) 25 #[.slice A M c, w2]
  hr : Own W 58 1 (fun j => m ≤ j) (.slice A M c) M (svs es)
  hs : ∀ e ∈ es, OwnS W (fun j => m ≤ j) e
  ha : V.RefAt W br Ob l q
  hk : Keep (fun j => j = br ∨ j = br + 1) wb W
  hl : M ≤ k
  ho : (E = 0 ∧ r = 0 ∧ M = k ∧ rdK (S.decS l) k q0 = some (es.map (fun e => e.2), q)) ∨ (E ≠ 0 ∧ rdL (S.decS l) l p0 = none)
structure DcF (wb W : World) (br k : Nat) (Ob : Nat → Prop) (l : List UInt8) (q p0 q0 r : Nat) (E : Int) (A A2 : Option Addr) (nx M c c2 m : Nat) (es : List SE) (fs : List FE) : Prop where
  hb : Blk W (br + 1) 25 #[.slice A nx c, .slice A2 M c2]
  hr : Own W 58 1 (fun j => m ≤ j) (.slice A nx c) nx (svs es)
  hs : ∀ e ∈ es, OwnS W (fun j => m ≤ j) e
  hr2 : Own W 61 5 (fun j => m ≤ j) (.slice A2 M c2) M (fvs fs)
  hf : ∀ e ∈ fs, F.OwnF W (fun j => m ≤ j) e.1 e.2
  ha : V.RefAt W br Ob l q
  hk : Keep (fun j => j = br ∨ j = br + 1) wb W
  hl : M ≤ k
  ho : (E = 0 ∧ r = 0 ∧ M = k ∧ rdK (F.decF l) k q0 = some (fs.map (fun e => e.2), q)) ∨ (E ≠ 0 ∧ rdL (F.decF l) l p0 = none)

theorem mag_str : V.str magicL = ⟨#[98, 107, 115, 116, 1]⟩ := rfl
set_option maxRecDepth 100000 in
set_option maxHeartbeats 4000000 in
/-- No Magic. -/
theorem rdec_81
    (A : Option Addr) (l : List UInt8) (c : Nat) (w : World) (hr : V.Rd w A l) (hc : l.length ≤ c) (hA : ∀ ad, A = some ad → ad.block < w.heap.size) (hlen : l.length ≤ 1073741824) (h5 : l.take 5 ≠ magicL) :
    Calls Tryz.prog 16 #[.slice A l.length c] w (DecR w (decI l).1 (decI l).2) := by
  have bz9 := Blk.new w 25 nilW.cells
  have kW9 := (Keep.refl NoB w).alloc (.cells nilW.cells 25)
  unfold nilW IV.cells at bz9 kW9
  dsimp only at bz9 kW9
  have hr0 := hr.keep kW9 (fun _ _ _ => id)
  generalize hw0 : w.alloc (.cells #[.slice none 0 0, .slice none 0 0] 25) = w0 at bz9 kW9 hr0
  have HD := Lib.hid (decI_1 h5)
  by_cases hl5 : 5 ≤ l.length
  · have h0 : 0 < l.length := by omega
    obtain ⟨ad, rfl, _⟩ := hr h0
    have hcv := V.conv_rd (c := c) (rd_tk hr0 5)
    rw [List.length_take, Nat.min_eq_left hl5] at hcv
    have hne : ((V.str (l.take 5)).toList == [98, 107, 115, 116, 1]) = false := by
      rw [beq_eq_false_iff_ne, ByteArray.toList_eq]
      exact h5
    generalize V.str (l.take 5) = M at hcv hne
    have hq1 : decide ((l.length : Int) < 5) = false := by rw [decide_eq_false_iff_not]; omega
    have hcv2 := fun c => (show 5 ≤ c → True from fun _ => trivial)
    clear h5 hcv2 hr0 hr hA
    have f3 := fun i => bz9.frozen i
    have q0 := bz9.cell 0
    have q1 := bz9.cell 1
    simp only [List.getElem?_toArray, List.getElem?_cons_zero, List.getElem?_cons_succ] at q0 q1
    have hlt := bz9.lt
    have HP := Lib.hid (put2_img bz9 (.slice none 0 0) (.slice none 0 0))
    have HK := Lib.hid (kW9.trans (keep2_img _ w.heap.size (.slice none 0 0) (.slice none 0 0)) (fun k e hl => by omega))
    clear bz9 kW9
    go_enter Tryz.func16, Tryz.ntmps16
    go_wp2
    refine bodyPost_ret (ret_imgE (v := nilW) rfl rfl HP.out rfl) rfl ?_
    rw [HD.out]
    exact ⟨nilW, [], [], rfl, nil_own _ _, rfl, HK.out⟩
  · have hq1 : decide ((l.length : Int) < 5) = true := by rw [decide_eq_true_iff]; omega
    clear h5 hr0 hr hA
    have f3 := fun i => bz9.frozen i
    have q0 := bz9.cell 0
    have q1 := bz9.cell 1
    simp only [List.getElem?_toArray, List.getElem?_cons_zero, List.getElem?_cons_succ] at q0 q1
    have hlt := bz9.lt
    have HP := Lib.hid (put2_img bz9 (.slice none 0 0) (.slice none 0 0))
    have HK := Lib.hid (kW9.trans (keep2_img _ w.heap.size (.slice none 0 0) (.slice none 0 0)) (fun k e hl => by omega))
    clear bz9 kW9
    go_enter Tryz.func16, Tryz.ntmps16
    go_wp2
    refine bodyPost_ret (ret_imgE (v := nilW) rfl rfl HP.out rfl) rfl ?_
    rw [HD.out]
    exact ⟨nilW, [], [], rfl, nil_own _ _, rfl, HK.out⟩
/-- What the values are that the region yields, where there is no room for a sum. -/
def SDq (N : Nat) : Nat → Value → World → Prop
  | 0 => fun u _ => u = .int .i64 ((N : Int) - 4)
  | 1 => fun u _ => u = .int .i64 5
  | 2 => fun u _ => u = .bool true
  | 3 => fun u _ => u = .bool true
  | 15 => fun u _ => u = .bool true
  | _ => fun _ _ => True
theorem SDq_stable (N : Nat) (i : Nat) (u : Value) (w w' : World) (h : SDq N i u w) : SDq N i u w' := by
  unfold SDq at h ⊢
  split at h <;> exact h
set_option maxRecDepth 100000 in
set_option maxHeartbeats 4000000 in
/-- No room for a sum. -/
theorem rdec_82
    (A : Option Addr) (l : List UInt8) (c : Nat) (w : World) (hr : V.Rd w A l) (hc : l.length ≤ c) (hA : ∀ ad, A = some ad → ad.block < w.heap.size) (hlen : l.length ≤ 1073741824) (h5 : l.take 5 = magicL) (h9 : l.length < 9) :
    Calls Tryz.prog 16 #[.slice A l.length c] w (DecR w (decI l).1 (decI l).2) := by
  have bz9 := Blk.new w 25 nilW.cells
  have kW9 := (Keep.refl NoB w).alloc (.cells nilW.cells 25)
  unfold nilW IV.cells at bz9 kW9
  dsimp only at bz9 kW9
  have hr0 := hr.keep kW9 (fun _ _ _ => id)
  generalize hw0 : w.alloc (.cells #[.slice none 0 0, .slice none 0 0] 25) = w0 at bz9 kW9 hr0
  have HD := Lib.hid (decI_2 h5 (.inl h9))
  have hl5 : 5 ≤ l.length := by have := congrArg List.length h5; rw [List.length_take] at this; have e : magicL.length = 5 := rfl; omega
  have h0 : 0 < l.length := by omega
  obtain ⟨ad, rfl, _⟩ := hr h0
  have hcv := V.conv_rd (c := c) (rd_tk hr0 5)
  rw [List.length_take, Nat.min_eq_left hl5, h5, mag_str] at hcv
  obtain ⟨N, hN⟩ : ∃ N, l.length = N := ⟨_, rfl⟩
  rw [hN] at hc hlen h9 hl5 ⊢
  have hq1 : decide ((N : Int) < 5) = false := by rw [decide_eq_false_iff_not]; omega
  have hdN : decide ((N : Int) - 4 < 5) = true := by rw [decide_eq_true_iff]; omega
  clear h5 hr0 hr hA hN h0
  go_enter Tryz.func16, Tryz.ntmps16
  go_wp2_with fail
  clear hw0
  refine wp_region_props6 (fun i => [31, 32, 33, 34, 35, 36, 37, 38, 39, 40, 41, 42, 43, 44, 45, 46].getD i 0) 9999 (NoB) (fun _ => false) (by kernel_rfl) (by kernel_rfl) (by kernel_rfl) (SDq N) (fun i u x y _ _ _ h _ => SDq_stable _ i u x y h) (fun i u x y _ h _ => SDq_stable _ i u x y h) rfl ?step ?spec ?fin
  case step =>
    intro i o a w' hoo hic hF hK hA
    have hi : i < 16 := by simpa using (Array.getElem?_eq_some_iff.1 hoo).1
    by_cases h0 : i = 0
    · subst h0
      simp only [List.getElem?_toArray, List.getElem?_cons_zero, Option.some.injEq] at hoo
      subst hoo
      have e5 : a.tmps.getD 5 undef = .int .i64 ((N : Int) - 4) := hF.2.2 5 (by decide)
      refine Does.plain rfl ?_
      unfold yieldsK
      go_simp
      exact ⟨rfl, Keep.refl _ _⟩
    by_cases h1 : i = 1
    · subst h1
      simp only [List.getElem?_toArray, List.getElem?_cons_zero, List.getElem?_cons_succ, Option.some.injEq] at hoo
      subst hoo
      have e4 : a.tmps.getD 4 undef = .int .i64 5 := hF.2.2 4 (by decide)
      refine Does.plain rfl ?_
      unfold yieldsK
      go_simp
      exact ⟨rfl, Keep.refl _ _⟩
    by_cases h2 : i = 2
    · subst h2
      simp only [List.getElem?_toArray, List.getElem?_cons_zero, List.getElem?_cons_succ, Option.some.injEq] at hoo
      subst hoo
      have e31 : a.tmps.getD 31 undef = .int .i64 ((N : Int) - 4) := hA ⟨0, .data⟩ (by simp) rfl
      have e32 : a.tmps.getD 32 undef = .int .i64 5 := hA ⟨1, .data⟩ (by simp) rfl
      have hd := hdN
      refine Does.plain rfl ?_
      unfold yieldsK
      go_simp
      exact ⟨rfl, Keep.refl _ _⟩
    by_cases h3 : i = 3
    · subst h3
      simp only [List.getElem?_toArray, List.getElem?_cons_zero, List.getElem?_cons_succ, Option.some.injEq] at hoo
      subst hoo
      have e33 : a.tmps.getD 33 undef = .bool true := hA ⟨2, .data⟩ (by simp) rfl
      refine Does.plain rfl ?_
      unfold yieldsK
      go_simp
      exact ⟨rfl, Keep.refl _ _⟩
    by_cases h4 : i = 4
    · subst h4
      simp only [List.getElem?_toArray, List.getElem?_cons_zero, List.getElem?_cons_succ, Option.some.injEq] at hoo
      subst hoo
      refine Does.no (j := 3) (d := 34) (want := false) rfl rfl (hA ⟨3, .guard⟩ (by simp) rfl) ?_
      exact ⟨trivial, Keep.refl _ _⟩
    by_cases h5 : i = 5
    · subst h5
      simp only [List.getElem?_toArray, List.getElem?_cons_zero, List.getElem?_cons_succ, Option.some.injEq] at hoo
      subst hoo
      refine Does.no (j := 3) (d := 34) (want := false) rfl rfl (hA ⟨3, .guard⟩ (by simp) rfl) ?_
      exact ⟨trivial, Keep.refl _ _⟩
    by_cases h6 : i = 6
    · subst h6
      simp only [List.getElem?_toArray, List.getElem?_cons_zero, List.getElem?_cons_succ, Option.some.injEq] at hoo
      subst hoo
      refine Does.no (j := 3) (d := 34) (want := false) rfl rfl (hA ⟨3, .guard⟩ (by simp) rfl) ?_
      exact ⟨trivial, Keep.refl _ _⟩
    by_cases h7 : i = 7
    · subst h7
      simp only [List.getElem?_toArray, List.getElem?_cons_zero, List.getElem?_cons_succ, Option.some.injEq] at hoo
      subst hoo
      refine Does.no (j := 3) (d := 34) (want := false) rfl rfl (hA ⟨3, .guard⟩ (by simp) rfl) ?_
      exact ⟨trivial, Keep.refl _ _⟩
    by_cases h8 : i = 8
    · subst h8
      simp only [List.getElem?_toArray, List.getElem?_cons_zero, List.getElem?_cons_succ, Option.some.injEq] at hoo
      subst hoo
      refine Does.no (j := 3) (d := 34) (want := false) rfl rfl (hA ⟨3, .guard⟩ (by simp) rfl) ?_
      exact ⟨trivial, Keep.refl _ _⟩
    by_cases h9 : i = 9
    · subst h9
      simp only [List.getElem?_toArray, List.getElem?_cons_zero, List.getElem?_cons_succ, Option.some.injEq] at hoo
      subst hoo
      refine Does.no (j := 3) (d := 34) (want := false) rfl rfl (hA ⟨3, .guard⟩ (by simp) rfl) ?_
      exact ⟨trivial, Keep.refl _ _⟩
    by_cases h10 : i = 10
    · subst h10
      simp only [List.getElem?_toArray, List.getElem?_cons_zero, List.getElem?_cons_succ, Option.some.injEq] at hoo
      subst hoo
      refine Does.no (j := 3) (d := 34) (want := false) rfl rfl (hA ⟨3, .guard⟩ (by simp) rfl) ?_
      exact ⟨trivial, Keep.refl _ _⟩
    by_cases h11 : i = 11
    · subst h11
      simp only [List.getElem?_toArray, List.getElem?_cons_zero, List.getElem?_cons_succ, Option.some.injEq] at hoo
      subst hoo
      refine Does.no (j := 3) (d := 34) (want := false) rfl rfl (hA ⟨3, .guard⟩ (by simp) rfl) ?_
      exact ⟨trivial, Keep.refl _ _⟩
    by_cases h12 : i = 12
    · subst h12
      simp only [List.getElem?_toArray, List.getElem?_cons_zero, List.getElem?_cons_succ, Option.some.injEq] at hoo
      subst hoo
      refine Does.no (j := 3) (d := 34) (want := false) rfl rfl (hA ⟨3, .guard⟩ (by simp) rfl) ?_
      exact ⟨trivial, Keep.refl _ _⟩
    by_cases h13 : i = 13
    · subst h13
      simp only [List.getElem?_toArray, List.getElem?_cons_zero, List.getElem?_cons_succ, Option.some.injEq] at hoo
      subst hoo
      refine Does.no (j := 3) (d := 34) (want := false) rfl rfl (hA ⟨3, .guard⟩ (by simp) rfl) ?_
      exact ⟨trivial, Keep.refl _ _⟩
    by_cases h14 : i = 14
    · subst h14
      simp only [List.getElem?_toArray, List.getElem?_cons_zero, List.getElem?_cons_succ, Option.some.injEq] at hoo
      subst hoo
      refine Does.no (j := 3) (d := 34) (want := false) rfl rfl (hA ⟨3, .guard⟩ (by simp) rfl) ?_
      exact ⟨trivial, Keep.refl _ _⟩
    by_cases h15 : i = 15
    · subst h15
      simp only [List.getElem?_toArray, List.getElem?_cons_zero, List.getElem?_cons_succ, Option.some.injEq] at hoo
      subst hoo
      have e34 : a.tmps.getD 34 undef = .bool true := hA ⟨3, .data⟩ (by simp) rfl
      refine Does.plain rfl ?_
      unfold yieldsK
      go_simp
      exact ⟨rfl, Keep.refl _ _⟩
    omega
  case spec =>
    intro o a w' hoo
    simp at hoo
  case fin =>
    intro a w' hF gK hA
    have e46 : a.tmps.getD 46 undef = .bool true := hA 15 (by decide)
    have ha := frameD_list (l := [31, 32, 33, 34, 35, 36, 37, 38, 39, 40, 41, 42, 43, 44, 45, 46]) rfl hF
    rw [ha]
    simp only [List.map_cons, List.map_nil, e46]
    generalize a.tmps.getD 31 undef = u0
    generalize a.tmps.getD 32 undef = u1
    generalize a.tmps.getD 33 undef = u2
    generalize a.tmps.getD 34 undef = u3
    generalize a.tmps.getD 35 undef = u4
    generalize a.tmps.getD 36 undef = u5
    generalize a.tmps.getD 37 undef = u6
    generalize a.tmps.getD 38 undef = u7
    generalize a.tmps.getD 39 undef = u8
    generalize a.tmps.getD 40 undef = u9
    generalize a.tmps.getD 41 undef = u10
    generalize a.tmps.getD 42 undef = u11
    generalize a.tmps.getD 43 undef = u12
    generalize a.tmps.getD 44 undef = u13
    generalize a.tmps.getD 45 undef = u14
    simp only [fillD, List.setIfInBounds_toArray, List.set_cons_zero, List.set_cons_succ]
    replace bz9 := bz9.keep gK id
    replace kW9 := keepN kW9 gK
    clear hA hF ha e46 gK
    have f3 := fun i => bz9.frozen i
    have q0 := bz9.cell 0
    have q1 := bz9.cell 1
    simp only [List.getElem?_toArray, List.getElem?_cons_zero, List.getElem?_cons_succ] at q0 q1
    have hlt := bz9.lt
    have HP := Lib.hid (put2_img bz9 (.slice none 0 0) (.slice none 0 0))
    have HK := Lib.hid (kW9.trans (keep2_img _ w.heap.size (.slice none 0 0) (.slice none 0 0)) (fun k e hl => by omega))
    clear bz9 kW9
    go_wp2
    refine bodyPost_ret (ret_imgE (v := nilW) rfl rfl HP.out rfl) rfl ?_
    rw [HD.out]
    exact ⟨nilW, [], [], rfl, nil_own _ _, rfl, HK.out⟩

end Go.Proofs.YtgifflfjhockaaaGreatDoor.I

namespace Go.Proofs.YtgifflfjhockaaaGreatDoor.I
open Go.RowKit W

set_option maxRecDepth 100000 in
set_option maxHeartbeats 16000000 in
/-- Room for a sum. -/
theorem rdec_any9
    (A : Option Addr) (l : List UInt8) (c : Nat) (w : World) (hr : V.Rd w A l) (hc : l.length ≤ c) (hA : ∀ ad, A = some ad → ad.block < w.heap.size) (hlen : l.length ≤ 1073741824) (h5 : l.take 5 = magicL) (h9 : 9 ≤ l.length) :
    Calls Tryz.prog 16 #[.slice A l.length c] w (DecR w (decI l).1 (decI l).2) := by
  have bz9 := Blk.new w 25 nilW.cells
  have kW9 := (Keep.refl NoB w).alloc (.cells nilW.cells 25)
  unfold nilW IV.cells at bz9 kW9
  dsimp only at bz9 kW9
  have hr0 := hr.keep kW9 (fun _ _ _ => id)
  generalize hw0 : w.alloc (.cells #[.slice none 0 0, .slice none 0 0] 25) = w0 at bz9 kW9 hr0
  obtain ⟨N, hN⟩ : ∃ N, l.length = N + 4 := ⟨l.length - 4, by omega⟩
  have hN5 : 5 ≤ N := by omega
  have h0 : 0 < l.length := by omega
  obtain ⟨ad, rfl, _⟩ := hr h0
  have hab : ad.block < w.heap.size := hA ad rfl
  have hl5 : 5 ≤ l.length := by omega
  have hcv := V.conv_rd (c := c) (rd_tk hr0 5)
  rw [List.length_take, Nat.min_eq_left hl5, h5, mag_str] at hcv
  have HX : V.Rd w0 (some (ad.add N)) (l.drop N) := rd_dp hr0 N
  have hxl : (l.drop N).length = 4 := by rw [List.length_drop]; omega
  have hcx : ∀ W, Keep NoB w0 W → (convert 26 9 (.slice (some (ad.add N)) 4 (c - N))).run Tryz.prog W = .ok (.string (V.str (l.drop N))) W := fun W hk => by
    have := V.conv_rd (c := c - N) (HX.keep hk (fun _ _ _ => id))
    rwa [hxl] at this
  have HT : Hid (V.Rd w0 (some ad) (l.take N) ∧ (l.take N).length = N) := ⟨rd_tk hr0 N, by rw [List.length_take]; omega⟩
  have hsub : l.length - 4 = N := by omega
  have HD2 : Hid (l.drop N ≠ four (sumN (l.take N)) → decI l = (nilI, 82)) := fun h => decI_2 h5 (.inr (by rw [hsub]; exact h))
  have HD3 : Hid (l.drop N = four (sumN (l.take N)) → opI ((l.take N).drop 5) = none → decI l = (nilI, 80)) := fun h h2 => decI_3 h5 h9 (by rw [hsub]; exact h) (by rw [hsub]; exact h2)
  have HD4 : Hid (∀ p, l.drop N = four (sumN (l.take N)) → opI ((l.take N).drop 5) = some p → decI l = (p, 0)) := fun p h h2 => decI_4 h5 h9 (by rw [hsub]; exact h) (by rw [hsub]; exact h2)
  have HTT : Hid (((l.take N).drop 5).length = N - 5) := by show _ = _; rw [List.length_drop, HT.out.2]
  have HRT : Hid (∀ W, Keep NoB w0 W → V.Rd W (some (ad.add 5)) ((l.take N).drop 5)) := fun W hk => rd_dp (HT.out.1.keep hk (fun _ _ _ => id)) 5
  obtain ⟨R, hR⟩ : ∃ R, sumN (l.take N) = R := ⟨_, rfl⟩
  have hRL := sumN_lt (l.take N)
  rw [hR] at HD2 HD3 HD4 hRL
  have HR := Lib.hid hR
  have HRL := Lib.hid hRL
  obtain ⟨fr, hfr⟩ : ∃ fr, four R = fr := ⟨_, rfl⟩
  rw [hfr] at HD2 HD3 HD4
  have HFR := Lib.hid hfr
  obtain ⟨F1, hF1⟩ : ∃ F1, V.str fr = F1 := ⟨_, rfl⟩
  have HF1 := Lib.hid hF1
  obtain ⟨X1, hX1⟩ : ∃ X1, V.str (l.drop N) = X1 := ⟨_, rfl⟩
  rw [hX1] at hcx
  have HCX := Lib.hid hcx
  have hxf : l.drop N = fr ↔ F1.toList = X1.toList := by
    rw [← hF1, ← hX1]
    have : ∀ l : List UInt8, (V.str l).toList = l := fun l => by rw [ByteArray.toList_eq]
    rw [this, this]
    exact ⟨fun h => h.symm, fun h => h.symm⟩
  obtain ⟨bb, hbb⟩ : ∃ bb, (!(F1.toList == X1.toList)) = bb := ⟨_, rfl⟩
  have HBQ := Lib.hid hbb
  have HXF := Lib.hid hxf
  generalize l.drop N = X at *
  generalize (l.take N).drop 5 = TT at *
  generalize l.take N = T at *
  clear hX1 hF1 hfr hR hRL hcx hxf HX hxl hbb h5 h9 hr hA hl5 hsub h0
  rw [hN] at hc hlen ⊢
  have hq1 : decide ((N : Int) + 4 < 5) = false := by rw [decide_eq_false_iff_not]; omega
  have hdN : decide ((N : Int) < 5) = false := by rw [decide_eq_false_iff_not]; omega
  have hcN : ¬ (c = N) := by omega
  have hc5 : ¬ (c = 5) := by omega
  clear hN
  go_enter Tryz.func16, Tryz.ntmps16
  go_wp2_with fail
  clear hw0
  refine wp_region_props6 (fun i => [31, 32, 33, 34, 35, 36, 37, 38, 39, 40, 41, 42, 43, 44, 45, 46].getD i 0) 9999 (NoB) (fun _ => false) (by kernel_rfl) (by kernel_rfl) (by kernel_rfl) (SDr ad N c R fr F1 X1 bb) (fun i u x y _ _ _ h hk => SDr_stable _ _ _ _ _ _ _ _ i u x y h (hk.mono (fun _ hf _ => hf))) (fun i u x y _ h hk => SDr_stable _ _ _ _ _ _ _ _ i u x y h hk) rfl ?step ?spec ?fin
  case step =>
    intro i o a w' hoo hic hF hK hA
    have hi : i < 16 := by simpa using (Array.getElem?_eq_some_iff.1 hoo).1
    by_cases h0 : i = 0
    · subst h0
      simp only [List.getElem?_toArray, List.getElem?_cons_zero, Option.some.injEq] at hoo
      subst hoo
      have e5 : a.tmps.getD 5 undef = .int .i64 (N : Int) := hF.2.2 5 (by decide)
      refine Does.plain rfl ?_
      unfold yieldsK
      go_simp
      exact ⟨rfl, Keep.refl _ _⟩
    by_cases h1 : i = 1
    · subst h1
      simp only [List.getElem?_toArray, List.getElem?_cons_zero, List.getElem?_cons_succ, Option.some.injEq] at hoo
      subst hoo
      have e4 : a.tmps.getD 4 undef = .int .i64 5 := hF.2.2 4 (by decide)
      refine Does.plain rfl ?_
      unfold yieldsK
      go_simp
      exact ⟨rfl, Keep.refl _ _⟩
    by_cases h2 : i = 2
    · subst h2
      simp only [List.getElem?_toArray, List.getElem?_cons_zero, List.getElem?_cons_succ, Option.some.injEq] at hoo
      subst hoo
      have e31 : a.tmps.getD 31 undef = .int .i64 (N : Int) := hA ⟨0, .data⟩ (by simp) rfl
      have e32 : a.tmps.getD 32 undef = .int .i64 5 := hA ⟨1, .data⟩ (by simp) rfl
      have hd := hdN
      refine Does.plain rfl ?_
      unfold yieldsK
      go_simp
      exact ⟨rfl, Keep.refl _ _⟩
    by_cases h3 : i = 3
    · subst h3
      simp only [List.getElem?_toArray, List.getElem?_cons_zero, List.getElem?_cons_succ, Option.some.injEq] at hoo
      subst hoo
      have e33 : a.tmps.getD 33 undef = .bool false := hA ⟨2, .data⟩ (by simp) rfl
      refine Does.plain rfl ?_
      unfold yieldsK
      go_simp
      exact ⟨rfl, Keep.refl _ _⟩
    by_cases h4 : i = 4
    · subst h4
      simp only [List.getElem?_toArray, List.getElem?_cons_zero, List.getElem?_cons_succ, Option.some.injEq] at hoo
      subst hoo
      have e0 : a.tmps.getD 0 undef = .slice (some ad) (N + 4) c := hF.2.2 0 (by decide)
      refine Does.yes (j := 3) (d := 34) (want := false) rfl rfl (hA ⟨3, .guard⟩ (by simp) rfl) ?_
      unfold yieldsK
      go_simp
      exact ⟨rfl, Keep.refl _ _⟩
    by_cases h5 : i = 5
    · subst h5
      simp only [List.getElem?_toArray, List.getElem?_cons_zero, List.getElem?_cons_succ, Option.some.injEq] at hoo
      subst hoo
      have e5 : a.tmps.getD 5 undef = .int .i64 (N : Int) := hF.2.2 5 (by decide)
      refine Does.yes (j := 3) (d := 34) (want := false) rfl rfl (hA ⟨3, .guard⟩ (by simp) rfl) ?_
      unfold yieldsK
      go_simp
      exact ⟨rfl, Keep.refl _ _⟩
    by_cases h6 : i = 6
    · subst h6
      simp only [List.getElem?_toArray, List.getElem?_cons_zero, List.getElem?_cons_succ, Option.some.injEq] at hoo
      subst hoo
      have e35 : a.tmps.getD 35 undef = .slice (some ad) (N + 4) c := hA ⟨4, .data⟩ (by simp) rfl
      have e36 : a.tmps.getD 36 undef = .int .i64 (N : Int) := hA ⟨5, .data⟩ (by simp) rfl
      have hle : N ≤ c := by omega
      refine Does.yes (j := 3) (d := 34) (want := false) rfl rfl (hA ⟨3, .guard⟩ (by simp) rfl) ?_
      unfold yieldsK
      go_simp
      exact ⟨rfl, Keep.refl _ _⟩
    by_cases h7 : i = 7
    · subst h7
      simp only [List.getElem?_toArray, List.getElem?_cons_zero, List.getElem?_cons_succ, Option.some.injEq] at hoo
      subst hoo
      have e37 : a.tmps.getD 37 undef = .slice (some ad) N c := hA ⟨6, .data⟩ (by simp) rfl
      refine Does.yes (j := 3) (d := 34) (want := false) rfl rfl (hA ⟨3, .guard⟩ (by simp) rfl) ?_
      unfold yieldsK
      go_simp
      refine (rsum_any (some ad) T N c w' (HT.out.1.keep hK (fun _ _ _ => id)) HT.out.2 (by omega) R HR.out).mono ?_
      rintro e w9 ⟨rfl, rfl⟩
      exact ⟨_, rfl, rfl, Keep.refl _ _⟩
    by_cases h8 : i = 8
    · subst h8
      simp only [List.getElem?_toArray, List.getElem?_cons_zero, List.getElem?_cons_succ, Option.some.injEq] at hoo
      subst hoo
      have e38 : a.tmps.getD 38 undef = .int .u32 (R : Int) := hA ⟨7, .data⟩ (by simp) rfl
      refine Does.yes (j := 3) (d := 34) (want := false) rfl rfl (hA ⟨3, .guard⟩ (by simp) rfl) ?_
      unfold yieldsK
      go_simp
      refine (four_any R w' HRL.out).mono ?_
      rintro e w9 ⟨u, rfl, h2, h3⟩
      rw [HFR.out] at h2
      exact ⟨_, rfl, OwnB.ptV h2, h3⟩
    by_cases h9 : i = 9
    · subst h9
      simp only [List.getElem?_toArray, List.getElem?_cons_zero, List.getElem?_cons_succ, Option.some.injEq] at hoo
      subst hoo
      obtain ⟨A9, c9, e39, h9⟩ := hA ⟨8, .data⟩ (by simp) rfl
      have e39 : a.tmps.getD 39 undef = .slice A9 fr.length c9 := e39
      refine Does.yes (j := 3) (d := 34) (want := false) rfl rfl (hA ⟨3, .guard⟩ (by simp) rfl) ?_
      unfold yieldsK
      have hcv9 := V.conv_rd (c := c9) h9
      rw [HF1.out] at hcv9
      simp only [Array.getD_eq_getD_getElem?] at e39
      go_simp
      exact ⟨rfl, Keep.refl _ _⟩
    by_cases h10 : i = 10
    · subst h10
      simp only [List.getElem?_toArray, List.getElem?_cons_zero, List.getElem?_cons_succ, Option.some.injEq] at hoo
      subst hoo
      have e0 : a.tmps.getD 0 undef = .slice (some ad) (N + 4) c := hF.2.2 0 (by decide)
      refine Does.yes (j := 3) (d := 34) (want := false) rfl rfl (hA ⟨3, .guard⟩ (by simp) rfl) ?_
      unfold yieldsK
      go_simp
      exact ⟨rfl, Keep.refl _ _⟩
    by_cases h11 : i = 11
    · subst h11
      simp only [List.getElem?_toArray, List.getElem?_cons_zero, List.getElem?_cons_succ, Option.some.injEq] at hoo
      subst hoo
      have e5 : a.tmps.getD 5 undef = .int .i64 (N : Int) := hF.2.2 5 (by decide)
      refine Does.yes (j := 3) (d := 34) (want := false) rfl rfl (hA ⟨3, .guard⟩ (by simp) rfl) ?_
      unfold yieldsK
      go_simp
      exact ⟨rfl, Keep.refl _ _⟩
    by_cases h12 : i = 12
    · subst h12
      simp only [List.getElem?_toArray, List.getElem?_cons_zero, List.getElem?_cons_succ, Option.some.injEq] at hoo
      subst hoo
      have e41 : a.tmps.getD 41 undef = .slice (some ad) (N + 4) c := hA ⟨10, .data⟩ (by simp) rfl
      have e42 : a.tmps.getD 42 undef = .int .i64 (N : Int) := hA ⟨11, .data⟩ (by simp) rfl
      have hle : (N : Int) ≤ (N : Int) + 4 := by omega
      refine Does.yes (j := 3) (d := 34) (want := false) rfl rfl (hA ⟨3, .guard⟩ (by simp) rfl) ?_
      unfold yieldsK
      go_simp
      exact ⟨rfl, Keep.refl _ _⟩
    by_cases h13 : i = 13
    · subst h13
      simp only [List.getElem?_toArray, List.getElem?_cons_zero, List.getElem?_cons_succ, Option.some.injEq] at hoo
      subst hoo
      have e43 : a.tmps.getD 43 undef = .slice (some (ad.add N)) 4 (c - N) := hA ⟨12, .data⟩ (by simp) rfl
      have hcv9 := HCX.out w' hK
      refine Does.yes (j := 3) (d := 34) (want := false) rfl rfl (hA ⟨3, .guard⟩ (by simp) rfl) ?_
      unfold yieldsK
      go_simp
      exact ⟨rfl, Keep.refl _ _⟩
    by_cases h14 : i = 14
    · subst h14
      simp only [List.getElem?_toArray, List.getElem?_cons_zero, List.getElem?_cons_succ, Option.some.injEq] at hoo
      subst hoo
      have e40 : a.tmps.getD 40 undef = .string F1 := hA ⟨9, .data⟩ (by simp) rfl
      have e44 : a.tmps.getD 44 undef = .string X1 := hA ⟨13, .data⟩ (by simp) rfl
      have hbb := HBQ.out
      refine Does.yes (j := 3) (d := 34) (want := false) rfl rfl (hA ⟨3, .guard⟩ (by simp) rfl) ?_
      unfold yieldsK
      go_simp
      exact ⟨rfl, Keep.refl _ _⟩
    by_cases h15 : i = 15
    · subst h15
      simp only [List.getElem?_toArray, List.getElem?_cons_zero, List.getElem?_cons_succ, Option.some.injEq] at hoo
      subst hoo
      have e34 : a.tmps.getD 34 undef = .bool false := hA ⟨3, .data⟩ (by simp) rfl
      have e45 : a.tmps.getD 45 undef = .bool bb := hA ⟨14, .data⟩ (by simp) rfl
      refine Does.plain rfl ?_
      unfold yieldsK
      go_simp
      exact ⟨rfl, Keep.refl _ _⟩
    omega
  case spec =>
    intro o a w' hoo
    simp at hoo
  case fin =>
    intro a w' hF gK hA
    have e46 : a.tmps.getD 46 undef = .bool bb := hA 15 (by decide)
    have ha := frameD_list (l := [31, 32, 33, 34, 35, 36, 37, 38, 39, 40, 41, 42, 43, 44, 45, 46]) rfl hF
    rw [ha]
    simp only [List.map_cons, List.map_nil, e46]
    generalize a.tmps.getD 31 undef = u0
    generalize a.tmps.getD 32 undef = u1
    generalize a.tmps.getD 33 undef = u2
    generalize a.tmps.getD 34 undef = u3
    generalize a.tmps.getD 35 undef = u4
    generalize a.tmps.getD 36 undef = u5
    generalize a.tmps.getD 37 undef = u6
    generalize a.tmps.getD 38 undef = u7
    generalize a.tmps.getD 39 undef = u8
    generalize a.tmps.getD 40 undef = u9
    generalize a.tmps.getD 41 undef = u10
    generalize a.tmps.getD 42 undef = u11
    generalize a.tmps.getD 43 undef = u12
    generalize a.tmps.getD 44 undef = u13
    generalize a.tmps.getD 45 undef = u14
    simp only [fillD, List.setIfInBounds_toArray, List.set_cons_zero, List.set_cons_succ]
    replace bz9 := bz9.keep gK id
    replace kW9 := keepN kW9 gK
    have hr1 := hr0.keep gK (fun _ _ _ => id)
    have hrt := HRT.out _ gK
    clear hA hF ha e46 gK hr0 HT HCX HF1 HFR HR HRL HRT
    cases bb
    rotate_left
    · have HD := Lib.hid (HD2.out (fun h => by have := HXF.out.1 h; have hb := HBQ.out; rw [this] at hb; simp at hb))
      clear HD2 HD3 HD4 hr1 HXF HBQ HTT hrt
      have f3 := fun i => bz9.frozen i
      have q0 := bz9.cell 0
      have q1 := bz9.cell 1
      simp only [List.getElem?_toArray, List.getElem?_cons_zero, List.getElem?_cons_succ] at q0 q1
      have hlt := bz9.lt
      have HP := Lib.hid (put2_img bz9 (.slice none 0 0) (.slice none 0 0))
      have HK := Lib.hid (kW9.trans (keep2_img _ w.heap.size (.slice none 0 0) (.slice none 0 0)) (fun k e hl => by omega))
      clear bz9 kW9
      go_wp2
      refine bodyPost_ret (ret_imgE (v := nilW) rfl rfl HP.out rfl) rfl ?_
      rw [HD.out]
      exact ⟨nilW, [], [], rfl, nil_own _ _, rfl, HK.out⟩
    · obtain ⟨i0, hi, hz0, hz1, hz2⟩ := info_parts shape_info
      obtain ⟨j0, hfi, hy0, hy1, hy2⟩ := info_parts fun_info
      have hXF : X = fr := HXF.out.2 (by have hb := HBQ.out; simpa using hb)
      replace HD3 := Lib.hid (HD3.out hXF)
      replace HD4 := Lib.hid (fun p => HD4.out p hXF)
      clear HD2 HXF HBQ hXF hr1
      have hlN : N ≤ 1073741824 := by omega
      have HTW := Lib.hid (V.twin_any w' (some (ad.add 5)) TT (c - 5) hrt (by rw [HTT.out]; omega))
      rw [HTT.out] at HTW
      go_wp2_with fail
      refine HTW.out.mono ?_
      rintro e w4 ⟨u4, rfl, h4, k4⟩
      obtain ⟨RA, ra, rfl, hrc, hrr, hrad, hrm⟩ := h4.form
      obtain ⟨_, _, e4, _, hb4⟩ := F.own_rdB h4
      cases e4
      rw [HTT.out] at hrc ⊢
      have kA := ((Keep.refl NoB w4).alloc (.cells #[.slice RA (N - 5) ra, .int .i64 0] 104)).alloc (.cells #[.slice none 0 0, .slice none 0 0] 25)
      have bR : Blk ((w4.alloc (.cells #[.slice RA (N - 5) ra, .int .i64 0] 104)).alloc (.cells #[.slice none 0 0, .slice none 0 0] 25)) w4.heap.size 104 #[.slice RA (N - 5) ra, .int .i64 0] := (Blk.new w4 _ _).alloc _
      have bP := Blk.new (w4.alloc (.cells #[.slice RA (N - 5) ra, .int .i64 0] 104)) 25 #[.slice none 0 0, .slice none 0 0]
      rw [World.size_alloc] at bP
      have hwz := bz9.lt
      have hw4 := k4.size
      have hRef : V.RefAt ((w4.alloc (.cells #[.slice RA (N - 5) ra, .int .i64 0] 104)).alloc (.cells #[.slice none 0 0, .slice none 0 0] 25)) w4.heap.size (fun k => w.heap.size < k ∧ k ≤ w4.heap.size) TT 0 :=
        ⟨⟨by omega, Nat.le_refl _⟩, Nat.zero_le _, RA, ra, by rw [HTT.out]; exact bR, hrr.keep kA (fun _ _ _ => id), by rw [HTT.out]; exact hrc, hrm, fun ad' e => by
          have h1 := (hrad ad' e).1
          have h2 := hb4 ad' e
          unfold Fresh at h1
          exact ⟨⟨by omega, by omega⟩, by simp; omega⟩⟩
      have HBZ : Hid (Blk _ w.heap.size 25 #[.slice none 0 0, .slice none 0 0] ∧ Keep NoB w _ ∧ w.heap.size < w4.heap.size) := ⟨(bz9.keep k4 id).keep kA id, keepN (keepN kW9 k4) kA, by omega⟩
      have hsz7 : ((w4.alloc (.cells #[.slice RA (N - 5) ra, .int .i64 0] 104)).alloc (.cells #[.slice none 0 0, .slice none 0 0] 25)).heap.size = w4.heap.size + 1 + 1 := by simp
      clear bR kA hrr hrad hrc hrm hb4 h4 k4 bz9 kW9 hwz hw4 hrt HTW
      go_wp2_with fail
      generalize hw7 : (w4.alloc (.cells #[.slice RA (N - 5) ra, .int .i64 0] 104)).alloc (.cells #[.slice none 0 0, .slice none 0 0] 25) = w7 at *
      clear hw7
      generalize w4.heap.size = br at *
      obtain ⟨n, r, q, hN, hN0, hN1⟩ := S.num_case TT 0 64
      have HNU := Lib.hid (V.refnumber_at w7 br _ TT 0 64 64 n r q hRef (by rw [HTT.out]; omega) rfl hN)
      have HN1 := Lib.hid hN1
      have hn64 : n ≤ 64 := by
        by_cases h : r = 0
        · exact (hN0 h).1
        · have := hN1 h; omega
      have HNO : Hid (r = 0 → ∀ j, j ≤ n → rdK (S.decS TT) j q = none → rdL (S.decS TT) TT 0 = none) := fun h j hj h2 => by
        subst h
        rw [rdLS_2 hN]; exact rdK_none h2 n hj
      have HYE : Hid (r = 0 → rdL (S.decS TT) TT 0 = rdK (S.decS TT) n q) := fun h => by subst h; exact rdLS_2 hN
      have HNL : Hid (r ≠ 0 → rdL (S.decS TT) TT 0 = none) := fun h => rdLS_1 hN h
      clear hN hN0 hN1 hRef
      refine HNU.out.mono ?_
      rintro e w8 ⟨rfl, ha8, k8⟩
      have HC0 : Hid (DcS w7 w8 br 0 (fun k => w.heap.size < k ∧ k ≤ br) TT q 0 q r (r : Int) none 0 0 (br + 1 + 1) (.slice none 0 0) []) :=
        ⟨bP.keep k8 (fun e => by omega), Own.nil _ _ _ _, (fun _ h => nomatch h), ha8, k8.mono (fun _ h _ => .inl h), Nat.le_refl _, by
          by_cases h : r = 0
          · exact .inl ⟨by omega, h, rfl, rfl⟩
          · exact .inr ⟨by omega, HNL.out h⟩⟩
      clear ha8 k8 HNU HNL bP
      go_wp2_with fail
      go_loopw [9, 10] (fun e i wr => ∃ k : Nat, k ≤ n ∧ i = .int .u64 k ∧ ∃ E A c q1 es, ∃ M : Nat, e = .int .i64 E ∧ Hid (DcS w7 wr br k (fun k => w.heap.size < k ∧ k ≤ br) TT q1 0 q r E A M c (br + 1 + 1) (.slice none 0 0) es)) (fun _ i _ => n - (intOf i).toNat)
      case atStart => exact ⟨0, Nat.zero_le _, rfl, _, _, _, _, _, _, rfl, HC0.out⟩
      case round =>
        obtain ⟨k, hk, rfl, E, A1, c1, q1, es, M, rfl, HO⟩ := hrel
        clear HC0
        rcases HO.out.ho with ⟨rfl, hr0', hMk, hrd⟩ | ⟨hE, hno⟩
        · have HR0 := Lib.hid hr0'
          clear hr0'
          by_cases hlt : k < n
          · have HE := Lib.hid (rdecS_gen wr br _ TT q1 HO.out.ha (by rw [HTT.out]; omega))
            have HRD := Lib.hid hrd
            subst hMk
            clear hrd
            go_wp2_with fail
            refine HE.out.mono ?_
            rintro e w8 ⟨A9, n9, c9, x9, E9, q9, rfl, h9, ha9, k9, ho9⟩
            have kB := (Keep.refl NoB w8).alloc (.cells #[.slice A9 n9 c9] 58)
            have hbN := Blk.new w8 58 #[.slice A9 n9 c9]
            have hb8 := HO.out.hb.keep k9 (fun e => by omega)
            obtain ⟨c0, c1x⟩ := blk2 (v := ⟨A1, M, c1, none, 0, 0⟩) hb8
            dsimp only at c0
            have hbW := hb8.keep kB id
            have hrW := (HO.out.hr.keep k9 (fun j hj e => by omega)).keepN kB
            have hwz := k9.size
            have hw8 := HO.out.hk.size
            have h9' : OwnS (w8.alloc (.cells #[.slice A9 n9 c9] 58)) (fun j => br + 1 + 1 ≤ j) (⟨A9, n9, c9⟩, x9) := OwnS.mono (OwnS.keep (show OwnS w8 (Fresh wr) (⟨A9, n9, c9⟩, x9) from h9) kB (fun _ _ => id)) (fun j (hj : Fresh wr j) _ => by unfold Fresh at hj; omega)
            have HFIN : Hid (∀ v' W5, W5.ownsRow 0 58 1 v' (M + 1) (svs es ++ [.slice A9 n9 c9]) → (w8.alloc (.cells #[.slice A9 n9 c9] 58)).grownBy W5 (Value.slice A1 M c1).ownBlock → (v'.ownBlock = (Value.slice A1 M c1).ownBlock ∨ v'.ownBlock = some (w8.alloc (.cells #[.slice A9 n9 c9] 58)).heap.size) →
                Blk W5 (br + 1) 25 #[.slice A1 M c1, .slice none 0 0] ∧ ∀ A5 c5, v' = .slice A5 (M + 1) c5 → DcS w7 (W5.setCell ⟨br + 1, 0, none⟩ v') br (M + 1) (fun k => w.heap.size < k ∧ k ≤ br) TT q9 0 q r E9 A5 (M + 1) c5 (br + 1 + 1) (.slice none 0 0) (es ++ [(⟨A9, n9, c9⟩, x9)])) := fun v' W5 hown hg hv => by
              obtain ⟨h1, h2, h3, h4⟩ := row_append (i := 0) hbW hrW (fun j (hj : br + 1 + 1 ≤ j) => by omega) hg hown hv (by show br + 1 + 1 ≤ _; simp; omega)
              have hty := row_ty (F := 3) hbW hrW (by decide) (by decide)
              have hat := fun j hj => (row_at hbW hrW j hj).1
              refine ⟨h1, fun A5 c5 e => ?_⟩
              subst e
              refine ⟨by simpa using h3, by rw [svs_append]; exact h2, fun e he => ?_, (ha9.keep kB (fun _ _ => id)).keep h4 (fun j hj e => by have := hat j e; omega), ((HO.out.hk.trans k9 (fun _ h _ => .inl h)).trans (kB.mono (fun _ hf _ => hf.elim)) (fun _ h _ => h)).trans h4 (fun j hj hl => by
                rcases hat j hj with h | h
                · exact .inr h
                · exfalso; have := HO.out.hk.size; omega), by omega, ?_⟩
              · rcases List.mem_append.1 he with he | he
                · exact own_other (OwnS.keep (OwnS.keep (HO.out.hs e he) k9 (fun j hj e => by omega)) kB (fun _ _ => id)) h4 hty
                · rw [List.mem_singleton.1 he]; exact own_other h9' h4 hty
              · rcases ho9 with ⟨rfl, hs9⟩ | ⟨hE9, hs9⟩
                · exact .inl ⟨rfl, HR0.out, rfl, by rw [rdK_succ HRD.out hs9, List.map_append]; rfl⟩
                · exact .inr ⟨hE9, HNO.out HR0.out (M + 1) (by omega) (rdK_succ_no HRD.out hs9)⟩
            have HBW := Lib.hid hrW
            have hrb := rd_blkN hbN
            have hM := HO.out.hl
            clear HE HRD h9 ha9 k9 ho9 kB hbN hb8 c1x hbW hrW h9' HO hwz hw8
            generalize svs es = xs at *
            go_wp2_with (at_builtin; refine wpList_append_rd _ rfl (.tmp 77) (.tmp 79) _ rfl 58 1 24 i0 _ Tryz.underlying22 hi hz0 hz1 hz2 rfl (by decide) (.slice A1 M c1) M xs (some ⟨w8.heap.size, 0, none⟩) 1 1 [.slice A9 n9 c9] rfl HBW.out.1 rfl hrb rfl (by simp [Value.oneCell']) (by unfold maxLen; omega) (by omega) ?_; intro B5 d5 W5 hrow5 hg5 hv5; obtain ⟨hb5, hfin⟩ := HFIN.out _ _ hrow5 hg5 hv5; have t0 := hb5.cell 0; have f0 := fun i => hb5.frozen i; have l0 := hb5.lt; simp only [List.getElem?_toArray, List.getElem?_cons_zero] at t0)
            go_roundw
            case rel => exact ⟨M + 1, by omega, by go_num, E9, B5, d5, q9, _, M + 1, rfl, hfin _ _ rfl⟩
            case measure => simp [intOf]; omega
          · obtain rfl : k = n := by omega
            have HS1 : Hid (rdL (S.decS TT) TT 0 = some (es.map (fun e => e.2), q1)) := by
              show _ = _
              rw [HYE.out HR0.out]; exact hrd
            subst hMk
            clear hrd HNO HYE HN1 HR0
            obtain ⟨n2, r2, q2, hN, hN0, hN1⟩ := S.num_case TT q1 64
            have HNU := Lib.hid (V.refnumber_at wr br _ TT q1 64 64 n2 r2 q2 HO.out.ha (by rw [HTT.out]; omega) rfl hN)
            have HN1 := Lib.hid hN1
            have hn64b : n2 ≤ 64 := by
              by_cases h : r2 = 0
              · exact (hN0 h).1
              · have := hN1 h; omega
            have HNO : Hid (r2 = 0 → ∀ j, j ≤ n2 → rdK (F.decF TT) j q2 = none → rdL (F.decF TT) TT q1 = none) := fun h j hj h2 => by
              subst h
              rw [rdLF_2 hN]; exact rdK_none h2 n2 hj
            have HYE : Hid (r2 = 0 → rdL (F.decF TT) TT q1 = rdK (F.decF TT) n2 q2) := fun h => by subst h; exact rdLF_2 hN
            have HNL : Hid (r2 ≠ 0 → rdL (F.decF TT) TT q1 = none) := fun h => rdLF_1 hN h
            clear hN hN0 hN1 hlt hk
            go_wp2_with fail
            refine HNU.out.mono ?_
            rintro e w9 ⟨rfl, ha8, k8⟩
            have hM64 := HO.out.hl
            have HC1 : Hid (DcF w7 w9 br 0 (fun k => w.heap.size < k ∧ k ≤ br) TT q2 q1 q2 r2 (r2 : Int) A1 none M 0 c1 0 (br + 1 + 1) es []) :=
              ⟨HO.out.hb.keep k8 (fun e => by omega), HO.out.hr.keep k8 (fun j hj e => by omega), fun e he => OwnS.keep (HO.out.hs e he) k8 (fun j hj e => by omega), Own.nil _ _ _ _, (fun _ h => nomatch h), ha8, HO.out.hk.trans k8 (fun _ h _ => .inl h), Nat.le_refl _, by
                by_cases h : r2 = 0
                · exact .inl ⟨by omega, h, rfl, rfl⟩
                · exact .inr ⟨by omega, HNL.out h⟩⟩
            obtain ⟨wo, hwo⟩ : ∃ wo, wo = wr := ⟨_, rfl⟩
            subst hwo
            clear ha8 k8 HNU HNL HO
            go_wp2_with fail
            go_loopw [9, 13] (fun e i wr => ∃ j : Nat, j ≤ n2 ∧ i = .int .u64 j ∧ ∃ E A2 c2 q3 fs, ∃ M2 : Nat, e = .int .i64 E ∧ Hid (DcF w7 wr br j (fun k => w.heap.size < k ∧ k ≤ br) TT q3 q1 q2 r2 E A1 A2 M M2 c1 c2 (br + 1 + 1) es fs)) (fun _ i _ => n2 - (intOf i).toNat)
            case atStart => exact ⟨0, Nat.zero_le _, rfl, _, _, _, _, _, _, rfl, HC1.out⟩
            case round =>
              obtain ⟨j, hj, rfl, E, A2, c2, q3, fs, M2, rfl, HO⟩ := hrel
              clear HC1
              rcases HO.out.ho with ⟨rfl, hr0', hMk, hrd⟩ | ⟨hE, hno⟩
              · have HR0 := Lib.hid hr0'
                clear hr0'
                by_cases hlt : j < n2
                · have HE := Lib.hid (rdecF_gen wr br _ TT q3 (fun k hk => by have := HO.out.hb.lt; omega) HO.out.ha (by rw [HTT.out]; omega))
                  have HRD := Lib.hid hrd
                  subst hMk
                  clear hrd
                  go_wp2_with fail
                  refine HE.out.mono ?_
                  rintro e w8 ⟨v9, x9, E9, q9, rfl, h9, ha9, k9, ho9⟩
                  obtain ⟨S9, A9, na9, ca9, B9, nb9, cb9, L9, nl9, cl9, D9, nd9, cd9⟩ := v9
                  dsimp only [F.FV.val, F.FV.cells] at *
                  have bF := Blk.new w8 61 #[.string S9, .slice A9 na9 ca9, .slice B9 nb9 cb9, .slice L9 nl9 cl9, .slice D9 nd9 cd9]
                  obtain ⟨z0, z1, z2, z3, z4⟩ := F.blk5 (v := ⟨S9, A9, na9, ca9, B9, nb9, cb9, L9, nl9, cl9, D9, nd9, cd9⟩) bF
                  dsimp only at z0 z1 z2 z3 z4
                  have kA := (Keep.refl NoB w8).alloc (.cells #[.string S9, .slice A9 na9 ca9, .slice B9 nb9 cb9, .slice L9 nl9 cl9, .slice D9 nd9 cd9] 61)
                  have kB := kA.alloc (.cells #[.string S9, .slice A9 na9 ca9, .slice B9 nb9 cb9, .slice L9 nl9 cl9, .slice D9 nd9 cd9] 61)
                  have hbN := Blk.new (w8.alloc (.cells #[.string S9, .slice A9 na9 ca9, .slice B9 nb9 cb9, .slice L9 nl9 cl9, .slice D9 nd9 cd9] 61)) 61 #[.string S9, .slice A9 na9 ca9, .slice B9 nb9 cb9, .slice L9 nl9 cl9, .slice D9 nd9 cd9]
                  rw [World.size_alloc] at hbN
                  have hb8 := HO.out.hb.keep k9 (fun e => by omega)
                  obtain ⟨c0x, c1y⟩ := blk2 (v := ⟨A1, M, c1, A2, M2, c2⟩) (hb8.keep kA id)
                  dsimp only at c1y
                  have hbW := hb8.keep kB id
                  have hrW := (HO.out.hr2.keep k9 (fun j hj e => by omega)).keepN kB
                  have hwz := k9.size
                  have hw8 := HO.out.hk.size
                  have h9' : OwnF ((w8.alloc (.cells #[.string S9, .slice A9 na9 ca9, .slice B9 nb9 cb9, .slice L9 nl9 cl9, .slice D9 nd9 cd9] 61)).alloc (.cells #[.string S9, .slice A9 na9 ca9, .slice B9 nb9 cb9, .slice L9 nl9 cl9, .slice D9 nd9 cd9] 61)) (fun j => br + 1 + 1 ≤ j) (⟨S9, A9, na9, ca9, B9, nb9, cb9, L9, nl9, cl9, D9, nd9, cd9⟩, x9) := OwnF.mono (OwnF.keep (show OwnF w8 (Fresh wr) (⟨S9, A9, na9, ca9, B9, nb9, cb9, L9, nl9, cl9, D9, nd9, cd9⟩, x9) from h9) kB (fun _ _ => id)) (fun j (hj : Fresh wr j) _ => by unfold Fresh at hj; omega)
                  have HFIN : Hid (∀ v' W5, W5.ownsRow 0 61 5 v' (M2 + 1) (fvs fs ++ (#[.string S9, .slice A9 na9 ca9, .slice B9 nb9 cb9, .slice L9 nl9 cl9, .slice D9 nd9 cd9] : Array Value).toList) → ((w8.alloc (.cells #[.string S9, .slice A9 na9 ca9, .slice B9 nb9 cb9, .slice L9 nl9 cl9, .slice D9 nd9 cd9] 61)).alloc (.cells #[.string S9, .slice A9 na9 ca9, .slice B9 nb9 cb9, .slice L9 nl9 cl9, .slice D9 nd9 cd9] 61)).grownBy W5 (Value.slice A2 M2 c2).ownBlock → (v'.ownBlock = (Value.slice A2 M2 c2).ownBlock ∨ v'.ownBlock = some ((w8.alloc (.cells #[.string S9, .slice A9 na9 ca9, .slice B9 nb9 cb9, .slice L9 nl9 cl9, .slice D9 nd9 cd9] 61)).alloc (.cells #[.string S9, .slice A9 na9 ca9, .slice B9 nb9 cb9, .slice L9 nl9 cl9, .slice D9 nd9 cd9] 61)).heap.size) →
                      Blk W5 (br + 1) 25 #[.slice A1 M c1, .slice A2 M2 c2] ∧ ∀ A5 c5, v' = .slice A5 (M2 + 1) c5 → DcF w7 (W5.setCell ⟨br + 1, 1, none⟩ v') br (M2 + 1) (fun k => w.heap.size < k ∧ k ≤ br) TT q9 q1 q2 r2 E9 A1 A5 M (M2 + 1) c1 c5 (br + 1 + 1) es (fs ++ [(⟨S9, A9, na9, ca9, B9, nb9, cb9, L9, nl9, cl9, D9, nd9, cd9⟩, x9)])) := fun v' W5 hown hg hv => by
                    obtain ⟨h1, h2, h3, h4⟩ := row_append (i := 1) hbW hrW (fun j (hj : br + 1 + 1 ≤ j) => by omega) hg hown hv (by show br + 1 + 1 ≤ _; simp; omega)
                    have hty := row_ty (F := 3) hbW hrW (by decide) (by decide)
                    have hti := row_ty (F := 63) hbW hrW (by decide) (by decide)
                    have hts := row_ty (F := 58) hbW hrW (by decide) (by decide)
                    have hat := fun j hj => (row_at hbW hrW j hj).1
                    refine ⟨h1, fun A5 c5 e => ?_⟩
                    subst e
                    refine ⟨by simpa using h3, own_other ((HO.out.hr.keep k9 (fun j hj e => by omega)).keepN kB) h4 hts, fun e he => own_other (OwnS.keep (OwnS.keep (HO.out.hs e he) k9 (fun j hj e => by omega)) kB (fun _ _ => id)) h4 hty, by rw [fvs_append]; simpa [fvs, F.FV.cells] using h2, fun e he => ?_, (ha9.keep kB (fun _ _ => id)).keep h4 (fun j hj e => by have := hat j e; omega), ((HO.out.hk.trans k9 (fun _ h _ => .inl h)).trans (kB.mono (fun _ hf _ => hf.elim)) (fun _ h _ => h)).trans h4 (fun j hj hl => by
                      rcases hat j hj with h | h
                      · exact .inr h
                      · exfalso; have := HO.out.hk.size; omega), by omega, ?_⟩
                    · rcases List.mem_append.1 he with he | he
                      · exact ownF_other ((HO.out.hf e he).keep k9 (fun j hj e => by omega) |>.keepN kB) h4 hty hti
                      · rw [List.mem_singleton.1 he]; exact ownF_other h9' h4 hty hti
                    · rcases ho9 with ⟨rfl, hs9⟩ | ⟨hE9, hs9⟩
                      · exact .inl ⟨rfl, HR0.out, rfl, by rw [rdK_succ HRD.out hs9, List.map_append]; rfl⟩
                      · exact .inr ⟨hE9, HNO.out HR0.out (M2 + 1) (by omega) (rdK_succ_no HRD.out hs9)⟩
                  have HBW := Lib.hid hrW
                  have hrb := rd_blkN hbN
                  have hM := HO.out.hl
                  clear HE HRD h9 ha9 k9 ho9 kA kB hbN hb8 c0x hbW hrW h9' HO hwz hw8 bF
                  generalize fvs fs = xs at *
                  go_wp2_with (at_builtin; refine wpList_append_rd _ rfl (.tmp 106) (.tmp 108) _ rfl 61 5 112 j0 _ Tryz.underlying23 hfi hy0 hy1 hy2 rfl (by decide) (.slice A2 M2 c2) M2 xs (some ⟨w8.heap.size + 1, 0, none⟩) 1 1 (#[.string S9, .slice A9 na9 ca9, .slice B9 nb9 cb9, .slice L9 nl9 cl9, .slice D9 nd9 cd9] : Array Value).toList rfl HBW.out.1 rfl hrb rfl (by simp [Value.oneCell']) (by unfold maxLen; omega) (by omega) ?_; intro B5 d5 W5 hrow5 hg5 hv5; obtain ⟨hb5, hfin⟩ := HFIN.out _ _ hrow5 hg5 hv5; have t0 := hb5.cell 1; have f0 := fun i => hb5.frozen i; have l0 := hb5.lt; simp only [List.getElem?_toArray, List.getElem?_cons_zero, List.getElem?_cons_succ] at t0)
                  go_roundw
                  case rel => exact ⟨M2 + 1, by omega, by go_num, E9, B5, d5, q9, _, M2 + 1, rfl, hfin _ _ rfl⟩
                  case measure => simp [intOf]; omega
                · obtain rfl : j = n2 := by omega
                  have hsome := rdI_3 HS1.out (show rdL (F.decF TT) TT q1 = some (fs.map (fun e => e.2), q3) by rw [HYE.out HR0.out]; exact hrd)
                  have hrdi : rdI TT 0 = some (imOf es fs, q3) := hsome
                  have hqle := HO.out.ha.2.1
                  subst hMk
                  clear hrd HNO HYE HN1 hsome
                  by_cases hq : q3 < TT.length
                  · have HEN := Lib.hid (V.refend_any wr br _ TT q3 HO.out.ha 13 (by show _ = _; rw [if_pos hq]))
                    have hne := opI_2 hrdi (fun h => by have := h.1; dsimp only at this; omega)
                    go_wp2_with fail
                    refine HEN.out.mono ?_
                    rintro e w9 ⟨rfl, mm, rfl⟩
                    have HD := Lib.hid (HD3.out hne)
                    have hgb := HBZ.out.2.2
                    have bz9 := (HBZ.out.1.keep HO.out.hk (fun e => by omega)).keep ((Keep.refl NoB wr).drewN mm) id
                    have kW9 := (HBZ.out.2.1.trans HO.out.hk (fun j e hl => by omega)).drewN mm
                    clear HO HD3 HD4 HBZ hgb HEN hne hrdi hq
                    have f3 := fun i => bz9.frozen i
                    have q0 := bz9.cell 0
                    have q1 := bz9.cell 1
                    simp only [List.getElem?_toArray, List.getElem?_cons_zero, List.getElem?_cons_succ] at q0 q1
                    have hlt := bz9.lt
                    have HP := Lib.hid (put2_img bz9 (.slice none 0 0) (.slice none 0 0))
                    have HK := Lib.hid (kW9.trans (keep2_img _ w.heap.size (.slice none 0 0) (.slice none 0 0)) (fun k e hl => by omega))
                    clear bz9 kW9
                    go_wp2
                    refine bodyPost_ret (ret_imgE (v := nilW) rfl rfl HP.out rfl) rfl ?_
                    rw [HD.out]
                    exact ⟨nilW, [], [], rfl, nil_own _ _, rfl, HK.out⟩
                  · have HQE : Hid (q3 = TT.length) := by show _ = _; omega
                    have HEN := Lib.hid (V.refend_any wr br _ TT q3 HO.out.ha 0 (by show _ = _; rw [if_neg hq]))
                    have hown : OwnIm wr (fun j => br + 1 + 1 ≤ j) ⟨A1, M, c1, A2, M2, c2⟩ es fs := ⟨HO.out.hr, HO.out.hr2, HO.out.hs, HO.out.hf⟩
                    have hsmi := (sm_of hown.im (rdI_small hrdi)).1
                    have HOW := Lib.hid hown
                    have HCK := Lib.hid (fun W (hk : Keep NoB wr W) => rcheckI_any ⟨A1, M, c1, A2, M2, c2⟩ es fs W (hown.keepN hk).im hsmi _ rfl)
                    clear hown hsmi
                    go_wp2_with fail
                    refine HEN.out.mono ?_
                    rintro e w9 ⟨rfl, mm, rfl⟩
                    have kd := (Keep.refl NoB wr).drewN mm
                    replace HCK := Lib.hid (HCK.out _ kd)
                    have hgb := HBZ.out.2.2
                    have bz9 := (HBZ.out.1.keep HO.out.hk (fun e => by omega)).keep kd id
                    have kW9 := (HBZ.out.2.1.trans HO.out.hk (fun j e hl => by omega)).drewN mm
                    have hbp := HO.out.hb.keep kd id
                    have hO9 := HOW.out.keepN kd
                    generalize wr.drewN mm = wd at *
                    obtain ⟨c0, c1x⟩ := blk2 (v := ⟨A1, M, c1, A2, M2, c2⟩) hbp
                    dsimp only at c0 c1x
                    have HBB := Lib.hid (And.intro bz9 (And.intro kW9 (And.intro hbp hO9)))
                    have HHS := Lib.hid HO.out.hk.size
                    clear HO HEN kd bz9 kW9 hbp hO9 HOW HBZ hq
                    cases ho : okI (imOf es fs)
                    · rw [chkI_no ho] at HCK
                      have HD := Lib.hid (HD3.out (opI_2 hrdi (fun h => by rw [ho] at h; exact absurd h.2 (by decide))))
                      clear HD3 HD4 hrdi ho hgb HHS
                      dsimp only [IV.val, IV.cells] at HCK
                      go_wp2_with fail
                      refine HCK.out.mono ?_
                      rintro e we ⟨rfl, ke⟩
                      have bz9 := HBB.out.1.keep ke id
                      have kW9 := keepN HBB.out.2.1 ke
                      clear HBB HCK ke c0 c1x
                      have f3 := fun i => bz9.frozen i
                      have q0 := bz9.cell 0
                      have q1 := bz9.cell 1
                      simp only [List.getElem?_toArray, List.getElem?_cons_zero, List.getElem?_cons_succ] at q0 q1
                      have hlt := bz9.lt
                      have HP := Lib.hid (put2_img bz9 (.slice none 0 0) (.slice none 0 0))
                      have HK := Lib.hid (kW9.trans (keep2_img _ w.heap.size (.slice none 0 0) (.slice none 0 0)) (fun k e hl => by omega))
                      clear bz9 kW9
                      go_wp2
                      refine bodyPost_ret (ret_imgE (v := nilW) rfl rfl HP.out rfl) rfl ?_
                      rw [HD.out]
                      exact ⟨nilW, [], [], rfl, nil_own _ _, rfl, HK.out⟩
                    · rw [chkI_ok ho] at HCK
                      have HD := Lib.hid (HD4.out (imOf es fs) (opI_3 hrdi HQE.out ho))
                      clear HD3 HD4 hrdi ho
                      dsimp only [IV.val, IV.cells] at HCK
                      go_wp2_with fail
                      refine HCK.out.mono ?_
                      rintro e we ⟨rfl, ke⟩
                      obtain ⟨bz7, kW7, hbp, hO9⟩ := HBB.out
                      have bz8 := bz7.keep ke id
                      have kW8 := keepN kW7 ke
                      have hO8 := hO9.keepN ke
                      clear c0 c1x
                      obtain ⟨r0, r1⟩ := blk2 (v := ⟨A1, M, c1, A2, M2, c2⟩) (hbp.keep ke id)
                      dsimp only at r0 r1
                      have f3 := fun i => bz8.frozen i
                      have q0 := bz8.cell 0
                      have q1 := bz8.cell 1
                      simp only [List.getElem?_toArray, List.getElem?_cons_zero, List.getElem?_cons_succ] at q0 q1
                      have hlt := bz8.lt
                      have HP := Lib.hid (put2_img bz8 (.slice A1 M c1) (.slice A2 M2 c2))
                      have kq := keep2_img we w.heap.size (.slice A1 M c1) (.slice A2 M2 c2)
                      have HK := Lib.hid (kW8.trans kq (fun k e hl => by omega))
                      have HFO := Lib.hid ((hO8.keep kq (fun k hk e => by omega)).mono (P' := Fresh w) (fun k hk _ => by unfold Fresh; omega))
                      clear bz8 kW8 hO8 bz7 kW7 hO9 hbp HBB ke kq HCK
                      go_wp2
                      refine bodyPost_ret (ret_imgE (v := ⟨A1, M, c1, A2, M2, c2⟩) rfl rfl HP.out rfl) rfl ?_
                      rw [HD.out]
                      exact ⟨⟨A1, M, c1, A2, M2, c2⟩, es, fs, rfl, HFO.out, rfl, HK.out⟩
              · have hE1 : (E == 0) = false := beq_eq_false_iff_ne.2 hE
                have hE2 : (E != 0) = true := F.nez hE
                by_cases hlt : j < n2
                · have HD := Lib.hid (HD3.out (opI_1 (rdI_2 HS1.out hno)))
                  have hgb := HBZ.out.2.2
                  have bz9 := HBZ.out.1.keep HO.out.hk (fun e => by omega)
                  have kW9 := HBZ.out.2.1.trans HO.out.hk (fun j e hl => by omega)
                  clear HO HD3 HD4 HBZ hgb
                  have f3 := fun i => bz9.frozen i
                  have q0 := bz9.cell 0
                  have q1 := bz9.cell 1
                  simp only [List.getElem?_toArray, List.getElem?_cons_zero, List.getElem?_cons_succ] at q0 q1
                  have hlt := bz9.lt
                  have HP := Lib.hid (put2_img bz9 (.slice none 0 0) (.slice none 0 0))
                  have HK := Lib.hid (kW9.trans (keep2_img _ w.heap.size (.slice none 0 0) (.slice none 0 0)) (fun k e hl => by omega))
                  clear bz9 kW9
                  go_wp2
                  refine bodyPost_ret (ret_imgE (v := nilW) rfl rfl HP.out rfl) rfl ?_
                  rw [HD.out]
                  exact ⟨nilW, [], [], rfl, nil_own _ _, rfl, HK.out⟩
                · obtain rfl : j = n2 := by omega
                  have HD := Lib.hid (HD3.out (opI_1 (rdI_2 HS1.out hno)))
                  have hgb := HBZ.out.2.2
                  have bz9 := HBZ.out.1.keep HO.out.hk (fun e => by omega)
                  have kW9 := HBZ.out.2.1.trans HO.out.hk (fun j e hl => by omega)
                  clear HO HD3 HD4 HBZ hgb
                  have f3 := fun i => bz9.frozen i
                  have q0 := bz9.cell 0
                  have q1 := bz9.cell 1
                  simp only [List.getElem?_toArray, List.getElem?_cons_zero, List.getElem?_cons_succ] at q0 q1
                  have hlt := bz9.lt
                  have HP := Lib.hid (put2_img bz9 (.slice none 0 0) (.slice none 0 0))
                  have HK := Lib.hid (kW9.trans (keep2_img _ w.heap.size (.slice none 0 0) (.slice none 0 0)) (fun k e hl => by omega))
                  clear bz9 kW9
                  go_wp2
                  refine bodyPost_ret (ret_imgE (v := nilW) rfl rfl HP.out rfl) rfl ?_
                  rw [HD.out]
                  exact ⟨nilW, [], [], rfl, nil_own _ _, rfl, HK.out⟩
        · have hE1 : (E == 0) = false := beq_eq_false_iff_ne.2 hE
          have hE2 : (E != 0) = true := F.nez hE
          by_cases hlt : k < n
          · have HD := Lib.hid (HD3.out (opI_1 (rdI_1 hno)))
            have hgb := HBZ.out.2.2
            have bz9 := HBZ.out.1.keep HO.out.hk (fun e => by omega)
            have kW9 := HBZ.out.2.1.trans HO.out.hk (fun j e hl => by omega)
            clear HO HD3 HD4 HBZ hgb
            have f3 := fun i => bz9.frozen i
            have q0 := bz9.cell 0
            have q1 := bz9.cell 1
            simp only [List.getElem?_toArray, List.getElem?_cons_zero, List.getElem?_cons_succ] at q0 q1
            have hlt := bz9.lt
            have HP := Lib.hid (put2_img bz9 (.slice none 0 0) (.slice none 0 0))
            have HK := Lib.hid (kW9.trans (keep2_img _ w.heap.size (.slice none 0 0) (.slice none 0 0)) (fun k e hl => by omega))
            clear bz9 kW9
            go_wp2
            refine bodyPost_ret (ret_imgE (v := nilW) rfl rfl HP.out rfl) rfl ?_
            rw [HD.out]
            exact ⟨nilW, [], [], rfl, nil_own _ _, rfl, HK.out⟩
          · obtain rfl : k = n := by omega
            have HD := Lib.hid (HD3.out (opI_1 (rdI_1 hno)))
            have hgb := HBZ.out.2.2
            have bz9 := HBZ.out.1.keep HO.out.hk (fun e => by omega)
            have kW9 := HBZ.out.2.1.trans HO.out.hk (fun j e hl => by omega)
            clear HO HD3 HD4 HBZ hgb
            have f3 := fun i => bz9.frozen i
            have q0 := bz9.cell 0
            have q1 := bz9.cell 1
            simp only [List.getElem?_toArray, List.getElem?_cons_zero, List.getElem?_cons_succ] at q0 q1
            have hlt := bz9.lt
            have HP := Lib.hid (put2_img bz9 (.slice none 0 0) (.slice none 0 0))
            have HK := Lib.hid (kW9.trans (keep2_img _ w.heap.size (.slice none 0 0) (.slice none 0 0)) (fun k e hl => by omega))
            clear bz9 kW9
            go_wp2
            refine bodyPost_ret (ret_imgE (v := nilW) rfl rfl HP.out rfl) rfl ?_
            rw [HD.out]
            exact ⟨nilW, [], [], rfl, nil_own _ _, rfl, HK.out⟩

theorem rdecodeI_any
    (A : Option Addr) (l : List UInt8) (c : Nat) (w : World) (hr : V.Rd w A l) (hc : l.length ≤ c) (hA : ∀ ad, A = some ad → ad.block < w.heap.size) (hlen : l.length ≤ 1073741824) :
    Calls Tryz.prog 16 #[.slice A l.length c] w (DecR w (decI l).1 (decI l).2) := by
  by_cases h5 : l.take 5 = magicL
  · by_cases h9 : 9 ≤ l.length
    · exact rdec_any9 A l c w hr hc hA hlen h5 h9
    · exact rdec_82 A l c w hr hc hA hlen h5 (by omega)
  · exact rdec_81 A l c w hr hc hA hlen h5

end Go.Proofs.YtgifflfjhockaaaGreatDoor.I
