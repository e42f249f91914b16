/-
  ShapeSignatures' walk: whether a signature may be, its bytes and text, the signature of any bytes, and of any text, or the error, and whether two have the same types, are the document's; what is answered is new memory; all stay. Conditions: the letters stand; lists and bytes lie in memory.
-/
import Derived.Test.YtieejecodfeodaaDoorQ11
import Derived.Test.YtieejecodfeodaaDoorQ10
namespace Go.Proofs.YtieejecodfeodaaDoor.S
open Go.RowKit W

theorem own_put {w : World} {O : Nat → Prop} {g n k c : Nat} {l : List UInt8} {V1 : Int} (h : V.OwnB w O (.slice (some ⟨g, 0, none⟩) n c) l) (hn : l.length = n) (hk : k < n) (hV : V1 = ((l[k].toNat : Int) + 1) % 256) :
    ∃ l' : List UInt8, l'.length = n ∧ V.OwnB (w.setCell ⟨g, k, none⟩ (.int .u8 V1)) O (.slice (some ⟨g, 0, none⟩) n c) l' := by
  subst hn
  have hb : (Value.int .u8 V1) = V.bv (l[k] + 1) := by
    subst hV; simp [V.bv, UInt8.toNat_add]
  refine ⟨l.set k (l[k] + 1), by simp, ⟨?_, h.2⟩⟩
  have h1 := (h.1.stored k (V.bv (l[k] + 1))).1
  rw [V.bvs_set, ← hb] at h1
  simpa using h1
theorem own_head {w : World} {O : Nat → Prop} {A : Option Addr} {n c : Nat} {l : List UInt8} (h : V.OwnB w O (.slice A n c) l) (hn : l.length = n) (h0 : 0 < n) : ∃ g, A = some ⟨g, 0, none⟩ := by
  rcases h.1.2 with ⟨e, e'⟩ | ⟨g, cap, cur, e, _⟩
  · omega
  · cases e; exact ⟨g, rfl⟩
theorem own_cell {w : World} {O : Nat → Prop} {g n k c : Nat} {l : List UInt8} (h : V.OwnB w O (.slice (some ⟨g, 0, none⟩) n c) l) (hk : k < l.length) : w.cell? ⟨g, k, none⟩ = some (.int .u8 (l[k].toNat : Int)) := by
  have := h.1.cells (g := g) rfl k (V.bv l[k]) (by simp [V.bvs, hk])
  rw [show (⟨g, 0, none⟩ : Addr).add k = ⟨g, k, none⟩ by unfold Addr.add; split <;> simp_all] at this
  exact this
theorem own_frozen {w : World} {O : Nat → Prop} {g n c : Nat} {l : List UInt8} (h : V.OwnB w O (.slice (some ⟨g, 0, none⟩) n c) l) (hn : l.length = n) (k : Nat) : w.frozen? ⟨g, k, none⟩ = false := by
  subst hn; exact h.1.frozenAt k
theorem keep_own {W : World} {n c g k : Nat} {l : List UInt8} {wb : World} (hk : Keep NoB wb W) (h : V.OwnB W (Fresh wb) (.slice (some ⟨g, 0, none⟩) n c) l) (u : Value) : Keep NoB wb (W.setCell ⟨g, k, none⟩ u) :=
  hk.setCell (fun hl => absurd (h.2 g rfl) (by unfold Fresh; simp at hl; omega)) u
theorem decG_lens {l : List UInt8} {p : Nat} : (optA (decG l p)).length ≤ 64 ∧ (optB (decG l p)).length ≤ 64 := by
  cases h : decG l p with
  | none => exact ⟨Nat.zero_le _, Nat.zero_le _⟩
  | some x =>
    have := ((okG_iff x.1.1 x.1.2).1 (decG_ok (a := x.1.1) (r := x.1.2) (q := x.2) h).1).1
    exact ⟨by show x.1.1.length ≤ 64; omega, by show x.1.2.length ≤ 64; omega⟩
theorem rdG_lens {s : List UInt8} : (spA (rdG s)).length ≤ 64 ∧ (spB (rdG s)).length ≤ 64 := by
  cases h : rdG s with
  | none => exact ⟨Nat.zero_le _, Nat.zero_le _⟩
  | some x =>
    have := ((okG_iff x.1 x.2).1 (sh_rdG (a := x.1) (r := x.2) h).1).1
    exact ⟨by show x.1.length ≤ 64; omega, by show x.2.length ≤ 64; omega⟩
theorem encG_len (a r : List Int) : (encG a r).length ≤ 60 := by
  unfold encG
  split
  · rename_i h
    exact bytesG_len h
  · simp

set_option maxRecDepth 100000 in
set_option maxHeartbeats 1000000 in
theorem sigs_big (A : Option Addr) (na ca : Nat) (A0 : Option Addr) (nb cb : Nat) (C : Option Addr) (nc cc : Nat) (C0 : Option Addr) (nd cd : Nat) (B : Option Addr) (m d : Nat) (S : ByteArray) (w : World) (h : ¬ ((na ≤ 100 ∧ nb ≤ 100) ∧ (nc ≤ 100 ∧ nd ≤ 100) ∧ m ≤ 100 ∧ S.size ≤ 200)) :
    Calls Tryd.prog 4 #[.agg #[.slice A na ca, .slice A0 nb cb], .agg #[.slice C nc cc, .slice C0 nd cd], .slice B m d, .string S] w fun e w' => e = .returned (.bool true) ∧ Keep NoB w w' := by
  have bx := (Blk.new w 26 #[.slice A na ca, .slice A0 nb cb]).alloc (.cells #[.slice C nc cc, .slice C0 nd cd] 26)
  have bo := Blk.new (w.alloc (.cells #[.slice A na ca, .slice A0 nb cb] 26)) 26 #[.slice C nc cc, .slice C0 nd cd]
  rw [World.size_alloc] at bo
  have gK := ((Keep.refl NoB w).alloc (.cells #[.slice A na ca, .slice A0 nb cb] 26)).alloc (.cells #[.slice C nc cc, .slice C0 nd cd] 26)
  by_cases hg : na ≤ 100 ∧ nb ≤ 100
  · have HG1 := Lib.hid (fun w => great_no none A A0 0 0 na ca nb cb w (by decide) hg.1 hg.2)
    by_cases hg2 : nc ≤ 100 ∧ nd ≤ 100
    · have HG2 := Lib.hid (fun w => great_no none C C0 0 0 nc cc nd cd w (by decide) hg2.1 hg2.2)
      by_cases h2 : m ≤ 100
      · have hq2 : decide ((100 : Int) < (m : Int)) = false := by rw [decide_eq_false_iff_not]; omega
        have hq3 : decide ((200 : Int) < (S.size : Int)) = true := by rw [decide_eq_true_iff]; omega
        clear h hg h2 hg2
        go_enter Tryd.func4, Tryd.ntmps4
        obtain ⟨x0, x1⟩ := blk2 bx
        obtain ⟨y0, y1⟩ := blk2 bo
        go_wp2_with fail
        refine (HG1.out _).mono ?_
        rintro e wg1 ⟨rfl, k1⟩
        replace bx := bx.keep k1 id
        replace bo := bo.keep k1 id
        replace gK := keepN gK k1
        clear x0 x1 y0 y1 k1
        obtain ⟨x0, x1⟩ := blk2 bx
        obtain ⟨y0, y1⟩ := blk2 bo
        go_wp2_with fail
        refine (HG2.out _).mono ?_
        rintro e wg2 ⟨rfl, k1⟩
        replace bx := bx.keep k1 id
        replace bo := bo.keep k1 id
        replace gK := keepN gK k1
        clear x0 x1 y0 y1 k1
        go_wp2
        go_ret
        exact ⟨rfl, gK⟩
      · have hq2 : decide ((100 : Int) < (m : Int)) = true := by rw [decide_eq_true_iff]; omega
        clear h hg h2 hg2
        go_enter Tryd.func4, Tryd.ntmps4
        obtain ⟨x0, x1⟩ := blk2 bx
        obtain ⟨y0, y1⟩ := blk2 bo
        go_wp2_with fail
        refine (HG1.out _).mono ?_
        rintro e wg1 ⟨rfl, k1⟩
        replace bx := bx.keep k1 id
        replace bo := bo.keep k1 id
        replace gK := keepN gK k1
        clear x0 x1 y0 y1 k1
        obtain ⟨x0, x1⟩ := blk2 bx
        obtain ⟨y0, y1⟩ := blk2 bo
        go_wp2_with fail
        refine (HG2.out _).mono ?_
        rintro e wg2 ⟨rfl, k1⟩
        replace bx := bx.keep k1 id
        replace bo := bo.keep k1 id
        replace gK := keepN gK k1
        clear x0 x1 y0 y1 k1
        go_wp2
        go_ret
        exact ⟨rfl, gK⟩
    · have HG2 := Lib.hid (fun w => great_yes none C C0 0 0 nc cc nd cd w (by omega))
      clear h hg hg2
      go_enter Tryd.func4, Tryd.ntmps4
      obtain ⟨x0, x1⟩ := blk2 bx
      obtain ⟨y0, y1⟩ := blk2 bo
      go_wp2_with fail
      refine (HG1.out _).mono ?_
      rintro e wg1 ⟨rfl, k1⟩
      replace bx := bx.keep k1 id
      replace bo := bo.keep k1 id
      replace gK := keepN gK k1
      clear x0 x1 y0 y1 k1
      obtain ⟨x0, x1⟩ := blk2 bx
      obtain ⟨y0, y1⟩ := blk2 bo
      go_wp2_with fail
      refine (HG2.out _).mono ?_
      rintro e wg2 ⟨rfl, k1⟩
      replace bx := bx.keep k1 id
      replace bo := bo.keep k1 id
      replace gK := keepN gK k1
      clear x0 x1 y0 y1 k1
      go_wp2
      go_ret
      exact ⟨rfl, gK⟩
  · have HG1 := Lib.hid (fun w => great_yes none A A0 0 0 na ca nb cb w (by omega))
    clear h hg
    go_enter Tryd.func4, Tryd.ntmps4
    obtain ⟨x0, x1⟩ := blk2 bx
    obtain ⟨y0, y1⟩ := blk2 bo
    go_wp2_with fail
    refine (HG1.out _).mono ?_
    rintro e wg1 ⟨rfl, k1⟩
    replace bx := bx.keep k1 id
    replace bo := bo.keep k1 id
    replace gK := keepN gK k1
    clear x0 x1 y0 y1 k1
    go_wp2
    go_ret
    exact ⟨rfl, gK⟩

set_option maxRecDepth 100000 in
set_option maxHeartbeats 8000000 in
theorem sigs_y (A : Option Addr) (a : List Int) (na ca : Nat) (A0 : Option Addr) (r : List Int) (nb cb : Nat) (C : Option Addr) (oa : List Int) (nc cc : Nat) (C0 : Option Addr) (orr : List Int) (nd cd : Nat) (B : Option Addr) (b : List UInt8) (d : Nat) (S : ByteArray) (s : List UInt8) (w : World) (hL : Hid (LetAt w)) (ha : Hid (Rd w A (ivs a))) (hr : Hid (Rd w A0 (ivs r))) (hoa : Hid (Rd w C (ivs oa))) (hor : Hid (Rd w C0 (ivs orr)))
    (hna : Hid (a.length = na)) (hnb : Hid (r.length = nb)) (hnc : Hid (oa.length = nc)) (hnd : Hid (orr.length = nd)) (hb : Hid (V.Rd w B b)) (hs : Hid (S.data.toList = s)) (h1 : na ≤ 100 ∧ nb ≤ 100) (h1b : nc ≤ 100 ∧ nd ≤ 100) (h2 : b.length ≤ 100) (h3 : S.size ≤ 200) (xa xr : List Int) (Q : Nat) (hd : decG b 0 = some ((xa, xr), Q)) :
    Calls Tryd.prog 4 #[.agg #[.slice A na ca, .slice A0 nb cb], .agg #[.slice C nc cc, .slice C0 nd cd], .slice B b.length d, .string S] w fun e w' => e = .returned (.bool true) ∧ Keep NoB w w' := by
  have bx := (Blk.new w 26 #[.slice A na ca, .slice A0 nb cb]).alloc (.cells #[.slice C nc cc, .slice C0 nd cd] 26)
  have bo := Blk.new (w.alloc (.cells #[.slice A na ca, .slice A0 nb cb] 26)) 26 #[.slice C nc cc, .slice C0 nd cd]
  rw [World.size_alloc] at bo
  have gK := ((Keep.refl NoB w).alloc (.cells #[.slice A na ca, .slice A0 nb cb] 26)).alloc (.cells #[.slice C nc cc, .slice C0 nd cd] 26)
  have HL : Hid (b.length ≤ 140737488355328) := by show _ ≤ _; omega
  have HG1 := Lib.hid (fun w => great_no none A A0 0 0 na ca nb cb w (by decide) h1.1 h1.2)
  have HG2 := Lib.hid (fun w => great_no none C C0 0 0 nc cc nd cd w (by decide) h1b.1 h1b.2)
  have hq2 : decide ((100 : Int) < (b.length : Int)) = false := by rw [decide_eq_false_iff_not]; omega
  have hq3 : decide ((200 : Int) < (S.size : Int)) = false := by rw [decide_eq_false_iff_not]; omega
  have HCP := Lib.hid (fun w ha hr => copy_any A a na ca A0 r nb cb w ha hr hna hnb h1.1 h1.2)
  have HX := Lib.hid (fun A ca A0 cb w ha hr => encodeG_any A a na ca A0 r nb cb w ha hr hna hnb (by omega) (by omega))
  have HY := Lib.hid (fun w ha hr => rencodeG_any A a na ca A0 r nb cb w ha hr hna hnb (by omega) (by omega))
  have HD1 := Lib.hid (fun w br O hO h => decodeG_any w br O b 0 hO h HL.out)
  have HD2 := Lib.hid (fun w br O hO h => rdecodeG_any w br O b 0 hO h HL.out)
  have HR1 := Lib.hid (fun w hL => readG_any S s w hL hs (by omega))
  have HR2 := Lib.hid (fun w => rreadG_any S s w hs (by omega))
  have HC1 := Lib.hid (fun A ca A0 cb w ha hr => chkG_any A a na ca A0 r nb cb w ha hr hna hnb (by omega) (by omega) _ rfl)
  have HC2 := Lib.hid (fun w ha hr => rchkG_any A a na ca A0 r nb cb w ha hr hna hnb (by omega) (by omega) _ rfl)
  have HS1 := Lib.hid (fun A ca A0 cb w hL ha hr => showG_any A a na ca A0 r nb cb w hL ha hr hna hnb (by omega) (by omega))
  have HS2 := Lib.hid (fun w ha hr => rshowG_any A a na ca A0 r nb cb w ha hr hna hnb (by omega) (by omega))
  obtain ⟨sb, hsb⟩ : ∃ sb, decide (a = oa ∧ r = orr) = sb := ⟨_, rfl⟩
  have HM1 := Lib.hid (fun A1 c1 A2 c2 w h1 h2 h3 h4 => same_any A1 a na c1 A2 r nb c2 C oa nc cc C0 orr nd cd w h1 h2 h3 h4 hna hnb hnc hnd (by omega) (by omega) (by omega) (by omega) sb (show sb = _ from hsb.symm))
  have HM2 := Lib.hid (fun w h1 h2 h3 h4 => rsame_any A a na ca A0 r nb cb C oa nc cc C0 orr nd cd w h1 h2 h3 h4 hna hnb hnc hnd (by omega) (by omega) (by omega) (by omega) sb (show sb = _ from hsb.symm))
  have HM3 := Lib.hid (fun A1 c1 A2 c2 w h1 h2 h3 h4 => rsame_any A1 a na c1 A2 r nb c2 A a na ca A0 r nb cb w h1 h2 h3 h4 hna hnb hna hnb (by omega) (by omega) (by omega) (by omega) true (by show true = _; simp))
  rw [hd] at HD1 HD2
  have hxl := decG_lens (l := b) (p := 0)
  rw [hd] at hxl
  dsimp only [optA, optB] at hxl
  obtain ⟨mx, hmx⟩ : ∃ mx, xa.length = mx := ⟨_, rfl⟩
  obtain ⟨my, hmy⟩ : ∃ my, xr.length = my := ⟨_, rfl⟩
  rw [hmx, hmy] at hxl
  have HM := Lib.hid hmx
  have HN := Lib.hid hmy
  have HLX := Lib.hid (fun A1 c1 A2 c2 A3 c3 A4 c4 w h1 h2 h3 h4 => rsame_any A1 xa mx c1 A2 xr my c2 A3 xa mx c3 A4 xr my c4 w h1 h2 h3 h4 hmx hmy hmx hmy (by omega) (by omega) (by omega) (by omega) true (by show true = _; simp))
  have htl := rdG_lens (s := s)
  obtain ⟨ta, hta⟩ : ∃ ta, spA (rdG s) = ta := ⟨_, rfl⟩
  obtain ⟨tr, htr⟩ : ∃ tr, spB (rdG s) = tr := ⟨_, rfl⟩
  obtain ⟨te, hte⟩ : ∃ te, spE (rdG s) = te := ⟨_, rfl⟩
  unfold SgT at HR1 HR2
  rw [hta, htr, hte] at HR1 HR2
  rw [hta, htr] at htl
  obtain ⟨mt, hmt⟩ : ∃ mt, ta.length = mt := ⟨_, rfl⟩
  obtain ⟨mu, hmu⟩ : ∃ mu, tr.length = mu := ⟨_, rfl⟩
  rw [hmt, hmu] at htl HR1 HR2
  have HLT := Lib.hid (fun A1 c1 A2 c2 A3 c3 A4 c4 w h1 h2 h3 h4 => rsame_any A1 ta mt c1 A2 tr mu c2 A3 ta mt c3 A4 tr mu c4 w h1 h2 h3 h4 hmt hmu hmt hmu (by omega) (by omega) (by omega) (by omega) true (by show true = _; simp))
  have hXl := encG_len a r
  obtain ⟨X, hX⟩ : ∃ X, encG a r = X := ⟨_, rfl⟩
  obtain ⟨E, hE⟩ : ∃ E, chkG a r = E := ⟨_, rfl⟩
  rw [hX, hE] at HX HY
  rw [hX] at hXl
  rw [hE] at HC1 HC2
  obtain ⟨TS, hTS⟩ : ∃ TS, W.str (shG a r) = TS := ⟨_, rfl⟩
  rw [hTS] at HS1 HS2
  obtain ⟨SX, hSX⟩ : ∃ SX, V.str X = SX := ⟨_, rfl⟩
  obtain ⟨D, hD⟩ : ∃ D, V.str b = D := ⟨_, rfl⟩
  have hS0 := Lib.hid hSX
  have hD0 := Lib.hid hD
  have qS := list_self SX
  have qD := list_self D
  have qT := list_self TS
  have HLB : Hid (b.length ≤ 100) := h2
  clear hd hmx hmy hmt hmu hX hE hTS hSX hD hta htr hte h2 h3 hsb
  go_enter Tryd.func4, Tryd.ntmps4
  obtain ⟨x0, x1⟩ := blk2 bx
  obtain ⟨y0, y1⟩ := blk2 bo
  go_wp2_with fail
  refine (HG1.out _).mono ?_
  rintro e wg1 ⟨rfl, k1⟩
  replace bx := bx.keep k1 id
  replace bo := bo.keep k1 id
  replace gK := keepN gK k1
  clear x0 x1 y0 y1 k1
  obtain ⟨x0, x1⟩ := blk2 bx
  obtain ⟨y0, y1⟩ := blk2 bo
  go_wp2_with fail
  refine (HG2.out _).mono ?_
  rintro e wg2 ⟨rfl, k1⟩
  replace bx := bx.keep k1 id
  replace bo := bo.keep k1 id
  replace gK := keepN gK k1
  clear x0 x1 y0 y1 k1
  obtain ⟨x0, x1⟩ := blk2 bx
  go_wp2_with fail
  refine (HCP.out _ (ha.out.keepN gK) (hr.out.keepN gK)).mono ?_
  rintro e w1 ⟨vp, vq, rfl, hOp, hOq, k1⟩
  obtain ⟨Ap, cp, rfl, rp⟩ := own_rdI hOp
  obtain ⟨Aq, cq, rfl, rq⟩ := own_rdI hOq
  replace gK := keepN gK k1
  replace bx := bx.keep k1 id
  replace bo := bo.keep k1 id
  clear k1 hOp hOq x0 x1
  go_wp2_with fail
  refine (V.twin_any _ B b d (rd_n hb.out gK) HL.out).mono ?_
  rintro e w2 ⟨vo, rfl, ho, k1⟩
  obtain ⟨Ao, co, rfl, ro, _⟩ := own_rd ho
  replace gK := keepN gK k1
  replace bx := bx.keep k1 id
  replace bo := bo.keep k1 id
  replace rp := rp.keepN k1
  replace rq := rq.keepN k1
  clear ho k1
  have blp := Blk.new w2 26 #[.slice Ap na cp, .slice Aq nb cq]
  have kA := (Keep.refl NoB w2).alloc (.cells #[.slice Ap na cp, .slice Aq nb cq] 26)
  replace gK := keepN gK kA
  replace bx := bx.keep kA id
  replace bo := bo.keep kA id
  replace rp := rp.keepN kA
  replace rq := rq.keepN kA
  replace ro := rd_n ro kA
  clear kA
  have K3 := Keep.refl NoB (w2.alloc (.cells #[.slice Ap na cp, .slice Aq nb cq] 26))
  have HB3 := Lib.hid (And.intro bx (And.intro bo (And.intro blp (And.intro rp (And.intro rq (And.intro ro gK))))))
  have gW := gK.size
  obtain ⟨x0, x1⟩ := blk2 blp
  go_wp2_with fail
  refine (HX.out _ _ _ _ _ rp rq).mono ?_
  rintro e w3 ⟨vu, rfl, hu, k1⟩
  obtain ⟨Au, cu, rfl, ru, _⟩ := own_rd hu
  replace gK := keepN gK k1
  replace bx := bx.keep k1 id
  replace bo := bo.keep k1 id
  replace rp := rp.keepN k1
  replace rq := rq.keepN k1
  replace ro := rd_n ro k1
  replace blp := blp.keep k1 id
  replace K3 := keepN K3 k1
  clear k1 x0 x1
  obtain ⟨x0, x1⟩ := blk2 bx
  go_wp2_with fail
  refine (HY.out _ (ha.out.keepN gK) (hr.out.keepN gK)).mono ?_
  rintro e w4 ⟨vv, rfl, hv, k1⟩
  obtain ⟨Av, cv, rfl, rv, _⟩ := own_rd hv
  replace gK := keepN gK k1
  replace bx := bx.keep k1 id
  replace bo := bo.keep k1 id
  replace rp := rp.keepN k1
  replace rq := rq.keepN k1
  replace ro := rd_n ro k1
  replace blp := blp.keep k1 id
  replace ru := rd_n ru k1
  replace hu := hu.keep k1 (fun _ _ => id)
  replace K3 := keepN K3 k1
  clear k1 hv x0 x1
  have hrb := rd_n hb.out gK
  go_wp2_with fail
  refine (V.on_any _ Ao b co ro HL.out).mono ?_
  rintro e w5 ⟨br, rfl, hR, g4⟩
  have s4 := g4.size
  have hbr : w4.heap.size ≤ br := hR.1
  have hR := reel_new hR
  have hbr2 : br < w5.heap.size := reel_lt hR
  go_wp2_with fail
  refine (V.twin_any _ B b d (rd_n hrb g4) HL.out).mono ?_
  rintro e w6 ⟨vb, rfl, hbb, k1⟩
  obtain ⟨Ab, cb2, rfl, hcb, rb, hAb, hmb⟩ := hbb.form
  have bb : ∀ ad, Ab = some ad → ad.block < w6.heap.size := fun ad e => (hbb.1.lt ad.block (by rw [e]; rfl)).2
  have s5 := k1.size
  replace k1 := k1.alloc (.cells #[.slice Ab b.length cb2, .int .i64 0] 37)
  replace g4 := keepN g4 k1
  replace hR := hR.keep k1 (fun _ _ => id)
  have hS : V.RefAt (w6.alloc (.cells #[.slice Ab b.length cb2, .int .i64 0] 37)) w6.heap.size (fun k => w5.heap.size ≤ k ∧ k < (w6.alloc (.cells #[.slice Ab b.length cb2, .int .i64 0] 37)).heap.size) b 0 :=
    ⟨⟨s5, by simp⟩, Nat.zero_le _, Ab, cb2, Blk.new _ _ _, rd_n rb ((Keep.refl NoB w6).alloc _), hcb, hmb, fun ad e => ⟨⟨(hAb ad e).1, by have := bb ad e; simp; omega⟩, by have := bb ad e; simp; omega⟩⟩
  clear k1 hbb rb hAb hcb hmb bb
  have s6 : (w6.alloc (.cells #[.slice Ab b.length cb2, .int .i64 0] 37)).heap.size = w6.heap.size + 1 := by simp
  go_wp2_with fail
  refine (HD1.out _ br _ (fun k hk => by omega) hR).mono ?_
  rintro e w7 ⟨vx, vx2, qx, rfl, hOx, hOx2, hR, hQx, k1⟩
  obtain rfl : qx = Q := hQx _ rfl
  dsimp only [optA, optB, optF] at hOx hOx2 ⊢
  rw [HM.out] at hOx
  rw [HN.out] at hOx2
  have s7 := k1.size
  obtain ⟨Ax, cx, rfl, _⟩ := own_rdI hOx
  obtain ⟨Ax2, cx2, rfl, _⟩ := own_rdI hOx2
  replace hS := hS.keep k1 (fun k ho e => by omega)
  replace g4 := keep_br g4 k1 hbr
  have blx := Blk.new w7 26 #[.slice Ax mx cx, .slice Ax2 my cx2]
  have kA := (Keep.refl NoB w7).alloc (.cells #[.slice Ax mx cx, .slice Ax2 my cx2] 26)
  replace hS := hS.keep kA (fun _ _ => id)
  replace hR := hR.keep kA (fun _ _ => id)
  replace hOx := hOx.keepN kA
  replace hOx2 := hOx2.keepN kA
  replace g4 := keepN g4 kA
  have s8 : (w7.alloc (.cells #[.slice Ax mx cx, .slice Ax2 my cx2] 26)).heap.size = w7.heap.size + 1 := by simp
  clear k1 hQx kA
  go_wp2_with fail
  refine (HD2.out _ w6.heap.size _ (fun k hk => by omega) hS).mono ?_
  rintro e w8 ⟨vy, vy2, qy, rfl, hOy, hOy2, hS, hQy, k1⟩
  obtain rfl : qy = qx := hQy _ rfl
  dsimp only [optA, optB, optF] at hOy hOy2 ⊢
  rw [HM.out] at hOy
  rw [HN.out] at hOy2
  replace hOx := hOx.keep k1 (fun k ho e => by unfold Fresh at ho; omega)
  replace hOx2 := hOx2.keep k1 (fun k ho e => by unfold Fresh at ho; omega)
  have rx : Rd w8 Ax (ivs xa) := by
    obtain ⟨A', c', e, hr⟩ := own_rdI hOx
    cases e; exact hr
  have rx2 : Rd w8 Ax2 (ivs xr) := by
    obtain ⟨A', c', e, hr⟩ := own_rdI hOx2
    cases e; exact hr
  obtain ⟨Ay, cy, rfl, ry⟩ := own_rdI hOy
  obtain ⟨Ay2, cy2, rfl, ry2⟩ := own_rdI hOy2
  replace blx := blx.keep k1 (fun e => by omega)
  replace hR := hR.keep k1 (fun k ho e => by omega)
  replace g4 := keep_br g4 k1 (by omega)
  clear k1 hOx hOx2 hOy hOy2 hQy
  replace rp := rp.keepN g4
  replace rq := rq.keepN g4
  replace ro := rd_n ro g4
  replace ru := rd_n ru g4
  replace rv := rd_n rv g4
  replace hrb := rd_n hrb g4
  replace hu := hu.keep g4 (fun _ _ => id)
  replace bx := bx.keep g4 id
  replace bo := bo.keep g4 id
  replace blp := blp.keep g4 id
  replace K3 := keepN K3 g4
  replace gK := keepN gK g4
  clear g4
  have bly := Blk.new w8 26 #[.slice Ay mx cy, .slice Ay2 my cy2]
  have kA := (Keep.refl NoB w8).alloc (.cells #[.slice Ay mx cy, .slice Ay2 my cy2] 26)
  replace gK := keepN gK kA
  replace bx := bx.keep kA id
  replace bo := bo.keep kA id
  replace blp := blp.keep kA id
  replace rp := rp.keepN kA
  replace rq := rq.keepN kA
  replace ro := rd_n ro kA
  replace ru := rd_n ru kA
  replace rv := rd_n rv kA
  replace hrb := rd_n hrb kA
  replace hu := hu.keep kA (fun _ _ => id)
  replace K3 := keepN K3 kA
  replace hR := hR.keep kA (fun _ _ => id)
  replace hS := hS.keep kA (fun _ _ => id)
  replace rx := rx.keepN kA
  replace rx2 := rx2.keepN kA
  replace blx := blx.keep kA id
  replace ry := ry.keepN kA
  replace ry2 := ry2.keepN kA
  clear kA
  go_wp2_with fail
  refine (HR1.out _ (hL.out.keep gK)).mono ?_
  rintro e w11 ⟨vt, vt2, rfl, hOt, hOt2, k1⟩
  obtain ⟨At, ct, rfl, rt⟩ := own_rdI hOt
  obtain ⟨At2, ct2, rfl, rt2⟩ := own_rdI hOt2
  replace gK := keepN gK k1
  replace bx := bx.keep k1 id
  replace bo := bo.keep k1 id
  replace blp := blp.keep k1 id
  replace rp := rp.keepN k1
  replace rq := rq.keepN k1
  replace ro := rd_n ro k1
  replace ru := rd_n ru k1
  replace rv := rd_n rv k1
  replace hrb := rd_n hrb k1
  replace hu := hu.keep k1 (fun _ _ => id)
  replace K3 := keepN K3 k1
  replace hR := hR.keep k1 (fun _ _ => id)
  replace hS := hS.keep k1 (fun _ _ => id)
  replace rx := rx.keepN k1
  replace rx2 := rx2.keepN k1
  replace blx := blx.keep k1 id
  replace ry := ry.keepN k1
  replace ry2 := ry2.keepN k1
  replace bly := bly.keep k1 id
  clear k1 hOt hOt2
  have blt := Blk.new w11 26 #[.slice At mt ct, .slice At2 mu ct2]
  have kA := (Keep.refl NoB w11).alloc (.cells #[.slice At mt ct, .slice At2 mu ct2] 26)
  replace gK := keepN gK kA
  replace bx := bx.keep kA id
  replace bo := bo.keep kA id
  replace blp := blp.keep kA id
  replace rp := rp.keepN kA
  replace rq := rq.keepN kA
  replace ro := rd_n ro kA
  replace ru := rd_n ru kA
  replace rv := rd_n rv kA
  replace hrb := rd_n hrb kA
  replace hu := hu.keep kA (fun _ _ => id)
  replace K3 := keepN K3 kA
  replace hR := hR.keep kA (fun _ _ => id)
  replace hS := hS.keep kA (fun _ _ => id)
  replace rx := rx.keepN kA
  replace rx2 := rx2.keepN kA
  replace blx := blx.keep kA id
  replace ry := ry.keepN kA
  replace ry2 := ry2.keepN kA
  replace bly := bly.keep kA id
  replace rt := rt.keepN kA
  replace rt2 := rt2.keepN kA
  clear kA
  go_wp2_with fail
  refine (HR2.out _).mono ?_
  rintro e w12 ⟨vw, vw2, rfl, hOw, hOw2, k1⟩
  obtain ⟨Aw, cw, rfl, rw1⟩ := own_rdI hOw
  obtain ⟨Aw2, cw2, rfl, rw2⟩ := own_rdI hOw2
  replace gK := keepN gK k1
  replace bx := bx.keep k1 id
  replace bo := bo.keep k1 id
  replace blp := blp.keep k1 id
  replace rp := rp.keepN k1
  replace rq := rq.keepN k1
  replace ro := rd_n ro k1
  replace ru := rd_n ru k1
  replace rv := rd_n rv k1
  replace hrb := rd_n hrb k1
  replace hu := hu.keep k1 (fun _ _ => id)
  replace K3 := keepN K3 k1
  replace hR := hR.keep k1 (fun _ _ => id)
  replace hS := hS.keep k1 (fun _ _ => id)
  replace rx := rx.keepN k1
  replace rx2 := rx2.keepN k1
  replace blx := blx.keep k1 id
  replace ry := ry.keepN k1
  replace ry2 := ry2.keepN k1
  replace bly := bly.keep k1 id
  replace rt := rt.keepN k1
  replace rt2 := rt2.keepN k1
  replace blt := blt.keep k1 id
  clear k1 hOw hOw2
  have blw := Blk.new w12 26 #[.slice Aw mt cw, .slice Aw2 mu cw2]
  have kA := (Keep.refl NoB w12).alloc (.cells #[.slice Aw mt cw, .slice Aw2 mu cw2] 26)
  replace gK := keepN gK kA
  replace bx := bx.keep kA id
  replace bo := bo.keep kA id
  replace blp := blp.keep kA id
  replace rp := rp.keepN kA
  replace rq := rq.keepN kA
  replace ro := rd_n ro kA
  replace ru := rd_n ru kA
  replace rv := rd_n rv kA
  replace hrb := rd_n hrb kA
  replace hu := hu.keep kA (fun _ _ => id)
  replace K3 := keepN K3 kA
  replace hR := hR.keep kA (fun _ _ => id)
  replace hS := hS.keep kA (fun _ _ => id)
  replace rx := rx.keepN kA
  replace rx2 := rx2.keepN kA
  replace blx := blx.keep kA id
  replace ry := ry.keepN kA
  replace ry2 := ry2.keepN kA
  replace bly := bly.keep kA id
  replace rt := rt.keepN kA
  replace rt2 := rt2.keepN kA
  replace blt := blt.keep kA id
  replace rw1 := rw1.keepN kA
  replace rw2 := rw2.keepN kA
  clear kA
  obtain ⟨x0, x1⟩ := blk2 blx
  obtain ⟨y0, y1⟩ := blk2 bly
  obtain ⟨t0, t1⟩ := blk2 blt
  obtain ⟨u0, u1⟩ := blk2 blw
  go_wp2
  have HWW : Hid (w12.alloc (.cells #[.slice Aw mt cw, .slice Aw2 mu cw2] 26) = w12.alloc (.cells #[.slice Aw mt cw, .slice Aw2 mu cw2] 26)) := rfl
  refine wp_region_sh ((0, false) :: (1, false) :: (2, false) :: (3, false) :: (4, false) :: (5, false) :: (6, false) :: (7, false) :: (8, false) :: (9, false) :: (10, false) :: (11, false) :: (12, false) :: (13, false) :: (14, false) :: (15, false) :: (16, false) :: (17, false) :: (18, false) :: (19, false) :: (20, false) :: (21, false) :: (22, false) :: (23, false) :: (24, false) :: (25, false) :: (26, false) :: (27, false) :: (28, false) :: (29, false) :: (30, false) :: (31, false) :: (32, false) :: (33, false) :: (34, false) :: (35, false) :: (36, false) :: (37, false) :: (38, false) :: (39, false) :: (40, false) :: (41, false) :: (42, false) :: (43, false) :: (44, false) :: []) (fun w' => Keep NoB (w12.alloc (.cells #[.slice Aw mt cw, .slice Aw2 mu cw2] 26)) w') (by kernel_rfl) (by kernel_rfl) (by rfl) (by kernel_rfl) (stable_keep _) (Keep.refl NoB _).drew ?_
  refine shM_step rfl rfl rfl (by rfl) (by rfl) ?_
  apply Exists.intro
  refine ⟨fun z K hK => ?_, ?_, ?_⟩
  · go_big_quiet_op
    exact hK _ rfl
  · kernel_rfl
  refine shM_step rfl rfl rfl (by rfl) (by rfl) ?_
  apply Exists.intro
  refine ⟨fun z K hK => ?_, ?_, ?_⟩
  · have cu_ : ∀ y : KW z.w, (convert 23 9 (.slice Au X.length cu)).run Tryd.prog y.w = .ok (.string SX) y.w := fun y => by have := V.conv_rd (c := cu) (rd_n ru (keepN z.has y.keep)); rw [hS0.out] at this; exact this
    go_big_quiet_op
    exact hK _ rfl
  · kernel_rfl
  refine shM_step rfl rfl rfl (by rfl) (by rfl) ?_
  apply Exists.intro
  refine ⟨fun z K hK => ?_, ?_, ?_⟩
  · go_big_quiet_op
    exact hK _ rfl
  · kernel_rfl
  refine shM_step rfl rfl rfl (by rfl) (by rfl) ?_
  apply Exists.intro
  refine ⟨fun z K hK => ?_, ?_, ?_⟩
  · have cv_ : ∀ y : KW z.w, (convert 23 9 (.slice Av X.length cv)).run Tryd.prog y.w = .ok (.string SX) y.w := fun y => by have := V.conv_rd (c := cv) (rd_n rv (keepN z.has y.keep)); rw [hS0.out] at this; exact this
    go_big_quiet_op
    exact hK _ rfl
  · kernel_rfl
  refine shM_step rfl rfl rfl (by rfl) (by rfl) ?_
  apply Exists.intro
  refine ⟨fun z K hK => ?_, ?_, ?_⟩
  · go_big_quiet_op
    exact hK _ rfl
  · kernel_rfl
  refine shM_step rfl rfl rfl (by rfl) (by rfl) ?_
  apply Exists.intro
  refine ⟨fun z K hK => ?_, ?_, ?_⟩
  · go_big_quiet_op
    exact hK _ rfl
  · kernel_rfl
  refine shM_step rfl rfl rfl (by rfl) (by rfl) ?_
  apply Exists.intro
  refine ⟨fun z K hK => ?_, ?_, ?_⟩
  · go_big_quiet_op
    exact hK _ rfl
  · kernel_rfl
  refine shM_step rfl rfl rfl (by rfl) (by rfl) ?_
  apply Exists.intro
  refine ⟨fun z K hK => ?_, ?_, ?_⟩
  · go_big_quiet_op
    exact hK _ rfl
  · kernel_rfl
  refine shM_step rfl rfl rfl (by rfl) (by rfl) ?_
  apply Exists.intro
  refine ⟨fun z K hK => ?_, ?_, ?_⟩
  · go_big_quiet_op
    exact hK _ rfl
  · kernel_rfl
  refine shM_step rfl rfl rfl (by rfl) (by rfl) ?_
  apply Exists.intro
  refine ⟨fun z K hK => ?_, ?_, ?_⟩
  · go_big_quiet_op
    exact hK _ rfl
  · kernel_rfl
  refine shM_step rfl rfl rfl (by rfl) (by rfl) ?_
  apply Exists.intro
  refine ⟨fun z K hK => ?_, ?_, ?_⟩
  · go_big_quiet_op
    exact hK _ rfl
  · kernel_rfl
  refine shM_step rfl rfl rfl (by rfl) (by rfl) ?_
  apply Exists.intro
  refine ⟨fun z K hK => ?_, ?_, ?_⟩
  · have lx0 : ∀ y : KW z.w, y.w.cell? ⟨w7.heap.size, 0, none⟩ = some (.slice Ax mx cx) := fun y => Keep.cell (keepN z.has y.keep) (blk2 blx).1 id
    have lx1 : ∀ y : KW z.w, y.w.cell? ⟨w7.heap.size, 1, none⟩ = some (.slice Ax2 my cx2) := fun y => Keep.cell (keepN z.has y.keep) (blk2 blx).2 id
    go_big_quiet_op
    exact hK _ rfl
  · kernel_rfl
  refine shM_step rfl rfl rfl (by rfl) (by rfl) ?_
  apply Exists.intro
  refine ⟨fun z K hK => ?_, ?_, ?_⟩
  · have ly0 : ∀ y : KW z.w, y.w.cell? ⟨w8.heap.size, 0, none⟩ = some (.slice Ay mx cy) := fun y => Keep.cell (keepN z.has y.keep) (blk2 bly).1 id
    have ly1 : ∀ y : KW z.w, y.w.cell? ⟨w8.heap.size, 1, none⟩ = some (.slice Ay2 my cy2) := fun y => Keep.cell (keepN z.has y.keep) (blk2 bly).2 id
    go_big_quiet_op
    exact hK _ rfl
  · kernel_rfl
  refine shM_step rfl rfl rfl (by rfl) (by rfl) ?_
  apply Exists.intro
  refine ⟨fun z K hK => ?_, ?_, ?_⟩
  · go_big_quiet_op
    apply Exists.intro
    refine ⟨fun y => ?_, ?_⟩
    · go_at_call 33
      exact kept_of (HLX.out _ _ _ _ _ _ _ _ _ (rx.keepN (keepN z.has y.keep)) (rx2.keepN (keepN z.has y.keep)) (ry.keepN (keepN z.has y.keep)) (ry2.keepN (keepN z.has y.keep)))
    · exact hK _ rfl
  · kernel_rfl
  refine shM_step rfl rfl rfl (by rfl) (by rfl) ?_
  apply Exists.intro
  refine ⟨fun z K hK => ?_, ?_, ?_⟩
  · go_big_quiet_op
    exact hK _ rfl
  · kernel_rfl
  refine shM_step rfl rfl rfl (by rfl) (by rfl) ?_
  apply Exists.intro
  refine ⟨fun z K hK => ?_, ?_, ?_⟩
  · go_big_quiet_op
    exact hK _ rfl
  · kernel_rfl
  refine shM_step rfl rfl rfl (by rfl) (by rfl) ?_
  apply Exists.intro
  refine ⟨fun z K hK => ?_, ?_, ?_⟩
  · go_big_quiet_op
    exact hK _ rfl
  · kernel_rfl
  refine shM_step rfl rfl rfl (by rfl) (by rfl) ?_
  apply Exists.intro
  refine ⟨fun z K hK => ?_, ?_, ?_⟩
  · go_big_quiet_op
    exact hK _ rfl
  · kernel_rfl
  refine shM_step rfl rfl rfl (by rfl) (by rfl) ?_
  apply Exists.intro
  refine ⟨fun z K hK => ?_, ?_, ?_⟩
  · go_big_quiet_op
    exact hK _ rfl
  · kernel_rfl
  refine shM_step rfl rfl rfl (by rfl) (by rfl) ?_
  apply Exists.intro
  refine ⟨fun z K hK => ?_, ?_, ?_⟩
  · go_big_quiet_op
    exact hK _ rfl
  · kernel_rfl
  refine shM_step rfl rfl rfl (by rfl) (by rfl) ?_
  apply Exists.intro
  refine ⟨fun z K hK => ?_, ?_, ?_⟩
  · go_big_quiet_op
    exact hK _ rfl
  · kernel_rfl
  refine shM_step rfl rfl rfl (by rfl) (by rfl) ?_
  apply Exists.intro
  refine ⟨fun z K hK => ?_, ?_, ?_⟩
  · go_big_quiet_op
    exact hK _ rfl
  · kernel_rfl
  refine shM_step rfl rfl rfl (by rfl) (by rfl) ?_
  apply Exists.intro
  refine ⟨fun z K hK => ?_, ?_, ?_⟩
  · go_big_quiet_op
    exact hK _ rfl
  · kernel_rfl
  refine shM_step rfl rfl rfl (by rfl) (by rfl) ?_
  apply Exists.intro
  refine ⟨fun z K hK => ?_, ?_, ?_⟩
  · go_big_quiet_op
    exact hK _ rfl
  · kernel_rfl
  refine shM_step rfl rfl rfl (by rfl) (by rfl) ?_
  apply Exists.intro
  refine ⟨fun z K hK => ?_, ?_, ?_⟩
  · go_big_quiet_op
    exact hK _ rfl
  · kernel_rfl
  refine shM_step rfl rfl rfl (by rfl) (by rfl) ?_
  apply Exists.intro
  refine ⟨fun z K hK => ?_, ?_, ?_⟩
  · go_big_quiet_op
    exact hK _ rfl
  · kernel_rfl
  refine shM_step rfl rfl rfl (by rfl) (by rfl) ?_
  apply Exists.intro
  refine ⟨fun z K hK => ?_, ?_, ?_⟩
  · go_big_quiet_op
    apply Exists.intro
    refine ⟨fun y => ?_, ?_⟩
    · go_at_call 21
      exact kept_of (at_gen hR (keepN z.has y.keep))
    · exact hK _ rfl
  · kernel_rfl
  refine shM_step rfl rfl rfl (by rfl) (by rfl) ?_
  apply Exists.intro
  refine ⟨fun z K hK => ?_, ?_, ?_⟩
  · go_big_quiet_op
    exact hK _ rfl
  · kernel_rfl
  refine shM_step rfl rfl rfl (by rfl) (by rfl) ?_
  apply Exists.intro
  refine ⟨fun z K hK => ?_, ?_, ?_⟩
  · go_big_quiet_op
    exact hK _ rfl
  · kernel_rfl
  refine shM_step rfl rfl rfl (by rfl) (by rfl) ?_
  apply Exists.intro
  refine ⟨fun z K hK => ?_, ?_, ?_⟩
  · go_big_quiet_op
    exact hK _ rfl
  · kernel_rfl
  refine shM_step rfl rfl rfl (by rfl) (by rfl) ?_
  apply Exists.intro
  refine ⟨fun z K hK => ?_, ?_, ?_⟩
  · have sp : ∀ y : KW z.w, y.w.cell? ⟨w6.heap.size, 1, none⟩ = some (.int .i64 (qy : Int)) := fun y => ref_place (hS.keep (keepN z.has y.keep) (fun _ _ => id))
    go_big_quiet_op
    exact hK _ rfl
  · kernel_rfl
  refine shM_step rfl rfl rfl (by rfl) (by rfl) ?_
  apply Exists.intro
  refine ⟨fun z K hK => ?_, ?_, ?_⟩
  · go_big_quiet_op
    exact hK _ rfl
  · kernel_rfl
  refine shM_step rfl rfl rfl (by rfl) (by rfl) ?_
  apply Exists.intro
  refine ⟨fun z K hK => ?_, ?_, ?_⟩
  · go_big_quiet_op
    exact hK _ rfl
  · kernel_rfl
  refine shM_step rfl rfl rfl (by rfl) (by rfl) ?_
  apply Exists.intro
  refine ⟨fun z K hK => ?_, ?_, ?_⟩
  · go_big_quiet_op
    exact hK _ rfl
  · kernel_rfl
  refine shM_step rfl rfl rfl (by rfl) (by rfl) ?_
  apply Exists.intro
  refine ⟨fun z K hK => ?_, ?_, ?_⟩
  · go_big_quiet_op
    exact hK _ rfl
  · kernel_rfl
  refine shM_step rfl rfl rfl (by rfl) (by rfl) ?_
  apply Exists.intro
  refine ⟨fun z K hK => ?_, ?_, ?_⟩
  · have lt0 : ∀ y : KW z.w, y.w.cell? ⟨w11.heap.size, 0, none⟩ = some (.slice At mt ct) := fun y => Keep.cell (keepN z.has y.keep) (blk2 blt).1 id
    have lt1 : ∀ y : KW z.w, y.w.cell? ⟨w11.heap.size, 1, none⟩ = some (.slice At2 mu ct2) := fun y => Keep.cell (keepN z.has y.keep) (blk2 blt).2 id
    go_big_quiet_op
    exact hK _ rfl
  · kernel_rfl
  refine shM_step rfl rfl rfl (by rfl) (by rfl) ?_
  apply Exists.intro
  refine ⟨fun z K hK => ?_, ?_, ?_⟩
  · have lw0 : ∀ y : KW z.w, y.w.cell? ⟨w12.heap.size, 0, none⟩ = some (.slice Aw mt cw) := fun y => Keep.cell (keepN z.has y.keep) (blk2 blw).1 id
    have lw1 : ∀ y : KW z.w, y.w.cell? ⟨w12.heap.size, 1, none⟩ = some (.slice Aw2 mu cw2) := fun y => Keep.cell (keepN z.has y.keep) (blk2 blw).2 id
    go_big_quiet_op
    exact hK _ rfl
  · kernel_rfl
  refine shM_step rfl rfl rfl (by rfl) (by rfl) ?_
  apply Exists.intro
  refine ⟨fun z K hK => ?_, ?_, ?_⟩
  · go_big_quiet_op
    apply Exists.intro
    refine ⟨fun y => ?_, ?_⟩
    · go_at_call 33
      exact kept_of (HLT.out _ _ _ _ _ _ _ _ _ (rt.keepN (keepN z.has y.keep)) (rt2.keepN (keepN z.has y.keep)) (rw1.keepN (keepN z.has y.keep)) (rw2.keepN (keepN z.has y.keep)))
    · exact hK _ rfl
  · kernel_rfl
  refine shM_step rfl rfl rfl (by rfl) (by rfl) ?_
  apply Exists.intro
  refine ⟨fun z K hK => ?_, ?_, ?_⟩
  · go_big_quiet_op
    exact hK _ rfl
  · kernel_rfl
  refine shM_step rfl rfl rfl (by rfl) (by rfl) ?_
  apply Exists.intro
  refine ⟨fun z K hK => ?_, ?_, ?_⟩
  · go_big_quiet_op
    exact hK _ rfl
  · kernel_rfl
  refine shM_step rfl rfl rfl (by rfl) (by rfl) ?_
  apply Exists.intro
  refine ⟨fun z K hK => ?_, ?_, ?_⟩
  · go_big_quiet_op
    exact hK _ rfl
  · kernel_rfl
  refine shM_step rfl rfl rfl (by rfl) (by rfl) ?_
  apply Exists.intro
  refine ⟨fun z K hK => ?_, ?_, ?_⟩
  · go_big_quiet_op
    exact hK _ rfl
  · kernel_rfl
  refine shM_step rfl rfl rfl (by rfl) (by rfl) ?_
  apply Exists.intro
  refine ⟨fun z K hK => ?_, ?_, ?_⟩
  · go_big_quiet_op
    exact hK _ rfl
  · kernel_rfl
  refine shM_step rfl rfl rfl (by rfl) (by rfl) ?_
  apply Exists.intro
  refine ⟨fun z K hK => ?_, ?_, ?_⟩
  · go_big_quiet_op
    exact hK _ rfl
  · kernel_rfl
  refine shM_step rfl rfl rfl (by rfl) (by rfl) ?_
  apply Exists.intro
  refine ⟨fun z K hK => ?_, ?_, ?_⟩
  · go_big_quiet_op
    exact hK _ rfl
  · kernel_rfl
  refine shM_nil (fun z => ?_)
  have k1 := z.has
  generalize z.w = w13 at k1 ⊢
  replace gK := keepN gK k1
  replace hu := hu.keep k1 (fun _ _ => id)
  replace K3 := keepN K3 k1
  clear k1 rx rx2 ry ry2 rt rt2 rw1 rw2 ru rv hR hS blx bly blt blw x0 x1 y0 y1 t0 t1 u0 u1 HWW bx bo blp rp rq ro hrb gK gW
  clear HG1 HG2 HCP HX HY HD1 HD2 HR1 HR2 HLX HLT HM HN hS0 qS s4 s5 s6 s7 s8 hbr hbr2
  generalize w2.alloc (.cells #[.slice Ap na cp, .slice Aq nb cq] 26) = wb at hu K3 HB3
  generalize w2.heap.size = g2 at HB3 ⊢
  generalize w6.heap.size = g6
  generalize w7.heap.size = g7
  generalize w8.heap.size = g8
  generalize w11.heap.size = g11
  generalize w12.heap.size = g12
  obtain ⟨nX, hnX⟩ : ∃ nX, X.length = nX := ⟨_, rfl⟩
  rw [hnX] at hu hXl ⊢
  go_wp2
  go_loopw [131] (fun i wr => ∃ k : Nat, k ≤ nX ∧ i = .int .i64 k ∧ (∃ l : List UInt8, l.length = nX ∧ V.OwnB wr (Fresh wb) (.slice Au nX cu) l) ∧ Keep NoB wb wr) (fun i _ => nX - (intOf i).toNat)
  case atStart => exact ⟨0, Nat.zero_le _, rfl, ⟨X, hnX, hu⟩, K3⟩
  case round =>
    clear hu K3
    obtain ⟨k, hk, rfl, ⟨l, hl, hu⟩, hK⟩ := hrel
    by_cases hlt : k < nX
    · obtain ⟨g, rfl⟩ := own_head hu hl (by omega)
      have hkl : k < l.length := by omega
      have c0 := own_cell hu hkl
      have f0 := own_frozen hu hl k
      have HP := Lib.hid (fun V1 hV => own_put (V1 := V1) hu hl hlt hV)
      have HKP := Lib.hid (fun u => keep_own (k := k) hK hu u)
      have hx8 := l[k].toNat_lt
      generalize l[k].toNat = x at c0 HP hx8
      clear hu
      go_wp2
      go_roundw
      case rel => exact ⟨k + 1, by omega, by go_num, HP.out _ (by first | rfl | (simp; done) | go_num), HKP.out _⟩
      case measure => simp [intOf]; first | omega | (rw [show wrap64 ((k : Int) + 1) = (k : Int) + 1 by go_num]; omega)
    · obtain ⟨bx, bo, blp, rp, rq, ro, gK⟩ := HB3.out
      replace gK := keepN gK hK
      replace bx := bx.keep hK id
      replace bo := bo.keep hK id
      replace blp := blp.keep hK id
      replace rp := rp.keepN hK
      replace rq := rq.keepN hK
      replace ro := rd_n ro hK
      clear hu hl HB3
      go_wp2
      have qsb : (sb == sb) = true := by cases sb <;> rfl
      have HWR : Hid (wr = wr) := rfl
      refine wp_region_sh ((0, false) :: (1, false) :: (2, false) :: (3, false) :: (4, false) :: (5, false) :: (6, false) :: (7, false) :: (8, false) :: (9, false) :: (10, false) :: (11, false) :: (12, false) :: (13, false) :: (14, false) :: (15, false) :: (16, false) :: (17, false) :: (18, false) :: (19, false) :: (20, false) :: (21, false) :: (22, false) :: (23, false) :: (24, false) :: (25, false) :: (26, false) :: (27, false) :: (28, false) :: (29, false) :: (30, false) :: (31, false) :: (32, false) :: (33, false) :: []) (fun w' => Keep NoB wr w') (by kernel_rfl) (by kernel_rfl) (by rfl) (by kernel_rfl) (stable_keep _) (Keep.refl NoB _).drew ?_
      refine shM_step rfl rfl rfl (by rfl) (by rfl) ?_
      apply Exists.intro
      refine ⟨fun z K hK => ?_, ?_, ?_⟩
      · have lp0 : ∀ y : KW z.w, y.w.cell? ⟨g2, 0, none⟩ = some (.slice Ap na cp) := fun y => Keep.cell (keepN z.has y.keep) (blk2 blp).1 id
        have lp1 : ∀ y : KW z.w, y.w.cell? ⟨g2, 1, none⟩ = some (.slice Aq nb cq) := fun y => Keep.cell (keepN z.has y.keep) (blk2 blp).2 id
        go_big_quiet_op
        exact hK _ rfl
      · kernel_rfl
      refine shM_step rfl rfl rfl (by rfl) (by rfl) ?_
      apply Exists.intro
      refine ⟨fun z K hK => ?_, ?_, ?_⟩
      · go_big_quiet_op
        apply Exists.intro
        refine ⟨fun y => ?_, ?_⟩
        · go_at_call 34
          exact kept_of (HC1.out _ _ _ _ _ (rp.keepN (keepN z.has y.keep)) (rq.keepN (keepN z.has y.keep)))
        · exact hK _ rfl
      · kernel_rfl
      refine shM_step rfl rfl rfl (by rfl) (by rfl) ?_
      apply Exists.intro
      refine ⟨fun z K hK => ?_, ?_, ?_⟩
      · have lx0 : ∀ y : KW z.w, y.w.cell? ⟨w.heap.size, 0, none⟩ = some (.slice A na ca) := fun y => Keep.cell (keepN z.has y.keep) (blk2 bx).1 id
        have lx1 : ∀ y : KW z.w, y.w.cell? ⟨w.heap.size, 1, none⟩ = some (.slice A0 nb cb) := fun y => Keep.cell (keepN z.has y.keep) (blk2 bx).2 id
        go_big_quiet_op
        exact hK _ rfl
      · kernel_rfl
      refine shM_step rfl rfl rfl (by rfl) (by rfl) ?_
      apply Exists.intro
      refine ⟨fun z K hK => ?_, ?_, ?_⟩
      · go_big_quiet_op
        apply Exists.intro
        refine ⟨fun y => ?_, ?_⟩
        · go_at_call 35
          exact kept_of (HC2.out _ (ha.out.keepN (keepN gK (keepN z.has y.keep))) (hr.out.keepN (keepN gK (keepN z.has y.keep))))
        · exact hK _ rfl
      · kernel_rfl
      refine shM_step rfl rfl rfl (by rfl) (by rfl) ?_
      apply Exists.intro
      refine ⟨fun z K hK => ?_, ?_, ?_⟩
      · go_big_quiet_op
        exact hK _ rfl
      · kernel_rfl
      refine shM_step rfl rfl rfl (by rfl) (by rfl) ?_
      apply Exists.intro
      refine ⟨fun z K hK => ?_, ?_, ?_⟩
      · go_big_quiet_op
        exact hK _ rfl
      · kernel_rfl
      refine shM_step rfl rfl rfl (by rfl) (by rfl) ?_
      apply Exists.intro
      refine ⟨fun z K hK => ?_, ?_, ?_⟩
      · have lp0 : ∀ y : KW z.w, y.w.cell? ⟨g2, 0, none⟩ = some (.slice Ap na cp) := fun y => Keep.cell (keepN z.has y.keep) (blk2 blp).1 id
        have lp1 : ∀ y : KW z.w, y.w.cell? ⟨g2, 1, none⟩ = some (.slice Aq nb cq) := fun y => Keep.cell (keepN z.has y.keep) (blk2 blp).2 id
        go_big_quiet_op
        exact hK _ rfl
      · kernel_rfl
      refine shM_step rfl rfl rfl (by rfl) (by rfl) ?_
      apply Exists.intro
      refine ⟨fun z K hK => ?_, ?_, ?_⟩
      · go_big_quiet_op
        apply Exists.intro
        refine ⟨fun y => ?_, ?_⟩
        · go_at_call 36
          exact kept_of (HS1.out _ _ _ _ _ (hL.out.keep (keepN gK (keepN z.has y.keep))) (rp.keepN (keepN z.has y.keep)) (rq.keepN (keepN z.has y.keep)))
        · exact hK _ rfl
      · kernel_rfl
      refine shM_step rfl rfl rfl (by rfl) (by rfl) ?_
      apply Exists.intro
      refine ⟨fun z K hK => ?_, ?_, ?_⟩
      · have lx0 : ∀ y : KW z.w, y.w.cell? ⟨w.heap.size, 0, none⟩ = some (.slice A na ca) := fun y => Keep.cell (keepN z.has y.keep) (blk2 bx).1 id
        have lx1 : ∀ y : KW z.w, y.w.cell? ⟨w.heap.size, 1, none⟩ = some (.slice A0 nb cb) := fun y => Keep.cell (keepN z.has y.keep) (blk2 bx).2 id
        go_big_quiet_op
        exact hK _ rfl
      · kernel_rfl
      refine shM_step rfl rfl rfl (by rfl) (by rfl) ?_
      apply Exists.intro
      refine ⟨fun z K hK => ?_, ?_, ?_⟩
      · go_big_quiet_op
        apply Exists.intro
        refine ⟨fun y => ?_, ?_⟩
        · go_at_call 37
          exact kept_of (HS2.out _ (ha.out.keepN (keepN gK (keepN z.has y.keep))) (hr.out.keepN (keepN gK (keepN z.has y.keep))))
        · exact hK _ rfl
      · kernel_rfl
      refine shM_step rfl rfl rfl (by rfl) (by rfl) ?_
      apply Exists.intro
      refine ⟨fun z K hK => ?_, ?_, ?_⟩
      · go_big_quiet_op
        exact hK _ rfl
      · kernel_rfl
      refine shM_step rfl rfl rfl (by rfl) (by rfl) ?_
      apply Exists.intro
      refine ⟨fun z K hK => ?_, ?_, ?_⟩
      · go_big_quiet_op
        exact hK _ rfl
      · kernel_rfl
      refine shM_step rfl rfl rfl (by rfl) (by rfl) ?_
      apply Exists.intro
      refine ⟨fun z K hK => ?_, ?_, ?_⟩
      · go_big_quiet_op
        exact hK _ rfl
      · kernel_rfl
      refine shM_step rfl rfl rfl (by rfl) (by rfl) ?_
      apply Exists.intro
      refine ⟨fun z K hK => ?_, ?_, ?_⟩
      · have lp0 : ∀ y : KW z.w, y.w.cell? ⟨g2, 0, none⟩ = some (.slice Ap na cp) := fun y => Keep.cell (keepN z.has y.keep) (blk2 blp).1 id
        have lp1 : ∀ y : KW z.w, y.w.cell? ⟨g2, 1, none⟩ = some (.slice Aq nb cq) := fun y => Keep.cell (keepN z.has y.keep) (blk2 blp).2 id
        go_big_quiet_op
        exact hK _ rfl
      · kernel_rfl
      refine shM_step rfl rfl rfl (by rfl) (by rfl) ?_
      apply Exists.intro
      refine ⟨fun z K hK => ?_, ?_, ?_⟩
      · have lo0 : ∀ y : KW z.w, y.w.cell? ⟨w.heap.size + 1, 0, none⟩ = some (.slice C nc cc) := fun y => Keep.cell (keepN z.has y.keep) (blk2 bo).1 id
        have lo1 : ∀ y : KW z.w, y.w.cell? ⟨w.heap.size + 1, 1, none⟩ = some (.slice C0 nd cd) := fun y => Keep.cell (keepN z.has y.keep) (blk2 bo).2 id
        go_big_quiet_op
        exact hK _ rfl
      · kernel_rfl
      refine shM_step rfl rfl rfl (by rfl) (by rfl) ?_
      apply Exists.intro
      refine ⟨fun z K hK => ?_, ?_, ?_⟩
      · go_big_quiet_op
        apply Exists.intro
        refine ⟨fun y => ?_, ?_⟩
        · go_at_call 38
          exact kept_of (HM1.out _ _ _ _ _ (rp.keepN (keepN z.has y.keep)) (rq.keepN (keepN z.has y.keep)) (hoa.out.keepN (keepN gK (keepN z.has y.keep))) (hor.out.keepN (keepN gK (keepN z.has y.keep))))
        · exact hK _ rfl
      · kernel_rfl
      refine shM_step rfl rfl rfl (by rfl) (by rfl) ?_
      apply Exists.intro
      refine ⟨fun z K hK => ?_, ?_, ?_⟩
      · have lx0 : ∀ y : KW z.w, y.w.cell? ⟨w.heap.size, 0, none⟩ = some (.slice A na ca) := fun y => Keep.cell (keepN z.has y.keep) (blk2 bx).1 id
        have lx1 : ∀ y : KW z.w, y.w.cell? ⟨w.heap.size, 1, none⟩ = some (.slice A0 nb cb) := fun y => Keep.cell (keepN z.has y.keep) (blk2 bx).2 id
        go_big_quiet_op
        exact hK _ rfl
      · kernel_rfl
      refine shM_step rfl rfl rfl (by rfl) (by rfl) ?_
      apply Exists.intro
      refine ⟨fun z K hK => ?_, ?_, ?_⟩
      · have lo0 : ∀ y : KW z.w, y.w.cell? ⟨w.heap.size + 1, 0, none⟩ = some (.slice C nc cc) := fun y => Keep.cell (keepN z.has y.keep) (blk2 bo).1 id
        have lo1 : ∀ y : KW z.w, y.w.cell? ⟨w.heap.size + 1, 1, none⟩ = some (.slice C0 nd cd) := fun y => Keep.cell (keepN z.has y.keep) (blk2 bo).2 id
        go_big_quiet_op
        exact hK _ rfl
      · kernel_rfl
      refine shM_step rfl rfl rfl (by rfl) (by rfl) ?_
      apply Exists.intro
      refine ⟨fun z K hK => ?_, ?_, ?_⟩
      · go_big_quiet_op
        apply Exists.intro
        refine ⟨fun y => ?_, ?_⟩
        · go_at_call 33
          exact kept_of (HM2.out _ (ha.out.keepN (keepN gK (keepN z.has y.keep))) (hr.out.keepN (keepN gK (keepN z.has y.keep))) (hoa.out.keepN (keepN gK (keepN z.has y.keep))) (hor.out.keepN (keepN gK (keepN z.has y.keep))))
        · exact hK _ rfl
      · kernel_rfl
      refine shM_step rfl rfl rfl (by rfl) (by rfl) ?_
      apply Exists.intro
      refine ⟨fun z K hK => ?_, ?_, ?_⟩
      · go_big_quiet_op
        exact hK _ rfl
      · kernel_rfl
      refine shM_step rfl rfl rfl (by rfl) (by rfl) ?_
      apply Exists.intro
      refine ⟨fun z K hK => ?_, ?_, ?_⟩
      · go_big_quiet_op
        exact hK _ rfl
      · kernel_rfl
      refine shM_step rfl rfl rfl (by rfl) (by rfl) ?_
      apply Exists.intro
      refine ⟨fun z K hK => ?_, ?_, ?_⟩
      · go_big_quiet_op
        exact hK _ rfl
      · kernel_rfl
      refine shM_step rfl rfl rfl (by rfl) (by rfl) ?_
      apply Exists.intro
      refine ⟨fun z K hK => ?_, ?_, ?_⟩
      · have lp0 : ∀ y : KW z.w, y.w.cell? ⟨g2, 0, none⟩ = some (.slice Ap na cp) := fun y => Keep.cell (keepN z.has y.keep) (blk2 blp).1 id
        have lp1 : ∀ y : KW z.w, y.w.cell? ⟨g2, 1, none⟩ = some (.slice Aq nb cq) := fun y => Keep.cell (keepN z.has y.keep) (blk2 blp).2 id
        go_big_quiet_op
        exact hK _ rfl
      · kernel_rfl
      refine shM_step rfl rfl rfl (by rfl) (by rfl) ?_
      apply Exists.intro
      refine ⟨fun z K hK => ?_, ?_, ?_⟩
      · have lx0 : ∀ y : KW z.w, y.w.cell? ⟨w.heap.size, 0, none⟩ = some (.slice A na ca) := fun y => Keep.cell (keepN z.has y.keep) (blk2 bx).1 id
        have lx1 : ∀ y : KW z.w, y.w.cell? ⟨w.heap.size, 1, none⟩ = some (.slice A0 nb cb) := fun y => Keep.cell (keepN z.has y.keep) (blk2 bx).2 id
        go_big_quiet_op
        exact hK _ rfl
      · kernel_rfl
      refine shM_step rfl rfl rfl (by rfl) (by rfl) ?_
      apply Exists.intro
      refine ⟨fun z K hK => ?_, ?_, ?_⟩
      · go_big_quiet_op
        apply Exists.intro
        refine ⟨fun y => ?_, ?_⟩
        · go_at_call 33
          exact kept_of (HM3.out _ _ _ _ _ (rp.keepN (keepN z.has y.keep)) (rq.keepN (keepN z.has y.keep)) (ha.out.keepN (keepN gK (keepN z.has y.keep))) (hr.out.keepN (keepN gK (keepN z.has y.keep))))
        · exact hK _ rfl
      · kernel_rfl
      refine shM_step rfl rfl rfl (by rfl) (by rfl) ?_
      apply Exists.intro
      refine ⟨fun z K hK => ?_, ?_, ?_⟩
      · go_big_quiet_op
        exact hK _ rfl
      · kernel_rfl
      refine shM_step rfl rfl rfl (by rfl) (by rfl) ?_
      apply Exists.intro
      refine ⟨fun z K hK => ?_, ?_, ?_⟩
      · go_big_quiet_op
        exact hK _ rfl
      · kernel_rfl
      refine shM_step rfl rfl rfl (by rfl) (by rfl) ?_
      apply Exists.intro
      refine ⟨fun z K hK => ?_, ?_, ?_⟩
      · go_big_quiet_op
        exact hK _ rfl
      · kernel_rfl
      refine shM_step rfl rfl rfl (by rfl) (by rfl) ?_
      apply Exists.intro
      refine ⟨fun z K hK => ?_, ?_, ?_⟩
      · have co_ : ∀ y : KW z.w, (convert 23 9 (.slice Ao b.length co)).run Tryd.prog y.w = .ok (.string D) y.w := fun y => by have := V.conv_rd (c := co) (rd_n ro (keepN z.has y.keep)); rw [hD0.out] at this; exact this
        go_big_quiet_op
        exact hK _ rfl
      · kernel_rfl
      refine shM_step rfl rfl rfl (by rfl) (by rfl) ?_
      apply Exists.intro
      refine ⟨fun z K hK => ?_, ?_, ?_⟩
      · go_big_quiet_op
        exact hK _ rfl
      · kernel_rfl
      refine shM_step rfl rfl rfl (by rfl) (by rfl) ?_
      apply Exists.intro
      refine ⟨fun z K hK => ?_, ?_, ?_⟩
      · have cb_ : ∀ y : KW z.w, (convert 23 9 (.slice B b.length d)).run Tryd.prog y.w = .ok (.string D) y.w := fun y => by have := V.conv_rd (c := d) (rd_n hb.out (keepN gK (keepN z.has y.keep))); rw [hD0.out] at this; exact this
        go_big_quiet_op
        exact hK _ rfl
      · kernel_rfl
      refine shM_step rfl rfl rfl (by rfl) (by rfl) ?_
      apply Exists.intro
      refine ⟨fun z K hK => ?_, ?_, ?_⟩
      · go_big_quiet_op
        exact hK _ rfl
      · kernel_rfl
      refine shM_step rfl rfl rfl (by rfl) (by rfl) ?_
      apply Exists.intro
      refine ⟨fun z K hK => ?_, ?_, ?_⟩
      · go_big_quiet_op
        exact hK _ rfl
      · kernel_rfl
      refine shM_step rfl rfl rfl (by rfl) (by rfl) ?_
      apply Exists.intro
      refine ⟨fun z K hK => ?_, ?_, ?_⟩
      · go_big_quiet_op
        exact hK _ rfl
      · kernel_rfl
      refine shM_nil (fun z => ?_)
      have k1 := z.has
      generalize z.w = w14 at k1 ⊢
      replace gK := keepN gK k1
      clear k1 bx bo blp rp rq ro
      go_wp2
      go_ret
      exact ⟨rfl, gK⟩

set_option maxRecDepth 100000 in
set_option maxHeartbeats 8000000 in
theorem sigs_n (A : Option Addr) (a : List Int) (na ca : Nat) (A0 : Option Addr) (r : List Int) (nb cb : Nat) (C : Option Addr) (oa : List Int) (nc cc : Nat) (C0 : Option Addr) (orr : List Int) (nd cd : Nat) (B : Option Addr) (b : List UInt8) (d : Nat) (S : ByteArray) (s : List UInt8) (w : World) (hL : Hid (LetAt w)) (ha : Hid (Rd w A (ivs a))) (hr : Hid (Rd w A0 (ivs r))) (hoa : Hid (Rd w C (ivs oa))) (hor : Hid (Rd w C0 (ivs orr)))
    (hna : Hid (a.length = na)) (hnb : Hid (r.length = nb)) (hnc : Hid (oa.length = nc)) (hnd : Hid (orr.length = nd)) (hb : Hid (V.Rd w B b)) (hs : Hid (S.data.toList = s)) (h1 : na ≤ 100 ∧ nb ≤ 100) (h1b : nc ≤ 100 ∧ nd ≤ 100) (h2 : b.length ≤ 100) (h3 : S.size ≤ 200) (hd : decG b 0 = none) :
    Calls Tryd.prog 4 #[.agg #[.slice A na ca, .slice A0 nb cb], .agg #[.slice C nc cc, .slice C0 nd cd], .slice B b.length d, .string S] w fun e w' => e = .returned (.bool true) ∧ Keep NoB w w' := by
  have bx := (Blk.new w 26 #[.slice A na ca, .slice A0 nb cb]).alloc (.cells #[.slice C nc cc, .slice C0 nd cd] 26)
  have bo := Blk.new (w.alloc (.cells #[.slice A na ca, .slice A0 nb cb] 26)) 26 #[.slice C nc cc, .slice C0 nd cd]
  rw [World.size_alloc] at bo
  have gK := ((Keep.refl NoB w).alloc (.cells #[.slice A na ca, .slice A0 nb cb] 26)).alloc (.cells #[.slice C nc cc, .slice C0 nd cd] 26)
  have HL : Hid (b.length ≤ 140737488355328) := by show _ ≤ _; omega
  have HG1 := Lib.hid (fun w => great_no none A A0 0 0 na ca nb cb w (by decide) h1.1 h1.2)
  have HG2 := Lib.hid (fun w => great_no none C C0 0 0 nc cc nd cd w (by decide) h1b.1 h1b.2)
  have hq2 : decide ((100 : Int) < (b.length : Int)) = false := by rw [decide_eq_false_iff_not]; omega
  have hq3 : decide ((200 : Int) < (S.size : Int)) = false := by rw [decide_eq_false_iff_not]; omega
  have HCP := Lib.hid (fun w ha hr => copy_any A a na ca A0 r nb cb w ha hr hna hnb h1.1 h1.2)
  have HX := Lib.hid (fun A ca A0 cb w ha hr => encodeG_any A a na ca A0 r nb cb w ha hr hna hnb (by omega) (by omega))
  have HY := Lib.hid (fun w ha hr => rencodeG_any A a na ca A0 r nb cb w ha hr hna hnb (by omega) (by omega))
  have HD1 := Lib.hid (fun w br O hO h => decodeG_any w br O b 0 hO h HL.out)
  have HD2 := Lib.hid (fun w br O hO h => rdecodeG_any w br O b 0 hO h HL.out)
  have HR1 := Lib.hid (fun w hL => readG_any S s w hL hs (by omega))
  have HR2 := Lib.hid (fun w => rreadG_any S s w hs (by omega))
  have HC1 := Lib.hid (fun A ca A0 cb w ha hr => chkG_any A a na ca A0 r nb cb w ha hr hna hnb (by omega) (by omega) _ rfl)
  have HC2 := Lib.hid (fun w ha hr => rchkG_any A a na ca A0 r nb cb w ha hr hna hnb (by omega) (by omega) _ rfl)
  have HS1 := Lib.hid (fun A ca A0 cb w hL ha hr => showG_any A a na ca A0 r nb cb w hL ha hr hna hnb (by omega) (by omega))
  have HS2 := Lib.hid (fun w ha hr => rshowG_any A a na ca A0 r nb cb w ha hr hna hnb (by omega) (by omega))
  obtain ⟨sb, hsb⟩ : ∃ sb, decide (a = oa ∧ r = orr) = sb := ⟨_, rfl⟩
  have HM1 := Lib.hid (fun A1 c1 A2 c2 w h1 h2 h3 h4 => same_any A1 a na c1 A2 r nb c2 C oa nc cc C0 orr nd cd w h1 h2 h3 h4 hna hnb hnc hnd (by omega) (by omega) (by omega) (by omega) sb (show sb = _ from hsb.symm))
  have HM2 := Lib.hid (fun w h1 h2 h3 h4 => rsame_any A a na ca A0 r nb cb C oa nc cc C0 orr nd cd w h1 h2 h3 h4 hna hnb hnc hnd (by omega) (by omega) (by omega) (by omega) sb (show sb = _ from hsb.symm))
  have HM3 := Lib.hid (fun A1 c1 A2 c2 w h1 h2 h3 h4 => rsame_any A1 a na c1 A2 r nb c2 A a na ca A0 r nb cb w h1 h2 h3 h4 hna hnb hna hnb (by omega) (by omega) (by omega) (by omega) true (by show true = _; simp))
  rw [hd] at HD1 HD2
  obtain ⟨xa, hxa⟩ : ∃ xa : List Int, [] = xa := ⟨_, rfl⟩
  obtain ⟨xr, hxr⟩ : ∃ xr : List Int, [] = xr := ⟨_, rfl⟩
  have hxl : xa.length ≤ 64 ∧ xr.length ≤ 64 := by rw [← hxa, ← hxr]; exact ⟨Nat.zero_le _, Nat.zero_le _⟩
  obtain ⟨mx, hmx⟩ : ∃ mx, xa.length = mx := ⟨_, rfl⟩
  obtain ⟨my, hmy⟩ : ∃ my, xr.length = my := ⟨_, rfl⟩
  rw [hmx, hmy] at hxl
  have HM := Lib.hid hmx
  have HN := Lib.hid hmy
  have HLX := Lib.hid (fun A1 c1 A2 c2 A3 c3 A4 c4 w h1 h2 h3 h4 => rsame_any A1 xa mx c1 A2 xr my c2 A3 xa mx c3 A4 xr my c4 w h1 h2 h3 h4 hmx hmy hmx hmy (by omega) (by omega) (by omega) (by omega) true (by show true = _; simp))
  have htl := rdG_lens (s := s)
  obtain ⟨ta, hta⟩ : ∃ ta, spA (rdG s) = ta := ⟨_, rfl⟩
  obtain ⟨tr, htr⟩ : ∃ tr, spB (rdG s) = tr := ⟨_, rfl⟩
  obtain ⟨te, hte⟩ : ∃ te, spE (rdG s) = te := ⟨_, rfl⟩
  unfold SgT at HR1 HR2
  rw [hta, htr, hte] at HR1 HR2
  rw [hta, htr] at htl
  obtain ⟨mt, hmt⟩ : ∃ mt, ta.length = mt := ⟨_, rfl⟩
  obtain ⟨mu, hmu⟩ : ∃ mu, tr.length = mu := ⟨_, rfl⟩
  rw [hmt, hmu] at htl HR1 HR2
  have HLT := Lib.hid (fun A1 c1 A2 c2 A3 c3 A4 c4 w h1 h2 h3 h4 => rsame_any A1 ta mt c1 A2 tr mu c2 A3 ta mt c3 A4 tr mu c4 w h1 h2 h3 h4 hmt hmu hmt hmu (by omega) (by omega) (by omega) (by omega) true (by show true = _; simp))
  have hXl := encG_len a r
  obtain ⟨X, hX⟩ : ∃ X, encG a r = X := ⟨_, rfl⟩
  obtain ⟨E, hE⟩ : ∃ E, chkG a r = E := ⟨_, rfl⟩
  rw [hX, hE] at HX HY
  rw [hX] at hXl
  rw [hE] at HC1 HC2
  obtain ⟨TS, hTS⟩ : ∃ TS, W.str (shG a r) = TS := ⟨_, rfl⟩
  rw [hTS] at HS1 HS2
  obtain ⟨SX, hSX⟩ : ∃ SX, V.str X = SX := ⟨_, rfl⟩
  obtain ⟨D, hD⟩ : ∃ D, V.str b = D := ⟨_, rfl⟩
  have hS0 := Lib.hid hSX
  have hD0 := Lib.hid hD
  have qS := list_self SX
  have qD := list_self D
  have qT := list_self TS
  have HLB : Hid (b.length ≤ 100) := h2
  clear hd hmx hmy hmt hmu hX hE hTS hSX hD hta htr hte h2 h3 hsb
  go_enter Tryd.func4, Tryd.ntmps4
  obtain ⟨x0, x1⟩ := blk2 bx
  obtain ⟨y0, y1⟩ := blk2 bo
  go_wp2_with fail
  refine (HG1.out _).mono ?_
  rintro e wg1 ⟨rfl, k1⟩
  replace bx := bx.keep k1 id
  replace bo := bo.keep k1 id
  replace gK := keepN gK k1
  clear x0 x1 y0 y1 k1
  obtain ⟨x0, x1⟩ := blk2 bx
  obtain ⟨y0, y1⟩ := blk2 bo
  go_wp2_with fail
  refine (HG2.out _).mono ?_
  rintro e wg2 ⟨rfl, k1⟩
  replace bx := bx.keep k1 id
  replace bo := bo.keep k1 id
  replace gK := keepN gK k1
  clear x0 x1 y0 y1 k1
  obtain ⟨x0, x1⟩ := blk2 bx
  go_wp2_with fail
  refine (HCP.out _ (ha.out.keepN gK) (hr.out.keepN gK)).mono ?_
  rintro e w1 ⟨vp, vq, rfl, hOp, hOq, k1⟩
  obtain ⟨Ap, cp, rfl, rp⟩ := own_rdI hOp
  obtain ⟨Aq, cq, rfl, rq⟩ := own_rdI hOq
  replace gK := keepN gK k1
  replace bx := bx.keep k1 id
  replace bo := bo.keep k1 id
  clear k1 hOp hOq x0 x1
  go_wp2_with fail
  refine (V.twin_any _ B b d (rd_n hb.out gK) HL.out).mono ?_
  rintro e w2 ⟨vo, rfl, ho, k1⟩
  obtain ⟨Ao, co, rfl, ro, _⟩ := own_rd ho
  replace gK := keepN gK k1
  replace bx := bx.keep k1 id
  replace bo := bo.keep k1 id
  replace rp := rp.keepN k1
  replace rq := rq.keepN k1
  clear ho k1
  have blp := Blk.new w2 26 #[.slice Ap na cp, .slice Aq nb cq]
  have kA := (Keep.refl NoB w2).alloc (.cells #[.slice Ap na cp, .slice Aq nb cq] 26)
  replace gK := keepN gK kA
  replace bx := bx.keep kA id
  replace bo := bo.keep kA id
  replace rp := rp.keepN kA
  replace rq := rq.keepN kA
  replace ro := rd_n ro kA
  clear kA
  have K3 := Keep.refl NoB (w2.alloc (.cells #[.slice Ap na cp, .slice Aq nb cq] 26))
  have HB3 := Lib.hid (And.intro bx (And.intro bo (And.intro blp (And.intro rp (And.intro rq (And.intro ro gK))))))
  have gW := gK.size
  obtain ⟨x0, x1⟩ := blk2 blp
  go_wp2_with fail
  refine (HX.out _ _ _ _ _ rp rq).mono ?_
  rintro e w3 ⟨vu, rfl, hu, k1⟩
  obtain ⟨Au, cu, rfl, ru, _⟩ := own_rd hu
  replace gK := keepN gK k1
  replace bx := bx.keep k1 id
  replace bo := bo.keep k1 id
  replace rp := rp.keepN k1
  replace rq := rq.keepN k1
  replace ro := rd_n ro k1
  replace blp := blp.keep k1 id
  replace K3 := keepN K3 k1
  clear k1 x0 x1
  obtain ⟨x0, x1⟩ := blk2 bx
  go_wp2_with fail
  refine (HY.out _ (ha.out.keepN gK) (hr.out.keepN gK)).mono ?_
  rintro e w4 ⟨vv, rfl, hv, k1⟩
  obtain ⟨Av, cv, rfl, rv, _⟩ := own_rd hv
  replace gK := keepN gK k1
  replace bx := bx.keep k1 id
  replace bo := bo.keep k1 id
  replace rp := rp.keepN k1
  replace rq := rq.keepN k1
  replace ro := rd_n ro k1
  replace blp := blp.keep k1 id
  replace ru := rd_n ru k1
  replace hu := hu.keep k1 (fun _ _ => id)
  replace K3 := keepN K3 k1
  clear k1 hv x0 x1
  have hrb := rd_n hb.out gK
  go_wp2_with fail
  refine (V.on_any _ Ao b co ro HL.out).mono ?_
  rintro e w5 ⟨br, rfl, hR, g4⟩
  have s4 := g4.size
  have hbr : w4.heap.size ≤ br := hR.1
  have hR := reel_new hR
  have hbr2 : br < w5.heap.size := reel_lt hR
  go_wp2_with fail
  refine (V.twin_any _ B b d (rd_n hrb g4) HL.out).mono ?_
  rintro e w6 ⟨vb, rfl, hbb, k1⟩
  obtain ⟨Ab, cb2, rfl, hcb, rb, hAb, hmb⟩ := hbb.form
  have bb : ∀ ad, Ab = some ad → ad.block < w6.heap.size := fun ad e => (hbb.1.lt ad.block (by rw [e]; rfl)).2
  have s5 := k1.size
  replace k1 := k1.alloc (.cells #[.slice Ab b.length cb2, .int .i64 0] 37)
  replace g4 := keepN g4 k1
  replace hR := hR.keep k1 (fun _ _ => id)
  have hS : V.RefAt (w6.alloc (.cells #[.slice Ab b.length cb2, .int .i64 0] 37)) w6.heap.size (fun k => w5.heap.size ≤ k ∧ k < (w6.alloc (.cells #[.slice Ab b.length cb2, .int .i64 0] 37)).heap.size) b 0 :=
    ⟨⟨s5, by simp⟩, Nat.zero_le _, Ab, cb2, Blk.new _ _ _, rd_n rb ((Keep.refl NoB w6).alloc _), hcb, hmb, fun ad e => ⟨⟨(hAb ad e).1, by have := bb ad e; simp; omega⟩, by have := bb ad e; simp; omega⟩⟩
  clear k1 hbb rb hAb hcb hmb bb
  have s6 : (w6.alloc (.cells #[.slice Ab b.length cb2, .int .i64 0] 37)).heap.size = w6.heap.size + 1 := by simp
  go_wp2_with fail
  refine (HD1.out _ br _ (fun k hk => by omega) hR).mono ?_
  rintro e w7 ⟨vx, vx2, qx, rfl, hOx, hOx2, hR, hQx, k1⟩
  dsimp only [optA, optB, optF] at hOx hOx2 ⊢
  rw [hxa, HM.out] at hOx
  rw [hxr, HN.out] at hOx2
  have s7 := k1.size
  obtain ⟨Ax, cx, rfl, _⟩ := own_rdI hOx
  obtain ⟨Ax2, cx2, rfl, _⟩ := own_rdI hOx2
  replace hS := hS.keep k1 (fun k ho e => by omega)
  replace g4 := keep_br g4 k1 hbr
  have blx := Blk.new w7 26 #[.slice Ax mx cx, .slice Ax2 my cx2]
  have kA := (Keep.refl NoB w7).alloc (.cells #[.slice Ax mx cx, .slice Ax2 my cx2] 26)
  replace hS := hS.keep kA (fun _ _ => id)
  replace hR := hR.keep kA (fun _ _ => id)
  replace hOx := hOx.keepN kA
  replace hOx2 := hOx2.keepN kA
  replace g4 := keepN g4 kA
  have s8 : (w7.alloc (.cells #[.slice Ax mx cx, .slice Ax2 my cx2] 26)).heap.size = w7.heap.size + 1 := by simp
  clear k1 hQx kA
  go_wp2_with fail
  refine (HD2.out _ w6.heap.size _ (fun k hk => by omega) hS).mono ?_
  rintro e w8 ⟨vy, vy2, qy, rfl, hOy, hOy2, hS, hQy, k1⟩
  dsimp only [optA, optB, optF] at hOy hOy2 ⊢
  rw [hxa, HM.out] at hOy
  rw [hxr, HN.out] at hOy2
  replace hOx := hOx.keep k1 (fun k ho e => by unfold Fresh at ho; omega)
  replace hOx2 := hOx2.keep k1 (fun k ho e => by unfold Fresh at ho; omega)
  have rx : Rd w8 Ax (ivs xa) := by
    obtain ⟨A', c', e, hr⟩ := own_rdI hOx
    cases e; exact hr
  have rx2 : Rd w8 Ax2 (ivs xr) := by
    obtain ⟨A', c', e, hr⟩ := own_rdI hOx2
    cases e; exact hr
  obtain ⟨Ay, cy, rfl, ry⟩ := own_rdI hOy
  obtain ⟨Ay2, cy2, rfl, ry2⟩ := own_rdI hOy2
  replace blx := blx.keep k1 (fun e => by omega)
  replace hR := hR.keep k1 (fun k ho e => by omega)
  replace g4 := keep_br g4 k1 (by omega)
  clear k1 hOx hOx2 hOy hOy2 hQy
  replace rp := rp.keepN g4
  replace rq := rq.keepN g4
  replace ro := rd_n ro g4
  replace ru := rd_n ru g4
  replace rv := rd_n rv g4
  replace hrb := rd_n hrb g4
  replace hu := hu.keep g4 (fun _ _ => id)
  replace bx := bx.keep g4 id
  replace bo := bo.keep g4 id
  replace blp := blp.keep g4 id
  replace K3 := keepN K3 g4
  replace gK := keepN gK g4
  clear g4
  have bly := Blk.new w8 26 #[.slice Ay mx cy, .slice Ay2 my cy2]
  have kA := (Keep.refl NoB w8).alloc (.cells #[.slice Ay mx cy, .slice Ay2 my cy2] 26)
  replace gK := keepN gK kA
  replace bx := bx.keep kA id
  replace bo := bo.keep kA id
  replace blp := blp.keep kA id
  replace rp := rp.keepN kA
  replace rq := rq.keepN kA
  replace ro := rd_n ro kA
  replace ru := rd_n ru kA
  replace rv := rd_n rv kA
  replace hrb := rd_n hrb kA
  replace hu := hu.keep kA (fun _ _ => id)
  replace K3 := keepN K3 kA
  replace hR := hR.keep kA (fun _ _ => id)
  replace hS := hS.keep kA (fun _ _ => id)
  replace rx := rx.keepN kA
  replace rx2 := rx2.keepN kA
  replace blx := blx.keep kA id
  replace ry := ry.keepN kA
  replace ry2 := ry2.keepN kA
  clear kA
  go_wp2_with fail
  refine (HR1.out _ (hL.out.keep gK)).mono ?_
  rintro e w11 ⟨vt, vt2, rfl, hOt, hOt2, k1⟩
  obtain ⟨At, ct, rfl, rt⟩ := own_rdI hOt
  obtain ⟨At2, ct2, rfl, rt2⟩ := own_rdI hOt2
  replace gK := keepN gK k1
  replace bx := bx.keep k1 id
  replace bo := bo.keep k1 id
  replace blp := blp.keep k1 id
  replace rp := rp.keepN k1
  replace rq := rq.keepN k1
  replace ro := rd_n ro k1
  replace ru := rd_n ru k1
  replace rv := rd_n rv k1
  replace hrb := rd_n hrb k1
  replace hu := hu.keep k1 (fun _ _ => id)
  replace K3 := keepN K3 k1
  replace hR := hR.keep k1 (fun _ _ => id)
  replace hS := hS.keep k1 (fun _ _ => id)
  replace rx := rx.keepN k1
  replace rx2 := rx2.keepN k1
  replace blx := blx.keep k1 id
  replace ry := ry.keepN k1
  replace ry2 := ry2.keepN k1
  replace bly := bly.keep k1 id
  clear k1 hOt hOt2
  have blt := Blk.new w11 26 #[.slice At mt ct, .slice At2 mu ct2]
  have kA := (Keep.refl NoB w11).alloc (.cells #[.slice At mt ct, .slice At2 mu ct2] 26)
  replace gK := keepN gK kA
  replace bx := bx.keep kA id
  replace bo := bo.keep kA id
  replace blp := blp.keep kA id
  replace rp := rp.keepN kA
  replace rq := rq.keepN kA
  replace ro := rd_n ro kA
  replace ru := rd_n ru kA
  replace rv := rd_n rv kA
  replace hrb := rd_n hrb kA
  replace hu := hu.keep kA (fun _ _ => id)
  replace K3 := keepN K3 kA
  replace hR := hR.keep kA (fun _ _ => id)
  replace hS := hS.keep kA (fun _ _ => id)
  replace rx := rx.keepN kA
  replace rx2 := rx2.keepN kA
  replace blx := blx.keep kA id
  replace ry := ry.keepN kA
  replace ry2 := ry2.keepN kA
  replace bly := bly.keep kA id
  replace rt := rt.keepN kA
  replace rt2 := rt2.keepN kA
  clear kA
  go_wp2_with fail
  refine (HR2.out _).mono ?_
  rintro e w12 ⟨vw, vw2, rfl, hOw, hOw2, k1⟩
  obtain ⟨Aw, cw, rfl, rw1⟩ := own_rdI hOw
  obtain ⟨Aw2, cw2, rfl, rw2⟩ := own_rdI hOw2
  replace gK := keepN gK k1
  replace bx := bx.keep k1 id
  replace bo := bo.keep k1 id
  replace blp := blp.keep k1 id
  replace rp := rp.keepN k1
  replace rq := rq.keepN k1
  replace ro := rd_n ro k1
  replace ru := rd_n ru k1
  replace rv := rd_n rv k1
  replace hrb := rd_n hrb k1
  replace hu := hu.keep k1 (fun _ _ => id)
  replace K3 := keepN K3 k1
  replace hR := hR.keep k1 (fun _ _ => id)
  replace hS := hS.keep k1 (fun _ _ => id)
  replace rx := rx.keepN k1
  replace rx2 := rx2.keepN k1
  replace blx := blx.keep k1 id
  replace ry := ry.keepN k1
  replace ry2 := ry2.keepN k1
  replace bly := bly.keep k1 id
  replace rt := rt.keepN k1
  replace rt2 := rt2.keepN k1
  replace blt := blt.keep k1 id
  clear k1 hOw hOw2
  have blw := Blk.new w12 26 #[.slice Aw mt cw, .slice Aw2 mu cw2]
  have kA := (Keep.refl NoB w12).alloc (.cells #[.slice Aw mt cw, .slice Aw2 mu cw2] 26)
  replace gK := keepN gK kA
  replace bx := bx.keep kA id
  replace bo := bo.keep kA id
  replace blp := blp.keep kA id
  replace rp := rp.keepN kA
  replace rq := rq.keepN kA
  replace ro := rd_n ro kA
  replace ru := rd_n ru kA
  replace rv := rd_n rv kA
  replace hrb := rd_n hrb kA
  replace hu := hu.keep kA (fun _ _ => id)
  replace K3 := keepN K3 kA
  replace hR := hR.keep kA (fun _ _ => id)
  replace hS := hS.keep kA (fun _ _ => id)
  replace rx := rx.keepN kA
  replace rx2 := rx2.keepN kA
  replace blx := blx.keep kA id
  replace ry := ry.keepN kA
  replace ry2 := ry2.keepN kA
  replace bly := bly.keep kA id
  replace rt := rt.keepN kA
  replace rt2 := rt2.keepN kA
  replace blt := blt.keep kA id
  replace rw1 := rw1.keepN kA
  replace rw2 := rw2.keepN kA
  clear kA
  obtain ⟨x0, x1⟩ := blk2 blx
  obtain ⟨y0, y1⟩ := blk2 bly
  obtain ⟨t0, t1⟩ := blk2 blt
  obtain ⟨u0, u1⟩ := blk2 blw
  go_wp2
  have HWW : Hid (w12.alloc (.cells #[.slice Aw mt cw, .slice Aw2 mu cw2] 26) = w12.alloc (.cells #[.slice Aw mt cw, .slice Aw2 mu cw2] 26)) := rfl
  refine wp_region_sh ((0, false) :: (1, false) :: (2, false) :: (3, false) :: (4, false) :: (5, false) :: (6, false) :: (7, false) :: (8, false) :: (9, false) :: (10, false) :: (11, false) :: (12, false) :: (13, false) :: (14, false) :: (15, false) :: (16, false) :: (17, false) :: (18, false) :: (19, false) :: (20, false) :: (21, false) :: (22, false) :: (23, false) :: (24, false) :: (25, false) :: (26, false) :: (27, false) :: (28, false) :: (29, false) :: (30, false) :: (31, false) :: (32, false) :: (33, false) :: (34, false) :: (35, false) :: (36, false) :: (37, false) :: (38, false) :: (39, false) :: (40, false) :: (41, false) :: (42, false) :: (43, false) :: (44, false) :: []) (fun w' => Keep NoB (w12.alloc (.cells #[.slice Aw mt cw, .slice Aw2 mu cw2] 26)) w') (by kernel_rfl) (by kernel_rfl) (by rfl) (by kernel_rfl) (stable_keep _) (Keep.refl NoB _).drew ?_
  refine shM_step rfl rfl rfl (by rfl) (by rfl) ?_
  apply Exists.intro
  refine ⟨fun z K hK => ?_, ?_, ?_⟩
  · go_big_quiet_op
    exact hK _ rfl
  · kernel_rfl
  refine shM_step rfl rfl rfl (by rfl) (by rfl) ?_
  apply Exists.intro
  refine ⟨fun z K hK => ?_, ?_, ?_⟩
  · have cu_ : ∀ y : KW z.w, (convert 23 9 (.slice Au X.length cu)).run Tryd.prog y.w = .ok (.string SX) y.w := fun y => by have := V.conv_rd (c := cu) (rd_n ru (keepN z.has y.keep)); rw [hS0.out] at this; exact this
    go_big_quiet_op
    exact hK _ rfl
  · kernel_rfl
  refine shM_step rfl rfl rfl (by rfl) (by rfl) ?_
  apply Exists.intro
  refine ⟨fun z K hK => ?_, ?_, ?_⟩
  · go_big_quiet_op
    exact hK _ rfl
  · kernel_rfl
  refine shM_step rfl rfl rfl (by rfl) (by rfl) ?_
  apply Exists.intro
  refine ⟨fun z K hK => ?_, ?_, ?_⟩
  · have cv_ : ∀ y : KW z.w, (convert 23 9 (.slice Av X.length cv)).run Tryd.prog y.w = .ok (.string SX) y.w := fun y => by have := V.conv_rd (c := cv) (rd_n rv (keepN z.has y.keep)); rw [hS0.out] at this; exact this
    go_big_quiet_op
    exact hK _ rfl
  · kernel_rfl
  refine shM_step rfl rfl rfl (by rfl) (by rfl) ?_
  apply Exists.intro
  refine ⟨fun z K hK => ?_, ?_, ?_⟩
  · go_big_quiet_op
    exact hK _ rfl
  · kernel_rfl
  refine shM_step rfl rfl rfl (by rfl) (by rfl) ?_
  apply Exists.intro
  refine ⟨fun z K hK => ?_, ?_, ?_⟩
  · go_big_quiet_op
    exact hK _ rfl
  · kernel_rfl
  refine shM_step rfl rfl rfl (by rfl) (by rfl) ?_
  apply Exists.intro
  refine ⟨fun z K hK => ?_, ?_, ?_⟩
  · go_big_quiet_op
    exact hK _ rfl
  · kernel_rfl
  refine shM_step rfl rfl rfl (by rfl) (by rfl) ?_
  apply Exists.intro
  refine ⟨fun z K hK => ?_, ?_, ?_⟩
  · go_big_quiet_op
    exact hK _ rfl
  · kernel_rfl
  refine shM_step rfl rfl rfl (by rfl) (by rfl) ?_
  apply Exists.intro
  refine ⟨fun z K hK => ?_, ?_, ?_⟩
  · go_big_quiet_op
    exact hK _ rfl
  · kernel_rfl
  refine shM_step rfl rfl rfl (by rfl) (by rfl) ?_
  apply Exists.intro
  refine ⟨fun z K hK => ?_, ?_, ?_⟩
  · go_big_quiet_op
    exact hK _ rfl
  · kernel_rfl
  refine shM_step rfl rfl rfl (by rfl) (by rfl) ?_
  apply Exists.intro
  refine ⟨fun z K hK => ?_, ?_, ?_⟩
  · go_big_quiet_op
    exact hK _ rfl
  · kernel_rfl
  refine shM_step rfl rfl rfl (by rfl) (by rfl) ?_
  apply Exists.intro
  refine ⟨fun z K hK => ?_, ?_, ?_⟩
  · have lx0 : ∀ y : KW z.w, y.w.cell? ⟨w7.heap.size, 0, none⟩ = some (.slice Ax mx cx) := fun y => Keep.cell (keepN z.has y.keep) (blk2 blx).1 id
    have lx1 : ∀ y : KW z.w, y.w.cell? ⟨w7.heap.size, 1, none⟩ = some (.slice Ax2 my cx2) := fun y => Keep.cell (keepN z.has y.keep) (blk2 blx).2 id
    go_big_quiet_op
    exact hK _ rfl
  · kernel_rfl
  refine shM_step rfl rfl rfl (by rfl) (by rfl) ?_
  apply Exists.intro
  refine ⟨fun z K hK => ?_, ?_, ?_⟩
  · have ly0 : ∀ y : KW z.w, y.w.cell? ⟨w8.heap.size, 0, none⟩ = some (.slice Ay mx cy) := fun y => Keep.cell (keepN z.has y.keep) (blk2 bly).1 id
    have ly1 : ∀ y : KW z.w, y.w.cell? ⟨w8.heap.size, 1, none⟩ = some (.slice Ay2 my cy2) := fun y => Keep.cell (keepN z.has y.keep) (blk2 bly).2 id
    go_big_quiet_op
    exact hK _ rfl
  · kernel_rfl
  refine shM_step rfl rfl rfl (by rfl) (by rfl) ?_
  apply Exists.intro
  refine ⟨fun z K hK => ?_, ?_, ?_⟩
  · go_big_quiet_op
    apply Exists.intro
    refine ⟨fun y => ?_, ?_⟩
    · go_at_call 33
      exact kept_of (HLX.out _ _ _ _ _ _ _ _ _ (rx.keepN (keepN z.has y.keep)) (rx2.keepN (keepN z.has y.keep)) (ry.keepN (keepN z.has y.keep)) (ry2.keepN (keepN z.has y.keep)))
    · exact hK _ rfl
  · kernel_rfl
  refine shM_step rfl rfl rfl (by rfl) (by rfl) ?_
  apply Exists.intro
  refine ⟨fun z K hK => ?_, ?_, ?_⟩
  · go_big_quiet_op
    exact hK _ rfl
  · kernel_rfl
  refine shM_step rfl rfl rfl (by rfl) (by rfl) ?_
  apply Exists.intro
  refine ⟨fun z K hK => ?_, ?_, ?_⟩
  · go_big_quiet_op
    exact hK _ rfl
  · kernel_rfl
  refine shM_step rfl rfl rfl (by rfl) (by rfl) ?_
  apply Exists.intro
  refine ⟨fun z K hK => ?_, ?_, ?_⟩
  · go_big_quiet_op
    exact hK _ rfl
  · kernel_rfl
  refine shM_step rfl rfl rfl (by rfl) (by rfl) ?_
  apply Exists.intro
  refine ⟨fun z K hK => ?_, ?_, ?_⟩
  · go_big_quiet_op
    exact hK _ rfl
  · kernel_rfl
  refine shM_step rfl rfl rfl (by rfl) (by rfl) ?_
  apply Exists.intro
  refine ⟨fun z K hK => ?_, ?_, ?_⟩
  · go_big_quiet_op
    exact hK _ rfl
  · kernel_rfl
  refine shM_step rfl rfl rfl (by rfl) (by rfl) ?_
  apply Exists.intro
  refine ⟨fun z K hK => ?_, ?_, ?_⟩
  · go_big_quiet_op
    exact hK _ rfl
  · kernel_rfl
  refine shM_step rfl rfl rfl (by rfl) (by rfl) ?_
  apply Exists.intro
  refine ⟨fun z K hK => ?_, ?_, ?_⟩
  · go_big_quiet_op
    exact hK _ rfl
  · kernel_rfl
  refine shM_step rfl rfl rfl (by rfl) (by rfl) ?_
  apply Exists.intro
  refine ⟨fun z K hK => ?_, ?_, ?_⟩
  · go_big_quiet_op
    exact hK _ rfl
  · kernel_rfl
  refine shM_step rfl rfl rfl (by rfl) (by rfl) ?_
  apply Exists.intro
  refine ⟨fun z K hK => ?_, ?_, ?_⟩
  · go_big_quiet_op
    exact hK _ rfl
  · kernel_rfl
  refine shM_step rfl rfl rfl (by rfl) (by rfl) ?_
  apply Exists.intro
  refine ⟨fun z K hK => ?_, ?_, ?_⟩
  · go_big_quiet_op
    exact hK _ rfl
  · kernel_rfl
  refine shM_step rfl rfl rfl (by rfl) (by rfl) ?_
  apply Exists.intro
  refine ⟨fun z K hK => ?_, ?_, ?_⟩
  · go_big_quiet_op
    exact hK _ rfl
  · kernel_rfl
  refine shM_skip rfl (by kernel_rfl) (by kernel_rfl) ?_
  refine shM_skip rfl (by kernel_rfl) (by kernel_rfl) ?_
  refine shM_skip rfl (by kernel_rfl) (by kernel_rfl) ?_
  refine shM_skip rfl (by kernel_rfl) (by kernel_rfl) ?_
  refine shM_skip rfl (by kernel_rfl) (by kernel_rfl) ?_
  refine shM_skip rfl (by kernel_rfl) (by kernel_rfl) ?_
  refine shM_skip rfl (by kernel_rfl) (by kernel_rfl) ?_
  refine shM_step rfl rfl rfl (by rfl) (by rfl) ?_
  apply Exists.intro
  refine ⟨fun z K hK => ?_, ?_, ?_⟩
  · go_big_quiet_op
    exact hK _ rfl
  · kernel_rfl
  refine shM_step rfl rfl rfl (by rfl) (by rfl) ?_
  apply Exists.intro
  refine ⟨fun z K hK => ?_, ?_, ?_⟩
  · go_big_quiet_op
    exact hK _ rfl
  · kernel_rfl
  refine shM_step rfl rfl rfl (by rfl) (by rfl) ?_
  apply Exists.intro
  refine ⟨fun z K hK => ?_, ?_, ?_⟩
  · go_big_quiet_op
    exact hK _ rfl
  · kernel_rfl
  refine shM_step rfl rfl rfl (by rfl) (by rfl) ?_
  apply Exists.intro
  refine ⟨fun z K hK => ?_, ?_, ?_⟩
  · have lt0 : ∀ y : KW z.w, y.w.cell? ⟨w11.heap.size, 0, none⟩ = some (.slice At mt ct) := fun y => Keep.cell (keepN z.has y.keep) (blk2 blt).1 id
    have lt1 : ∀ y : KW z.w, y.w.cell? ⟨w11.heap.size, 1, none⟩ = some (.slice At2 mu ct2) := fun y => Keep.cell (keepN z.has y.keep) (blk2 blt).2 id
    go_big_quiet_op
    exact hK _ rfl
  · kernel_rfl
  refine shM_step rfl rfl rfl (by rfl) (by rfl) ?_
  apply Exists.intro
  refine ⟨fun z K hK => ?_, ?_, ?_⟩
  · have lw0 : ∀ y : KW z.w, y.w.cell? ⟨w12.heap.size, 0, none⟩ = some (.slice Aw mt cw) := fun y => Keep.cell (keepN z.has y.keep) (blk2 blw).1 id
    have lw1 : ∀ y : KW z.w, y.w.cell? ⟨w12.heap.size, 1, none⟩ = some (.slice Aw2 mu cw2) := fun y => Keep.cell (keepN z.has y.keep) (blk2 blw).2 id
    go_big_quiet_op
    exact hK _ rfl
  · kernel_rfl
  refine shM_step rfl rfl rfl (by rfl) (by rfl) ?_
  apply Exists.intro
  refine ⟨fun z K hK => ?_, ?_, ?_⟩
  · go_big_quiet_op
    apply Exists.intro
    refine ⟨fun y => ?_, ?_⟩
    · go_at_call 33
      exact kept_of (HLT.out _ _ _ _ _ _ _ _ _ (rt.keepN (keepN z.has y.keep)) (rt2.keepN (keepN z.has y.keep)) (rw1.keepN (keepN z.has y.keep)) (rw2.keepN (keepN z.has y.keep)))
    · exact hK _ rfl
  · kernel_rfl
  refine shM_step rfl rfl rfl (by rfl) (by rfl) ?_
  apply Exists.intro
  refine ⟨fun z K hK => ?_, ?_, ?_⟩
  · go_big_quiet_op
    exact hK _ rfl
  · kernel_rfl
  refine shM_step rfl rfl rfl (by rfl) (by rfl) ?_
  apply Exists.intro
  refine ⟨fun z K hK => ?_, ?_, ?_⟩
  · go_big_quiet_op
    exact hK _ rfl
  · kernel_rfl
  refine shM_step rfl rfl rfl (by rfl) (by rfl) ?_
  apply Exists.intro
  refine ⟨fun z K hK => ?_, ?_, ?_⟩
  · go_big_quiet_op
    exact hK _ rfl
  · kernel_rfl
  refine shM_step rfl rfl rfl (by rfl) (by rfl) ?_
  apply Exists.intro
  refine ⟨fun z K hK => ?_, ?_, ?_⟩
  · go_big_quiet_op
    exact hK _ rfl
  · kernel_rfl
  refine shM_step rfl rfl rfl (by rfl) (by rfl) ?_
  apply Exists.intro
  refine ⟨fun z K hK => ?_, ?_, ?_⟩
  · go_big_quiet_op
    exact hK _ rfl
  · kernel_rfl
  refine shM_step rfl rfl rfl (by rfl) (by rfl) ?_
  apply Exists.intro
  refine ⟨fun z K hK => ?_, ?_, ?_⟩
  · go_big_quiet_op
    exact hK _ rfl
  · kernel_rfl
  refine shM_step rfl rfl rfl (by rfl) (by rfl) ?_
  apply Exists.intro
  refine ⟨fun z K hK => ?_, ?_, ?_⟩
  · go_big_quiet_op
    exact hK _ rfl
  · kernel_rfl
  refine shM_nil (fun z => ?_)
  have k1 := z.has
  generalize z.w = w13 at k1 ⊢
  replace gK := keepN gK k1
  replace hu := hu.keep k1 (fun _ _ => id)
  replace K3 := keepN K3 k1
  clear k1 rx rx2 ry ry2 rt rt2 rw1 rw2 ru rv hR hS blx bly blt blw x0 x1 y0 y1 t0 t1 u0 u1 HWW bx bo blp rp rq ro hrb gK gW
  clear HG1 HG2 HCP HX HY HD1 HD2 HR1 HR2 HLX HLT HM HN hS0 qS s4 s5 s6 s7 s8 hbr hbr2
  generalize w2.alloc (.cells #[.slice Ap na cp, .slice Aq nb cq] 26) = wb at hu K3 HB3
  generalize w2.heap.size = g2 at HB3 ⊢
  generalize w6.heap.size = g6
  generalize w7.heap.size = g7
  generalize w8.heap.size = g8
  generalize w11.heap.size = g11
  generalize w12.heap.size = g12
  obtain ⟨nX, hnX⟩ : ∃ nX, X.length = nX := ⟨_, rfl⟩
  rw [hnX] at hu hXl ⊢
  go_wp2
  go_loopw [131] (fun i wr => ∃ k : Nat, k ≤ nX ∧ i = .int .i64 k ∧ (∃ l : List UInt8, l.length = nX ∧ V.OwnB wr (Fresh wb) (.slice Au nX cu) l) ∧ Keep NoB wb wr) (fun i _ => nX - (intOf i).toNat)
  case atStart => exact ⟨0, Nat.zero_le _, rfl, ⟨X, hnX, hu⟩, K3⟩
  case round =>
    clear hu K3
    obtain ⟨k, hk, rfl, ⟨l, hl, hu⟩, hK⟩ := hrel
    by_cases hlt : k < nX
    · obtain ⟨g, rfl⟩ := own_head hu hl (by omega)
      have hkl : k < l.length := by omega
      have c0 := own_cell hu hkl
      have f0 := own_frozen hu hl k
      have HP := Lib.hid (fun V1 hV => own_put (V1 := V1) hu hl hlt hV)
      have HKP := Lib.hid (fun u => keep_own (k := k) hK hu u)
      have hx8 := l[k].toNat_lt
      generalize l[k].toNat = x at c0 HP hx8
      clear hu
      go_wp2
      go_roundw
      case rel => exact ⟨k + 1, by omega, by go_num, HP.out _ (by first | rfl | (simp; done) | go_num), HKP.out _⟩
      case measure => simp [intOf]; first | omega | (rw [show wrap64 ((k : Int) + 1) = (k : Int) + 1 by go_num]; omega)
    · obtain ⟨bx, bo, blp, rp, rq, ro, gK⟩ := HB3.out
      replace gK := keepN gK hK
      replace bx := bx.keep hK id
      replace bo := bo.keep hK id
      replace blp := blp.keep hK id
      replace rp := rp.keepN hK
      replace rq := rq.keepN hK
      replace ro := rd_n ro hK
      clear hu hl HB3
      go_wp2
      have qsb : (sb == sb) = true := by cases sb <;> rfl
      have HWR : Hid (wr = wr) := rfl
      refine wp_region_sh ((0, false) :: (1, false) :: (2, false) :: (3, false) :: (4, false) :: (5, false) :: (6, false) :: (7, false) :: (8, false) :: (9, false) :: (10, false) :: (11, false) :: (12, false) :: (13, false) :: (14, false) :: (15, false) :: (16, false) :: (17, false) :: (18, false) :: (19, false) :: (20, false) :: (21, false) :: (22, false) :: (23, false) :: (24, false) :: (25, false) :: (26, false) :: (27, false) :: (28, false) :: (29, false) :: (30, false) :: (31, false) :: (32, false) :: (33, false) :: []) (fun w' => Keep NoB wr w') (by kernel_rfl) (by kernel_rfl) (by rfl) (by kernel_rfl) (stable_keep _) (Keep.refl NoB _).drew ?_
      refine shM_step rfl rfl rfl (by rfl) (by rfl) ?_
      apply Exists.intro
      refine ⟨fun z K hK => ?_, ?_, ?_⟩
      · have lp0 : ∀ y : KW z.w, y.w.cell? ⟨g2, 0, none⟩ = some (.slice Ap na cp) := fun y => Keep.cell (keepN z.has y.keep) (blk2 blp).1 id
        have lp1 : ∀ y : KW z.w, y.w.cell? ⟨g2, 1, none⟩ = some (.slice Aq nb cq) := fun y => Keep.cell (keepN z.has y.keep) (blk2 blp).2 id
        go_big_quiet_op
        exact hK _ rfl
      · kernel_rfl
      refine shM_step rfl rfl rfl (by rfl) (by rfl) ?_
      apply Exists.intro
      refine ⟨fun z K hK => ?_, ?_, ?_⟩
      · go_big_quiet_op
        apply Exists.intro
        refine ⟨fun y => ?_, ?_⟩
        · go_at_call 34
          exact kept_of (HC1.out _ _ _ _ _ (rp.keepN (keepN z.has y.keep)) (rq.keepN (keepN z.has y.keep)))
        · exact hK _ rfl
      · kernel_rfl
      refine shM_step rfl rfl rfl (by rfl) (by rfl) ?_
      apply Exists.intro
      refine ⟨fun z K hK => ?_, ?_, ?_⟩
      · have lx0 : ∀ y : KW z.w, y.w.cell? ⟨w.heap.size, 0, none⟩ = some (.slice A na ca) := fun y => Keep.cell (keepN z.has y.keep) (blk2 bx).1 id
        have lx1 : ∀ y : KW z.w, y.w.cell? ⟨w.heap.size, 1, none⟩ = some (.slice A0 nb cb) := fun y => Keep.cell (keepN z.has y.keep) (blk2 bx).2 id
        go_big_quiet_op
        exact hK _ rfl
      · kernel_rfl
      refine shM_step rfl rfl rfl (by rfl) (by rfl) ?_
      apply Exists.intro
      refine ⟨fun z K hK => ?_, ?_, ?_⟩
      · go_big_quiet_op
        apply Exists.intro
        refine ⟨fun y => ?_, ?_⟩
        · go_at_call 35
          exact kept_of (HC2.out _ (ha.out.keepN (keepN gK (keepN z.has y.keep))) (hr.out.keepN (keepN gK (keepN z.has y.keep))))
        · exact hK _ rfl
      · kernel_rfl
      refine shM_step rfl rfl rfl (by rfl) (by rfl) ?_
      apply Exists.intro
      refine ⟨fun z K hK => ?_, ?_, ?_⟩
      · go_big_quiet_op
        exact hK _ rfl
      · kernel_rfl
      refine shM_step rfl rfl rfl (by rfl) (by rfl) ?_
      apply Exists.intro
      refine ⟨fun z K hK => ?_, ?_, ?_⟩
      · go_big_quiet_op
        exact hK _ rfl
      · kernel_rfl
      refine shM_step rfl rfl rfl (by rfl) (by rfl) ?_
      apply Exists.intro
      refine ⟨fun z K hK => ?_, ?_, ?_⟩
      · have lp0 : ∀ y : KW z.w, y.w.cell? ⟨g2, 0, none⟩ = some (.slice Ap na cp) := fun y => Keep.cell (keepN z.has y.keep) (blk2 blp).1 id
        have lp1 : ∀ y : KW z.w, y.w.cell? ⟨g2, 1, none⟩ = some (.slice Aq nb cq) := fun y => Keep.cell (keepN z.has y.keep) (blk2 blp).2 id
        go_big_quiet_op
        exact hK _ rfl
      · kernel_rfl
      refine shM_step rfl rfl rfl (by rfl) (by rfl) ?_
      apply Exists.intro
      refine ⟨fun z K hK => ?_, ?_, ?_⟩
      · go_big_quiet_op
        apply Exists.intro
        refine ⟨fun y => ?_, ?_⟩
        · go_at_call 36
          exact kept_of (HS1.out _ _ _ _ _ (hL.out.keep (keepN gK (keepN z.has y.keep))) (rp.keepN (keepN z.has y.keep)) (rq.keepN (keepN z.has y.keep)))
        · exact hK _ rfl
      · kernel_rfl
      refine shM_step rfl rfl rfl (by rfl) (by rfl) ?_
      apply Exists.intro
      refine ⟨fun z K hK => ?_, ?_, ?_⟩
      · have lx0 : ∀ y : KW z.w, y.w.cell? ⟨w.heap.size, 0, none⟩ = some (.slice A na ca) := fun y => Keep.cell (keepN z.has y.keep) (blk2 bx).1 id
        have lx1 : ∀ y : KW z.w, y.w.cell? ⟨w.heap.size, 1, none⟩ = some (.slice A0 nb cb) := fun y => Keep.cell (keepN z.has y.keep) (blk2 bx).2 id
        go_big_quiet_op
        exact hK _ rfl
      · kernel_rfl
      refine shM_step rfl rfl rfl (by rfl) (by rfl) ?_
      apply Exists.intro
      refine ⟨fun z K hK => ?_, ?_, ?_⟩
      · go_big_quiet_op
        apply Exists.intro
        refine ⟨fun y => ?_, ?_⟩
        · go_at_call 37
          exact kept_of (HS2.out _ (ha.out.keepN (keepN gK (keepN z.has y.keep))) (hr.out.keepN (keepN gK (keepN z.has y.keep))))
        · exact hK _ rfl
      · kernel_rfl
      refine shM_step rfl rfl rfl (by rfl) (by rfl) ?_
      apply Exists.intro
      refine ⟨fun z K hK => ?_, ?_, ?_⟩
      · go_big_quiet_op
        exact hK _ rfl
      · kernel_rfl
      refine shM_step rfl rfl rfl (by rfl) (by rfl) ?_
      apply Exists.intro
      refine ⟨fun z K hK => ?_, ?_, ?_⟩
      · go_big_quiet_op
        exact hK _ rfl
      · kernel_rfl
      refine shM_step rfl rfl rfl (by rfl) (by rfl) ?_
      apply Exists.intro
      refine ⟨fun z K hK => ?_, ?_, ?_⟩
      · go_big_quiet_op
        exact hK _ rfl
      · kernel_rfl
      refine shM_step rfl rfl rfl (by rfl) (by rfl) ?_
      apply Exists.intro
      refine ⟨fun z K hK => ?_, ?_, ?_⟩
      · have lp0 : ∀ y : KW z.w, y.w.cell? ⟨g2, 0, none⟩ = some (.slice Ap na cp) := fun y => Keep.cell (keepN z.has y.keep) (blk2 blp).1 id
        have lp1 : ∀ y : KW z.w, y.w.cell? ⟨g2, 1, none⟩ = some (.slice Aq nb cq) := fun y => Keep.cell (keepN z.has y.keep) (blk2 blp).2 id
        go_big_quiet_op
        exact hK _ rfl
      · kernel_rfl
      refine shM_step rfl rfl rfl (by rfl) (by rfl) ?_
      apply Exists.intro
      refine ⟨fun z K hK => ?_, ?_, ?_⟩
      · have lo0 : ∀ y : KW z.w, y.w.cell? ⟨w.heap.size + 1, 0, none⟩ = some (.slice C nc cc) := fun y => Keep.cell (keepN z.has y.keep) (blk2 bo).1 id
        have lo1 : ∀ y : KW z.w, y.w.cell? ⟨w.heap.size + 1, 1, none⟩ = some (.slice C0 nd cd) := fun y => Keep.cell (keepN z.has y.keep) (blk2 bo).2 id
        go_big_quiet_op
        exact hK _ rfl
      · kernel_rfl
      refine shM_step rfl rfl rfl (by rfl) (by rfl) ?_
      apply Exists.intro
      refine ⟨fun z K hK => ?_, ?_, ?_⟩
      · go_big_quiet_op
        apply Exists.intro
        refine ⟨fun y => ?_, ?_⟩
        · go_at_call 38
          exact kept_of (HM1.out _ _ _ _ _ (rp.keepN (keepN z.has y.keep)) (rq.keepN (keepN z.has y.keep)) (hoa.out.keepN (keepN gK (keepN z.has y.keep))) (hor.out.keepN (keepN gK (keepN z.has y.keep))))
        · exact hK _ rfl
      · kernel_rfl
      refine shM_step rfl rfl rfl (by rfl) (by rfl) ?_
      apply Exists.intro
      refine ⟨fun z K hK => ?_, ?_, ?_⟩
      · have lx0 : ∀ y : KW z.w, y.w.cell? ⟨w.heap.size, 0, none⟩ = some (.slice A na ca) := fun y => Keep.cell (keepN z.has y.keep) (blk2 bx).1 id
        have lx1 : ∀ y : KW z.w, y.w.cell? ⟨w.heap.size, 1, none⟩ = some (.slice A0 nb cb) := fun y => Keep.cell (keepN z.has y.keep) (blk2 bx).2 id
        go_big_quiet_op
        exact hK _ rfl
      · kernel_rfl
      refine shM_step rfl rfl rfl (by rfl) (by rfl) ?_
      apply Exists.intro
      refine ⟨fun z K hK => ?_, ?_, ?_⟩
      · have lo0 : ∀ y : KW z.w, y.w.cell? ⟨w.heap.size + 1, 0, none⟩ = some (.slice C nc cc) := fun y => Keep.cell (keepN z.has y.keep) (blk2 bo).1 id
        have lo1 : ∀ y : KW z.w, y.w.cell? ⟨w.heap.size + 1, 1, none⟩ = some (.slice C0 nd cd) := fun y => Keep.cell (keepN z.has y.keep) (blk2 bo).2 id
        go_big_quiet_op
        exact hK _ rfl
      · kernel_rfl
      refine shM_step rfl rfl rfl (by rfl) (by rfl) ?_
      apply Exists.intro
      refine ⟨fun z K hK => ?_, ?_, ?_⟩
      · go_big_quiet_op
        apply Exists.intro
        refine ⟨fun y => ?_, ?_⟩
        · go_at_call 33
          exact kept_of (HM2.out _ (ha.out.keepN (keepN gK (keepN z.has y.keep))) (hr.out.keepN (keepN gK (keepN z.has y.keep))) (hoa.out.keepN (keepN gK (keepN z.has y.keep))) (hor.out.keepN (keepN gK (keepN z.has y.keep))))
        · exact hK _ rfl
      · kernel_rfl
      refine shM_step rfl rfl rfl (by rfl) (by rfl) ?_
      apply Exists.intro
      refine ⟨fun z K hK => ?_, ?_, ?_⟩
      · go_big_quiet_op
        exact hK _ rfl
      · kernel_rfl
      refine shM_step rfl rfl rfl (by rfl) (by rfl) ?_
      apply Exists.intro
      refine ⟨fun z K hK => ?_, ?_, ?_⟩
      · go_big_quiet_op
        exact hK _ rfl
      · kernel_rfl
      refine shM_step rfl rfl rfl (by rfl) (by rfl) ?_
      apply Exists.intro
      refine ⟨fun z K hK => ?_, ?_, ?_⟩
      · go_big_quiet_op
        exact hK _ rfl
      · kernel_rfl
      refine shM_step rfl rfl rfl (by rfl) (by rfl) ?_
      apply Exists.intro
      refine ⟨fun z K hK => ?_, ?_, ?_⟩
      · have lp0 : ∀ y : KW z.w, y.w.cell? ⟨g2, 0, none⟩ = some (.slice Ap na cp) := fun y => Keep.cell (keepN z.has y.keep) (blk2 blp).1 id
        have lp1 : ∀ y : KW z.w, y.w.cell? ⟨g2, 1, none⟩ = some (.slice Aq nb cq) := fun y => Keep.cell (keepN z.has y.keep) (blk2 blp).2 id
        go_big_quiet_op
        exact hK _ rfl
      · kernel_rfl
      refine shM_step rfl rfl rfl (by rfl) (by rfl) ?_
      apply Exists.intro
      refine ⟨fun z K hK => ?_, ?_, ?_⟩
      · have lx0 : ∀ y : KW z.w, y.w.cell? ⟨w.heap.size, 0, none⟩ = some (.slice A na ca) := fun y => Keep.cell (keepN z.has y.keep) (blk2 bx).1 id
        have lx1 : ∀ y : KW z.w, y.w.cell? ⟨w.heap.size, 1, none⟩ = some (.slice A0 nb cb) := fun y => Keep.cell (keepN z.has y.keep) (blk2 bx).2 id
        go_big_quiet_op
        exact hK _ rfl
      · kernel_rfl
      refine shM_step rfl rfl rfl (by rfl) (by rfl) ?_
      apply Exists.intro
      refine ⟨fun z K hK => ?_, ?_, ?_⟩
      · go_big_quiet_op
        apply Exists.intro
        refine ⟨fun y => ?_, ?_⟩
        · go_at_call 33
          exact kept_of (HM3.out _ _ _ _ _ (rp.keepN (keepN z.has y.keep)) (rq.keepN (keepN z.has y.keep)) (ha.out.keepN (keepN gK (keepN z.has y.keep))) (hr.out.keepN (keepN gK (keepN z.has y.keep))))
        · exact hK _ rfl
      · kernel_rfl
      refine shM_step rfl rfl rfl (by rfl) (by rfl) ?_
      apply Exists.intro
      refine ⟨fun z K hK => ?_, ?_, ?_⟩
      · go_big_quiet_op
        exact hK _ rfl
      · kernel_rfl
      refine shM_step rfl rfl rfl (by rfl) (by rfl) ?_
      apply Exists.intro
      refine ⟨fun z K hK => ?_, ?_, ?_⟩
      · go_big_quiet_op
        exact hK _ rfl
      · kernel_rfl
      refine shM_step rfl rfl rfl (by rfl) (by rfl) ?_
      apply Exists.intro
      refine ⟨fun z K hK => ?_, ?_, ?_⟩
      · go_big_quiet_op
        exact hK _ rfl
      · kernel_rfl
      refine shM_step rfl rfl rfl (by rfl) (by rfl) ?_
      apply Exists.intro
      refine ⟨fun z K hK => ?_, ?_, ?_⟩
      · have co_ : ∀ y : KW z.w, (convert 23 9 (.slice Ao b.length co)).run Tryd.prog y.w = .ok (.string D) y.w := fun y => by have := V.conv_rd (c := co) (rd_n ro (keepN z.has y.keep)); rw [hD0.out] at this; exact this
        go_big_quiet_op
        exact hK _ rfl
      · kernel_rfl
      refine shM_step rfl rfl rfl (by rfl) (by rfl) ?_
      apply Exists.intro
      refine ⟨fun z K hK => ?_, ?_, ?_⟩
      · go_big_quiet_op
        exact hK _ rfl
      · kernel_rfl
      refine shM_step rfl rfl rfl (by rfl) (by rfl) ?_
      apply Exists.intro
      refine ⟨fun z K hK => ?_, ?_, ?_⟩
      · have cb_ : ∀ y : KW z.w, (convert 23 9 (.slice B b.length d)).run Tryd.prog y.w = .ok (.string D) y.w := fun y => by have := V.conv_rd (c := d) (rd_n hb.out (keepN gK (keepN z.has y.keep))); rw [hD0.out] at this; exact this
        go_big_quiet_op
        exact hK _ rfl
      · kernel_rfl
      refine shM_step rfl rfl rfl (by rfl) (by rfl) ?_
      apply Exists.intro
      refine ⟨fun z K hK => ?_, ?_, ?_⟩
      · go_big_quiet_op
        exact hK _ rfl
      · kernel_rfl
      refine shM_step rfl rfl rfl (by rfl) (by rfl) ?_
      apply Exists.intro
      refine ⟨fun z K hK => ?_, ?_, ?_⟩
      · go_big_quiet_op
        exact hK _ rfl
      · kernel_rfl
      refine shM_step rfl rfl rfl (by rfl) (by rfl) ?_
      apply Exists.intro
      refine ⟨fun z K hK => ?_, ?_, ?_⟩
      · go_big_quiet_op
        exact hK _ rfl
      · kernel_rfl
      refine shM_nil (fun z => ?_)
      have k1 := z.has
      generalize z.w = w14 at k1 ⊢
      replace gK := keepN gK k1
      clear k1 bx bo blp rp rq ro
      go_wp2
      go_ret
      exact ⟨rfl, gK⟩

theorem sigs_walk (A : Option Addr) (a : List Int) (na ca : Nat) (A0 : Option Addr) (r : List Int) (nb cb : Nat) (C : Option Addr) (oa : List Int) (nc cc : Nat) (C0 : Option Addr) (orr : List Int) (nd cd : Nat) (B : Option Addr) (b : List UInt8) (d : Nat) (S : ByteArray) (w : World)
    (hL : LetAt w) (ha : Rd w A (ivs a)) (hr : Rd w A0 (ivs r)) (hna : a.length = na) (hnb : r.length = nb) (hoa : Rd w C (ivs oa)) (hor : Rd w C0 (ivs orr)) (hnc : oa.length = nc) (hnd : orr.length = nd) (hb : V.Rd w B b) :
    Calls Tryd.prog 4 #[.agg #[.slice A na ca, .slice A0 nb cb], .agg #[.slice C nc cc, .slice C0 nd cd], .slice B b.length d, .string S] w fun e w' => e = .returned (.bool true) ∧ Keep NoB w w' := by
  by_cases h : (na ≤ 100 ∧ nb ≤ 100) ∧ (nc ≤ 100 ∧ nd ≤ 100) ∧ b.length ≤ 100 ∧ S.size ≤ 200
  · obtain ⟨h1, h1b, h2, h3⟩ := h
    cases hd : decG b 0 with
    | none => exact sigs_n A a na ca A0 r nb cb C oa nc cc C0 orr nd cd B b d S _ w hL ha hr hoa hor hna hnb hnc hnd hb rfl h1 h1b h2 h3 hd
    | some x => exact sigs_y A a na ca A0 r nb cb C oa nc cc C0 orr nd cd B b d S _ w hL ha hr hoa hor hna hnb hnc hnd hb rfl h1 h1b h2 h3 _ _ _ hd
  · exact sigs_big A na ca A0 nb cb C nc cc C0 nd cd B b.length d S w h

end Go.Proofs.YtieejecodfeodaaDoor.S
