/-
  Part 19 of the proofs of LBackRow, LLabelsRow: what is laid, and what the functions that the law runs answer. Conditions: each theorem names its own.
-/
import Derived.Scope
import Derived.Test.YtgnooffedmeenaaGreatDoorQB18
import Derived.Test.YtgnooffedmeenaaGreatDoorQB14
namespace Go.Proofs.YtgnooffedmeenaaGreatDoor.M
open Go.RowKit W

theorem pInstr_no1 {p : PS} {ln : Nat} {ws : List Bs} (h : ¬ 1 ≤ p.last) : pInstr p ln ws = none := if_neg h
theorem pInstr_no2 {p : PS} {ln : Nat} {ws : List Bs} (h : rdA (joinW ws) = none) (h2 : pNamed ws = none) : pInstr p ln ws = none := by
 unfold pInstr; rw [h, h2]; split <;> rfl
theorem pInstr_read {p : PS} {ln : Nat} {ws : List Bs} {x : C.I3} (h0 : 1 ≤ p.last) (h : rdA (joinW ws) = some x) : pInstr p ln ws = some (addX p x p.ms) := by
 unfold pInstr; rw [if_pos h0, h]
theorem pInstr_name {p : PS} {ln : Nat} {ws : List Bs} {op : Nat} {b : Bs} (h0 : 1 ≤ p.last) (h : rdA (joinW ws) = none) (h2 : pNamed ws = some (op, b)) : pInstr p ln ws = some (addX p ((op : Int), 0, 0) (p.ms ++ [⟨ln, p.im.fn.length - 1, (lastFn p).bd.length, b, kindA (op : Int)⟩])) := by
 unfold pInstr; rw [if_pos h0, h, h2]
theorem allI_one {x : C.I3} (h : C.ok1 x = true) : C.AllI [x] := by
 intro y hy
 rw [List.mem_singleton.1 hy]
 exact C.ok1_I h
theorem allI_op (op : Nat) : C.AllI [((op : Int), 0, 0)] := by
 intro y hy
 rw [List.mem_singleton.1 hy]
 exact ⟨show O.I64 0 by unfold O.I64; omega, show O.I64 0 by unfold O.I64; omega⟩
theorem box3 {w0 W w2 w5 : World} {T T' : Nat → Tg} {rb N ln gb : Nat} {p : PS} {cs : Array Value} (k3 : Keep NoB W w2) (hrd : Rnd (BS T) (BS T') w2 w5) (hr : RdAt w0 w5 T' rb p N ln) (hk0 : Keep NoB w0 W) (hg : W.heap.size ≤ gb) (hT : T gb = .no) (hg2 : gb < w2.heap.size) (b5 : Blk w2 gb 55 cs) (a b c : Int) (h3 : cs = #[.int .i64 0, .int .i64 0, .int .i64 0]) :
  RdAt w0 (((w5.setCell ⟨gb, 0, none⟩ (.int .i64 a)).setCell ⟨gb, 1, none⟩ (.int .i64 b)).setCell ⟨gb, 2, none⟩ (.int .i64 c)) T' rb p N ln ∧
  Blk w5 gb 55 #[.int .i64 0, .int .i64 0, .int .i64 0] ∧ T' gb = .no ∧
  Blk (((w5.setCell ⟨gb, 0, none⟩ (.int .i64 a)).setCell ⟨gb, 1, none⟩ (.int .i64 b)).setCell ⟨gb, 2, none⟩ (.int .i64 c)) gb 55 #[.int .i64 a, .int .i64 b, .int .i64 c] ∧
  Rnd (BS T) (BS T') W (((w5.setCell ⟨gb, 0, none⟩ (.int .i64 a)).setCell ⟨gb, 1, none⟩ (.int .i64 b)).setCell ⟨gb, 2, none⟩ (.int .i64 c)) := by
 subst h3
 have hTb' : T' gb = .no := Classical.byContradiction fun hne => hrd.own gb hg2 hne hT
 have hw0l : w0.heap.size ≤ gb := Nat.le_trans hk0.size hg
 have b6 : Blk w5 gb 55 #[.int .i64 0, .int .i64 0, .int .i64 0] := b5.keep hrd.keep (fun h => h hT)
 refine ⟨((hr.box (j := 0) (u := .int .i64 a) hTb' hw0l).1.box (j := 1) (u := .int .i64 b) hTb' hw0l).1.box (j := 2) (u := .int .i64 c) hTb' hw0l |>.1, b6, hTb', ((b6.put 0 _).put 1 _).put 2 _, fun k hk h2 => hrd.own k (Nat.lt_of_lt_of_le hk k3.size) h2, ?_⟩
 have hn0 : ∀ i, (⟨gb, i, none⟩ : Addr).block < W.heap.size → BS T (⟨gb, i, none⟩ : Addr).block := fun i h => absurd (Nat.lt_of_lt_of_le h hg) (Nat.lt_irrefl _)
 exact (((k3.noB.trans hrd.keep (fun k h _ => h)).setCell (hn0 0) _).setCell (hn0 1) _).setCell (hn0 2) _
theorem inM_info : (Tryz.prog.info? 55).map (fun i => (i.zero, i.size, i.bytes)) = some (some (.agg #[.int .i64 0, .int .i64 0, .int .i64 0]), 3, 24) := by kernel_rfl

set_option maxRecDepth 100000 in
set_option maxHeartbeats 8000000 in
theorem readInstruction_any (w0 W : World) (T : Nat → Tg) (rb : Nat) (p : PS) (N ln : Nat) (hE : Hid (EnvM w0)) (h : RdAt w0 W T rb p N ln) (hN : N ≤ 299000) (hln : ln ≤ 300000) (hfn : 1 ≤ p.last → p.im.fn ≠ []) (A : Option Addr) (ws : List Bs) (n c : Nat) (hw : Rd W A (sv ws)) (hn : ws.length = n) (hnc : n ≤ c) (hwl : ∀ x ∈ ws, x.length ≤ 140000) (hjl : (joinW ws).length ≤ 140000) :
  Calls Tryz.prog 200 #[.pointer (some ⟨rb, 0, none⟩), .slice A n c] W (TryR w0 W T rb p N ln (pInstr p ln ws)) := by
 have HR := Lib.hid h
 obtain ⟨hk0, v, es, fs, ls, R, F, hln2, hr⟩ := h
 obtain ⟨_, _, _, c3, _, _, _⟩ := rd_cells hr.bk
 have hla := hr.la
 rw [hla] at c3
 have HK := Lib.hid hk0
 have HPa := Lib.hid hr.pa
 have HRD := Lib.hid hr
 clear hk0 hln2 hla hr
 by_cases h1 : 1 ≤ p.last
 ·have hl1 : ¬ ((p.last : Int) < 1) := by omega
  have hl2 : decide ((p.last : Int) < 1) = false := decide_eq_false hl1
  have hf := hfn h1
  have hnl : n ≤ 140001 := by have := npLen ws; omega
  have HJ := Lib.hid (joined_any A ws n c W hw (Lib.hid hn) hnc (by omega) (by omega))
  have hjs : (str (joinW ws)).data.toList = joinW ws := by simp
  have HRd := Lib.hid (fun W' (k : Keep NoB W W') => O.read_text (str (joinW ws)) (joinW ws) W' hjs (by rw [size_of hjs]; omega) (hE.out.1.keep (keepN HK.out k)) (hE.out.2.keep (keepN HK.out k)))
  have HMe := Lib.hid (fun W' (k : Keep NoB W W') => mentioning_any w0 W' T rb p N ln (HR.out.keepN k) (by omega) hf hln A ws n c (hw.keepN k) hn hnc hwl)
  have HRR := Lib.hid (fun (vv : Value) (hh : O.ReadV (joinW ws) vv) => readV_rd hh)
  have HQ1 := Lib.hid (fun x (hx : rdA (joinW ws) = some x) => pInstr_read (p := p) (ln := ln) h1 hx)
  have HQ2 := Lib.hid (fun op b (hx : rdA (joinW ws) = none) (hy : pNamed ws = some (op, b)) => pInstr_name (p := p) (ln := ln) h1 hx hy)
  have HQ3 := Lib.hid (fun (hx : rdA (joinW ws) = none) (hy : pNamed ws = none) => pInstr_no2 (p := p) (ln := ln) hx hy)
  clear hw hn hwl hjl hjs hfn
  generalize str (joinW ws) = SJ at *
  generalize hq : pInstr p ln ws = Q at *
  clear hq
  go_enter Tryz.func200, Tryz.ntmps200
  go_wp2_with fail
  refine HJ.out.mono ?_
  rintro e w1 ⟨rfl, k1⟩
  go_wp2_with fail
  refine (HRd.out w1 k1).mono ?_
  rintro e w2 ⟨vv, rfl, hrv, k2'⟩
  have k2 := keepN k1 k2'
  clear k1 k2' HJ HRd
  rcases HRR.out vv hrv with ⟨⟨xo, xa, xb⟩, hx, hok, rfl⟩ | ⟨hx, rfl⟩
  ·have HQ := Lib.hid (HQ1.out _ hx)
   have HI := Lib.hid (allI_one hok)
   clear hx hok hrv HQ1 HQ2 HQ3 HMe HRR
   dsimp only [O.instV]
   have k3 : Keep NoB W (w2.alloc (.cells #[.int .i64 xo, .int .i64 xa, .int .i64 xb] 55)) := k2.alloc _
   have b5 := Blk.new w2 55 #[.int .i64 xo, .int .i64 xa, .int .i64 xb]
   have hb5 : W.heap.size ≤ w2.heap.size := k2.size
   have HTb : Hid (T w2.heap.size = .no) := HPa.out.new hb5
   have HR2 := Lib.hid (HR.out.keepN k3)
   have HRN := Lib.hid (rnd_keep (T := T) k3)
   have HX0 : Hid (PS.to (addX p (xo, xa, xb) p.ms) p.last = ⟨⟨p.im.sh, upd (fun f => { f with bd := f.bd ++ [(xo, xa, xb)] }) p.im.fn⟩, p.last, p.nums, p.labs, p.ms⟩) := rfl
   generalize hgb : w2.heap.size = gb at *
   clear k2
   obtain ⟨W3, hW3⟩ : ∃ W3, (w2.alloc (.cells #[.int .i64 xo, .int .i64 xa, .int .i64 xb] 55)) = W3 := ⟨_, rfl⟩
   rw [hW3] at HR2 b5 HRN
   obtain ⟨hk0, v, es, fs, ls, R, F, hln2, hr⟩ := HR2.out
   obtain ⟨fs', e0, g1, hfs, hY, hny, hcl, hfz⟩ := rdr_split hr (by exact hf)
   subst hfs
   have hnyb := hr.by_
   obtain ⟨_, d1, _⟩ := rd_cells hr.bk
   rw [hY, hny] at d1
   have hkb : fs'.length ≤ 300000 := by simp at hnyb; omega
   have HCur := Lib.hid (current_any W3 rb g1 fs'.length v.cy d1 (by omega))
   have HX4 := Lib.hid (hcl 4 _ (by omega) (show e0.1.cells.toList[4]? = some (.slice e0.1.D e0.1.nd e0.1.cd) from rfl))
   have HFZ := Lib.hid hfz
   have hl0 : (fs' ++ [e0])[fs'.length]'(by simp) = e0 := by simp
   have hndb : e0.1.nd ≤ 300001 := by
    have h5 := hr.rbd fs'.length (by simp)
    have h6 := (hr.pa.row (.bd fs'.length) ⟨Tg.noConfusion, Tg.noConfusion⟩).1.1
    rw [h5, hl0] at h6
    have h7 : (C.iis e0.2.bd).length = e0.1.nd * 3 := h6
    rw [C.iis_length] at h7
    have h8 := hr.bd fs'.length (by simp)
    rw [hl0] at h8
    omega
   have HW := Lib.hid hr
   have HK2 := Lib.hid hk0
   have HLn := Lib.hid hln2
   have HB5 := Lib.hid b5
   clear hr hk0 hln2 hcl hfz d1 hnyb b5
   go_wp2_with fail
   refine HCur.out.mono ?_
   rintro e w4 ⟨rfl, q, rfl⟩
   have k4 : Keep NoB W3 (W3.drewN q) := (Keep.refl NoB W3).drewN q
   clear hW3 HCur
   generalize W3.drewN q = W4 at *
   go_wp2_with fail
   have x4 := k4.cell HX4.out id
   have b5 := HB5.out.keep k4 id
   have z0 := b5.cell 0
   have z1 := b5.cell 1
   have z2 := b5.cell 2
   simp only [List.getElem?_toArray, List.getElem?_cons_zero, List.getElem?_cons_succ] at z0 z1 z2
   obtain ⟨i0, hi0, hz0, hz1, hz2⟩ := info_parts inM_info
   have hrbd := HW.out.rbd fs'.length (by simp)
   rw [hl0] at hrbd
   have hroO : Own W4 55 3 (fun k => T k = .bd fs'.length) (.slice e0.1.D e0.1.nd e0.1.cd) e0.1.nd (C.iis e0.2.bd) := by
    have h5 := HW.out.pa.row (.bd fs'.length) ⟨Tg.noConfusion, Tg.noConfusion⟩
    rw [hrbd] at h5
    exact Own.keepN h5 k4
   have hro := hroO.1
   have hOl : ∀ k, some k = (Value.slice e0.1.D e0.1.nd e0.1.cd).ownBlock → k < W4.heap.size := fun k e => by
    have h5 : T k = .bd fs'.length := hroO.2 k e.symm
    exact Nat.lt_of_lt_of_le (HW.out.pa.fit k (by rw [h5]; exact Tg.noConfusion)).2 k4.size
   have hnR : ¬ some g1 = (Value.slice e0.1.D e0.1.nd e0.1.cd).ownBlock := fun e => by
    have h5 : T g1 = .bd fs'.length := hroO.2 g1 e.symm
    have h6 := HW.out.pa.row .fn ⟨Tg.noConfusion, Tg.noConfusion⟩
    rw [HW.out.rfn, hY] at h6
    have h7 : T g1 = .fn := h6.2 g1 rfl
    rw [h5] at h7; cases h7
   have hnG : ¬ some gb = (Value.slice e0.1.D e0.1.nd e0.1.cd).ownBlock := fun e => by
    have h5 : T gb = .bd fs'.length := hroO.2 _ e.symm
    rw [HTb.out] at h5; cases h5
   clear hroO b5 hrbd hl0
   refine wp_region_tail7 (fun i => [31, 32, 33, 34, 35, 36, 37, 38].getD i 0) 8 (by kernel_rfl) (by kernel_rfl) (by kernel_rfl) (by kernel_rfl) (by kernel_rfl) 7 (fun k => some k = (Value.slice e0.1.D e0.1.nd e0.1.cd).ownBlock) (SAp W4 55 3 (.slice e0.1.D e0.1.nd e0.1.cd) e0.1.nd (C.iis e0.2.bd) [.int .i64 xo, .int .i64 xa, .int .i64 xb] [.pointer (some ⟨g1, fs'.length * 5, none⟩), .pointer (some ⟨g1, fs'.length * 5, none⟩), .pointer (some ⟨g1, fs'.length * 5, none⟩), .pointer (some ⟨g1, fs'.length * 5 + 4, none⟩), .slice e0.1.D e0.1.nd e0.1.cd, .agg #[.int .i64 xo, .int .i64 xa, .int .i64 xb]]) (fun i u x y hne h hk => SAp_stable W4 hOl _ _ _ _ _ _ _ i u x y hne h hk) (fun u x y h hk => AppR.keepN h hk) rfl ?step ?spec ?fin
   case step =>
    intro i o a w' hoo hi hic hF hK hA
    by_cases h0 : i = 0
    ·subst h0
     simp only [List.getElem?_toArray, List.getElem?_cons_zero, Option.some.injEq] at hoo
     subst hoo
     have e7 : a.tmps.getD 7 undef = .pointer (some ⟨g1, fs'.length * 5, none⟩) := hF.2.2 7 (by decide)
     refine Does.plain rfl ?_
     unfold yieldsK
     go_simp
     exact ⟨rfl, Keep.refl _ _⟩
    by_cases h1 : i = 1
    ·subst h1
     simp only [List.getElem?_toArray, List.getElem?_cons_zero, List.getElem?_cons_succ, Option.some.injEq] at hoo
     subst hoo
     have e7 : a.tmps.getD 7 undef = .pointer (some ⟨g1, fs'.length * 5, none⟩) := hF.2.2 7 (by decide)
     refine Does.plain rfl ?_
     unfold yieldsK
     go_simp
     exact ⟨rfl, Keep.refl _ _⟩
    by_cases h2 : i = 2
    ·subst h2
     simp only [List.getElem?_toArray, List.getElem?_cons_zero, List.getElem?_cons_succ, Option.some.injEq] at hoo
     subst hoo
     have e32 : a.tmps.getD 32 undef = .pointer (some ⟨g1, fs'.length * 5, none⟩) := hA ⟨1, .data⟩ (by simp) rfl
     refine Does.plain rfl ?_
     unfold yieldsK
     go_simp
     exact ⟨rfl, Keep.refl _ _⟩
    by_cases h3 : i = 3
    ·subst h3
     simp only [List.getElem?_toArray, List.getElem?_cons_zero, List.getElem?_cons_succ, Option.some.injEq] at hoo
     subst hoo
     have e33 : a.tmps.getD 33 undef = .pointer (some ⟨g1, fs'.length * 5, none⟩) := hA ⟨2, .data⟩ (by simp) rfl
     refine Does.plain rfl ?_
     unfold yieldsK
     go_simp
     exact ⟨rfl, Keep.refl _ _⟩
    by_cases h4 : i = 4
    ·subst h4
     simp only [List.getElem?_toArray, List.getElem?_cons_zero, List.getElem?_cons_succ, Option.some.injEq] at hoo
     subst hoo
     have e34 : a.tmps.getD 34 undef = .pointer (some ⟨g1, fs'.length * 5 + 4, none⟩) := hA ⟨3, .data⟩ (by simp) rfl
     have q0 := Keep.cell hK x4 hnR
     refine Does.plain rfl ?_
     unfold yieldsK
     go_simp
     exact ⟨rfl, Keep.refl _ _⟩
    by_cases h5 : i = 5
    ·subst h5
     simp only [List.getElem?_toArray, List.getElem?_cons_zero, List.getElem?_cons_succ, Option.some.injEq] at hoo
     subst hoo
     have e5 : a.tmps.getD 5 undef = .pointer (some ⟨gb, 0, none⟩) := hF.2.2 5 (by decide)
     have q0 := Keep.cell hK z0 hnG
     have q1 := Keep.cell hK z1 hnG
     have q2 := Keep.cell hK z2 hnG
     refine Does.plain rfl ?_
     unfold yieldsK
     go_simp
     exact ⟨rfl, Keep.refl _ _⟩
    by_cases h6 : i = 6
    ·subst h6
     simp only [List.getElem?_toArray, List.getElem?_cons_zero, List.getElem?_cons_succ, Option.some.injEq] at hoo
     subst hoo
     have e36 : a.tmps.getD 36 undef = .agg #[.int .i64 xo, .int .i64 xa, .int .i64 xb] := hA ⟨5, .data⟩ (by simp) rfl
     refine Does.plain rfl ?_
     unfold yieldsK
     simp only [Array.getD_eq_getD_getElem?] at e36
     go_simp
     exact ⟨⟨w'.heap.size, hK.size, rfl, Blk.new _ _ _⟩, (Keep.refl _ _).alloc _⟩
    omega
   case spec =>
    intro o a w' hoo hF hK hA
    simp only [List.getElem?_toArray, List.getElem?_cons_zero, List.getElem?_cons_succ, Option.some.injEq] at hoo
    subst hoo
    have e35 : a.tmps.getD 35 undef = .slice e0.1.D e0.1.nd e0.1.cd := hA ⟨4, .data⟩ (by simp) rfl
    obtain ⟨g8, hg8, e37, b8⟩ := hA ⟨6, .data⟩ (by simp) rfl
    have e37 : a.tmps.getD 37 undef = .slice (some ⟨g8, 0, none⟩) 1 1 := e37
    refine Does.plain rfl ?_
    refine yields_append (.tmp 35) (.tmp 37) _ rfl 55 3 24 i0 _ Tryz.underlying35 hi0 hz0 hz1 hz2 rfl (by decide) (.slice e0.1.D e0.1.nd e0.1.cd) e0.1.nd (C.iis e0.2.bd) (some ⟨g8, 0, none⟩) 1 1 [.int .i64 xo, .int .i64 xa, .int .i64 xb] e35 (ownsRow_keep hro hK (fun _ _ => id)) e37 (rd_blkM (xs := [.int .i64 xo, .int .i64 xa, .int .i64 xb]) b8) rfl (by simp [Value.oneCell']) (by unfold maxLen; omega) (by omega) ?_
    intro A3 c3 W3a h2 h3 h4
    exact ⟨⟨w', W3a, A3, c3, rfl, hK, h3, h2, h4, Keep.refl _ _⟩, (Keep.refl _ _).grown h3 (fun g e _ => e.symm)⟩
   case fin =>
    intro a w' hF gK hA
    have e31 : a.tmps.getD 31 undef = .pointer (some ⟨g1, fs'.length * 5, none⟩) := hA 0 (by decide)
    obtain ⟨Wd, Wc, Y9, cy9, e38, kd, hg5, hrow5, hv5, ke⟩ := hA 7 (by decide)
    have e38 : a.tmps.getD 38 undef = .slice Y9 (e0.1.nd + 1) cy9 := e38
    have ha := frameD_list (l := [31, 32, 33, 34, 35, 36, 37, 38]) rfl hF
    rw [ha]
    simp only [List.map_cons, List.map_nil, e31, e38]
    generalize a.tmps.getD 32 undef = u1
    generalize a.tmps.getD 33 undef = u2
    generalize a.tmps.getD 34 undef = u3
    generalize a.tmps.getD 35 undef = u4
    generalize a.tmps.getD 36 undef = u5
    generalize a.tmps.getD 37 undef = u6
    simp only [fillD, List.setIfInBounds_toArray, List.set_cons_zero, List.set_cons_succ]
    have hgw : g1 < W4.heap.size := World.block_lt_of_cell? W4 _ x4
    have hblk : w'.heap[g1]? = W4.heap[g1]? := (ke.block g1 (by have := hg5.size; have := kd.size; omega) id).trans ((hg5.block g1 (Nat.lt_of_lt_of_le hgw kd.size) hnR).trans (kd.block g1 hgw id))
    have y1 : w'.cell? ⟨g1, fs'.length * 5 + 4, none⟩ = some (.slice e0.1.D e0.1.nd e0.1.cd) := (World.cell?_of_block hblk).trans x4
    have f1 : ∀ j, w'.frozen? ⟨g1, j, none⟩ = false := fun j => by
     have h5 := frozen_keep (HFZ.out j) k4 (World.block_lt_of_cell? W3 _ HX4.out)
     unfold World.frozen? at h5 ⊢
     rw [hblk]; exact h5
    have l1 : g1 < w'.heap.size := World.block_lt_of_cell? w' _ y1
    have HG := Lib.hid (And.intro (keepN k4 kd) (And.intro hg5 (And.intro hrow5 (And.intro hv5 ke))))
    clear hA hF ha e31 e38 x4 gK kd hg5 hrow5 hv5 ke hro hnR hnG z0 z1 z2 hblk k4
    simp only [List.drop_succ_cons, List.drop_zero]
    go_wp2
    go_ret
    obtain ⟨g1', g2, g3, g4, g5⟩ := HG.out
    obtain ⟨T', r1, fs2, R', hr'⟩ := rdr_body (x := (xo, xa, xb)) HW.out HK2.out.size g1' (by omega) HI.out hY g2 g3 g4 g5
    refine ⟨T', HRN.out.trans r1, .inr ⟨_, HQ.out, rfl, ?_⟩⟩
    rw [HX0.out]
    exact ⟨keep_rnd HW.out.pa HK2.out r1, v, es, fs2, ls, R', F, HLn.out, hr'.more⟩
  ·clear hrv
   dsimp only [O.instV]
   have k3 : Keep NoB W (w2.alloc (.cells #[.int .i64 0, .int .i64 0, .int .i64 0] 55)) := k2.alloc _
   have b5 := Blk.new w2 55 #[.int .i64 0, .int .i64 0, .int .i64 0]
   have hb5 : W.heap.size ≤ w2.heap.size := k2.size
   go_wp2_with fail
   refine (HMe.out _ k3).mono ?_
   rintro e w5 ⟨T', hrd, ⟨hq, rfl, hr5⟩ | ⟨op, b, hq, rfl, hr5⟩⟩
   ·obtain ⟨hA1, hA2⟩ := box3 k3 hrd hr5 HK.out hb5 (HPa.out.new hb5) (Nat.lt_of_lt_of_eq (Nat.lt_succ_self _) (by simp)) b5 0 0 0 rfl
    have hQ := HQ3.out hx hq
    have b6 := hA2.1
    clear hx hq
    dsimp only [O.instV]
    generalize hgb : w2.heap.size = gb at *
    have z0 := b6.lt
    have fo := fun i => b6.frozen i
    obtain ⟨o0, o1, o2⟩ := O.blk_inst b6
    clear b6
    go_wp2
    go_ret
    exact ⟨T', hA2.2.2.2, .inl ⟨hQ, rfl, hA1⟩⟩
   ·obtain ⟨hA1, hA2⟩ := box3 k3 hrd hr5 HK.out hb5 (HPa.out.new hb5) (Nat.lt_of_lt_of_eq (Nat.lt_succ_self _) (by simp)) b5 op 0 0 rfl
    have HQ := Lib.hid (HQ2.out op b hx hq)
    have HI := Lib.hid (allI_op op)
    have b6 := hA2.1
    have HTb := Lib.hid hA2.2.1
    have b5' := hA2.2.2.1
    have HRN := Lib.hid hA2.2.2.2
    have HR2 := Lib.hid hA1
    clear hx hq HQ1 HQ2 HQ3 HRR HMe hA1 hA2 b5 hr5 hrd k3 k2
    dsimp only [O.instV]
    generalize hgb : w2.heap.size = gb at *
    have zl := b6.lt
    have zf := fun i => b6.frozen i
    obtain ⟨o0, o1, o2⟩ := O.blk_inst b6
    clear b6
    have b5 := b5'
    clear b5'
    generalize hPP : (⟨p.im, p.last, p.nums, p.labs, p.ms ++ [⟨ln, p.im.fn.length - 1, (lastFn p).bd.length, b, kindA (op : Int)⟩]⟩ : PS) = P2 at *
    have hf : P2.im.fn ≠ [] := by subst hPP; exact hf
    have HX0 : Hid (PS.to (addX p ((op : Int), 0, 0) (p.ms ++ [⟨ln, p.im.fn.length - 1, (lastFn p).bd.length, b, kindA (op : Int)⟩])) p.last = ⟨⟨P2.im.sh, upd (fun f => { f with bd := f.bd ++ [((op : Int), 0, 0)] }) P2.im.fn⟩, P2.last, P2.nums, P2.labs, P2.ms⟩) := by subst hPP; rfl
    obtain ⟨W3, hW3⟩ : ∃ W3, (((w5.setCell ⟨gb, 0, none⟩ (.int .i64 (op : Int))).setCell ⟨gb, 1, none⟩ (.int .i64 0)).setCell ⟨gb, 2, none⟩ (.int .i64 0)) = W3 := ⟨_, rfl⟩
    rw [hW3] at HR2 b5 HRN
    obtain ⟨hk0, v, es, fs, ls, R, F, hln2, hr⟩ := HR2.out
    obtain ⟨fs', e0, g1, hfs, hY, hny, hcl, hfz⟩ := rdr_split hr (by exact hf)
    subst hfs
    have hnyb := hr.by_
    obtain ⟨_, d1, _⟩ := rd_cells hr.bk
    rw [hY, hny] at d1
    have hkb : fs'.length ≤ 300000 := by simp at hnyb; omega
    have HCur := Lib.hid (current_any W3 rb g1 fs'.length v.cy d1 (by omega))
    have HX4 := Lib.hid (hcl 4 _ (by omega) (show e0.1.cells.toList[4]? = some (.slice e0.1.D e0.1.nd e0.1.cd) from rfl))
    have HFZ := Lib.hid hfz
    have hl0 : (fs' ++ [e0])[fs'.length]'(by simp) = e0 := by simp
    have hndb : e0.1.nd ≤ 300001 := by
     have h5 := hr.rbd fs'.length (by simp)
     have h6 := (hr.pa.row (.bd fs'.length) ⟨Tg.noConfusion, Tg.noConfusion⟩).1.1
     rw [h5, hl0] at h6
     have h7 : (C.iis e0.2.bd).length = e0.1.nd * 3 := h6
     rw [C.iis_length] at h7
     have h8 := hr.bd fs'.length (by simp)
     rw [hl0] at h8
     omega
    have HW := Lib.hid hr
    have HK2 := Lib.hid hk0
    have HLn := Lib.hid hln2
    have HB5 := Lib.hid b5
    clear hr hk0 hln2 hcl hfz d1 hnyb b5
    go_wp2_with fail
    refine HCur.out.mono ?_
    rintro e w4 ⟨rfl, q, rfl⟩
    have k4 : Keep NoB W3 (W3.drewN q) := (Keep.refl NoB W3).drewN q
    clear hW3 HCur
    generalize W3.drewN q = W4 at *
    go_wp2_with fail
    have x4 := k4.cell HX4.out id
    have b5 := HB5.out.keep k4 id
    have z0 := b5.cell 0
    have z1 := b5.cell 1
    have z2 := b5.cell 2
    simp only [List.getElem?_toArray, List.getElem?_cons_zero, List.getElem?_cons_succ] at z0 z1 z2
    obtain ⟨i0, hi0, hz0, hz1, hz2⟩ := info_parts inM_info
    have hrbd := HW.out.rbd fs'.length (by simp)
    rw [hl0] at hrbd
    have hroO : Own W4 55 3 (fun k => T' k = .bd fs'.length) (.slice e0.1.D e0.1.nd e0.1.cd) e0.1.nd (C.iis e0.2.bd) := by
     have h5 := HW.out.pa.row (.bd fs'.length) ⟨Tg.noConfusion, Tg.noConfusion⟩
     rw [hrbd] at h5
     exact Own.keepN h5 k4
    have hro := hroO.1
    have hOl : ∀ k, some k = (Value.slice e0.1.D e0.1.nd e0.1.cd).ownBlock → k < W4.heap.size := fun k e => by
     have h5 : T' k = .bd fs'.length := hroO.2 k e.symm
     exact Nat.lt_of_lt_of_le (HW.out.pa.fit k (by rw [h5]; exact Tg.noConfusion)).2 k4.size
    have hnR : ¬ some g1 = (Value.slice e0.1.D e0.1.nd e0.1.cd).ownBlock := fun e => by
     have h5 : T' g1 = .bd fs'.length := hroO.2 g1 e.symm
     have h6 := HW.out.pa.row .fn ⟨Tg.noConfusion, Tg.noConfusion⟩
     rw [HW.out.rfn, hY] at h6
     have h7 : T' g1 = .fn := h6.2 g1 rfl
     rw [h5] at h7; cases h7
    have hnG : ¬ some gb = (Value.slice e0.1.D e0.1.nd e0.1.cd).ownBlock := fun e => by
     have h5 : T' gb = .bd fs'.length := hroO.2 _ e.symm
     rw [HTb.out] at h5; cases h5
    clear hroO b5 hrbd hl0
    refine wp_region_tail7 (fun i => [31, 32, 33, 34, 35, 36, 37, 38].getD i 0) 8 (by kernel_rfl) (by kernel_rfl) (by kernel_rfl) (by kernel_rfl) (by kernel_rfl) 7 (fun k => some k = (Value.slice e0.1.D e0.1.nd e0.1.cd).ownBlock) (SAp W4 55 3 (.slice e0.1.D e0.1.nd e0.1.cd) e0.1.nd (C.iis e0.2.bd) [.int .i64 (op : Int), .int .i64 0, .int .i64 0] [.pointer (some ⟨g1, fs'.length * 5, none⟩), .pointer (some ⟨g1, fs'.length * 5, none⟩), .pointer (some ⟨g1, fs'.length * 5, none⟩), .pointer (some ⟨g1, fs'.length * 5 + 4, none⟩), .slice e0.1.D e0.1.nd e0.1.cd, .agg #[.int .i64 (op : Int), .int .i64 0, .int .i64 0]]) (fun i u x y hne h hk => SAp_stable W4 hOl _ _ _ _ _ _ _ i u x y hne h hk) (fun u x y h hk => AppR.keepN h hk) rfl ?step ?spec ?fin
    case step =>
     intro i o a w' hoo hi hic hF hK hA
     by_cases h0 : i = 0
     ·subst h0
      simp only [List.getElem?_toArray, List.getElem?_cons_zero, Option.some.injEq] at hoo
      subst hoo
      have e7 : a.tmps.getD 7 undef = .pointer (some ⟨g1, fs'.length * 5, none⟩) := hF.2.2 7 (by decide)
      refine Does.plain rfl ?_
      unfold yieldsK
      go_simp
      exact ⟨rfl, Keep.refl _ _⟩
     by_cases h1 : i = 1
     ·subst h1
      simp only [List.getElem?_toArray, List.getElem?_cons_zero, List.getElem?_cons_succ, Option.some.injEq] at hoo
      subst hoo
      have e7 : a.tmps.getD 7 undef = .pointer (some ⟨g1, fs'.length * 5, none⟩) := hF.2.2 7 (by decide)
      refine Does.plain rfl ?_
      unfold yieldsK
      go_simp
      exact ⟨rfl, Keep.refl _ _⟩
     by_cases h2 : i = 2
     ·subst h2
      simp only [List.getElem?_toArray, List.getElem?_cons_zero, List.getElem?_cons_succ, Option.some.injEq] at hoo
      subst hoo
      have e32 : a.tmps.getD 32 undef = .pointer (some ⟨g1, fs'.length * 5, none⟩) := hA ⟨1, .data⟩ (by simp) rfl
      refine Does.plain rfl ?_
      unfold yieldsK
      go_simp
      exact ⟨rfl, Keep.refl _ _⟩
     by_cases h3 : i = 3
     ·subst h3
      simp only [List.getElem?_toArray, List.getElem?_cons_zero, List.getElem?_cons_succ, Option.some.injEq] at hoo
      subst hoo
      have e33 : a.tmps.getD 33 undef = .pointer (some ⟨g1, fs'.length * 5, none⟩) := hA ⟨2, .data⟩ (by simp) rfl
      refine Does.plain rfl ?_
      unfold yieldsK
      go_simp
      exact ⟨rfl, Keep.refl _ _⟩
     by_cases h4 : i = 4
     ·subst h4
      simp only [List.getElem?_toArray, List.getElem?_cons_zero, List.getElem?_cons_succ, Option.some.injEq] at hoo
      subst hoo
      have e34 : a.tmps.getD 34 undef = .pointer (some ⟨g1, fs'.length * 5 + 4, none⟩) := hA ⟨3, .data⟩ (by simp) rfl
      have q0 := Keep.cell hK x4 hnR
      refine Does.plain rfl ?_
      unfold yieldsK
      go_simp
      exact ⟨rfl, Keep.refl _ _⟩
     by_cases h5 : i = 5
     ·subst h5
      simp only [List.getElem?_toArray, List.getElem?_cons_zero, List.getElem?_cons_succ, Option.some.injEq] at hoo
      subst hoo
      have e5 : a.tmps.getD 5 undef = .pointer (some ⟨gb, 0, none⟩) := hF.2.2 5 (by decide)
      have q0 := Keep.cell hK z0 hnG
      have q1 := Keep.cell hK z1 hnG
      have q2 := Keep.cell hK z2 hnG
      refine Does.plain rfl ?_
      unfold yieldsK
      go_simp
      exact ⟨rfl, Keep.refl _ _⟩
     by_cases h6 : i = 6
     ·subst h6
      simp only [List.getElem?_toArray, List.getElem?_cons_zero, List.getElem?_cons_succ, Option.some.injEq] at hoo
      subst hoo
      have e36 : a.tmps.getD 36 undef = .agg #[.int .i64 (op : Int), .int .i64 0, .int .i64 0] := hA ⟨5, .data⟩ (by simp) rfl
      refine Does.plain rfl ?_
      unfold yieldsK
      simp only [Array.getD_eq_getD_getElem?] at e36
      go_simp
      exact ⟨⟨w'.heap.size, hK.size, rfl, Blk.new _ _ _⟩, (Keep.refl _ _).alloc _⟩
     omega
    case spec =>
     intro o a w' hoo hF hK hA
     simp only [List.getElem?_toArray, List.getElem?_cons_zero, List.getElem?_cons_succ, Option.some.injEq] at hoo
     subst hoo
     have e35 : a.tmps.getD 35 undef = .slice e0.1.D e0.1.nd e0.1.cd := hA ⟨4, .data⟩ (by simp) rfl
     obtain ⟨g8, hg8, e37, b8⟩ := hA ⟨6, .data⟩ (by simp) rfl
     have e37 : a.tmps.getD 37 undef = .slice (some ⟨g8, 0, none⟩) 1 1 := e37
     refine Does.plain rfl ?_
     refine yields_append (.tmp 35) (.tmp 37) _ rfl 55 3 24 i0 _ Tryz.underlying35 hi0 hz0 hz1 hz2 rfl (by decide) (.slice e0.1.D e0.1.nd e0.1.cd) e0.1.nd (C.iis e0.2.bd) (some ⟨g8, 0, none⟩) 1 1 [.int .i64 (op : Int), .int .i64 0, .int .i64 0] e35 (ownsRow_keep hro hK (fun _ _ => id)) e37 (rd_blkM (xs := [.int .i64 (op : Int), .int .i64 0, .int .i64 0]) b8) rfl (by simp [Value.oneCell']) (by unfold maxLen; omega) (by omega) ?_
     intro A3 c3 W3a h2 h3 h4
     exact ⟨⟨w', W3a, A3, c3, rfl, hK, h3, h2, h4, Keep.refl _ _⟩, (Keep.refl _ _).grown h3 (fun g e _ => e.symm)⟩
    case fin =>
     intro a w' hF gK hA
     have e31 : a.tmps.getD 31 undef = .pointer (some ⟨g1, fs'.length * 5, none⟩) := hA 0 (by decide)
     obtain ⟨Wd, Wc, Y9, cy9, e38, kd, hg5, hrow5, hv5, ke⟩ := hA 7 (by decide)
     have e38 : a.tmps.getD 38 undef = .slice Y9 (e0.1.nd + 1) cy9 := e38
     have ha := frameD_list (l := [31, 32, 33, 34, 35, 36, 37, 38]) rfl hF
     rw [ha]
     simp only [List.map_cons, List.map_nil, e31, e38]
     generalize a.tmps.getD 32 undef = u1
     generalize a.tmps.getD 33 undef = u2
     generalize a.tmps.getD 34 undef = u3
     generalize a.tmps.getD 35 undef = u4
     generalize a.tmps.getD 36 undef = u5
     generalize a.tmps.getD 37 undef = u6
     simp only [fillD, List.setIfInBounds_toArray, List.set_cons_zero, List.set_cons_succ]
     have hgw : g1 < W4.heap.size := World.block_lt_of_cell? W4 _ x4
     have hblk : w'.heap[g1]? = W4.heap[g1]? := (ke.block g1 (by have := hg5.size; have := kd.size; omega) id).trans ((hg5.block g1 (Nat.lt_of_lt_of_le hgw kd.size) hnR).trans (kd.block g1 hgw id))
     have y1 : w'.cell? ⟨g1, fs'.length * 5 + 4, none⟩ = some (.slice e0.1.D e0.1.nd e0.1.cd) := (World.cell?_of_block hblk).trans x4
     have f1 : ∀ j, w'.frozen? ⟨g1, j, none⟩ = false := fun j => by
      have h5 := frozen_keep (HFZ.out j) k4 (World.block_lt_of_cell? W3 _ HX4.out)
      unfold World.frozen? at h5 ⊢
      rw [hblk]; exact h5
     have l1 : g1 < w'.heap.size := World.block_lt_of_cell? w' _ y1
     have HG := Lib.hid (And.intro (keepN k4 kd) (And.intro hg5 (And.intro hrow5 (And.intro hv5 ke))))
     clear hA hF ha e31 e38 x4 gK kd hg5 hrow5 hv5 ke hro hnR hnG z0 z1 z2 hblk k4
     simp only [List.drop_succ_cons, List.drop_zero]
     go_wp2
     go_ret
     obtain ⟨g1', g2, g3, g4, g5⟩ := HG.out
     obtain ⟨T'', r1, fs2, R', hr'⟩ := rdr_body (x := ((op : Int), 0, 0)) HW.out HK2.out.size g1' (by omega) HI.out hY g2 g3 g4 g5
     refine ⟨T'', HRN.out.trans r1, .inr ⟨_, HQ.out, rfl, ?_⟩⟩
     rw [HX0.out]
     exact ⟨keep_rnd HW.out.pa HK2.out r1, v, es, fs2, ls, R', F, HLn.out, hr'⟩
 ·have HP := Lib.hid (pInstr_no1 (ln := ln) (ws := ws) h1)
  have hl0 : p.last = 0 := by omega
  rw [hl0] at c3
  go_enter Tryz.func200, Tryz.ntmps200
  go_wp2
  go_ret
  exact try_no HR.out (Keep.refl _ _) HP.out

end Go.Proofs.YtgnooffedmeenaaGreatDoor.M

namespace Go
theorem wpIn_scope_wide {P : Program} {n : Nat} {c : Code} {Q : Exit → Act → World → Prop} {a : Act} {w : World} (h : c.wpIn Fence.wide n P (Exit.noGoto Q) a w) : (Code.scope c).wpIn Fence.wide n P Q a w :=
 wpIn_wide.2 (wp_scope_straight (wpIn_wide.1 h))
end Go
namespace Go.Proofs.YtgnooffedmeenaaGreatDoor.M
open Go.RowKit W

section
variable {w0 W W' : World} {T T' : Nat → Tg} {rb N ln : Nat} {p : PS}
theorem RdAt.far (h : RdAt w0 W T rb p N ln) {O : Nat → Prop} (hk : Keep O W W') (hO : ∀ k, O k → T k = .no ∧ w0.heap.size ≤ k) : RdAt w0 W' T rb p N ln := by
 obtain ⟨h1, v, es, fs, ls, R, F, h2, h3⟩ := h
 exact ⟨h1.trans hk (fun k h hl => by have := (hO k h).2; omega), v, es, fs, ls, R, F, h2, { h3 with pa := h3.pa.keep hk (fun k e => by rw [(hO k e).1]; exact fun h => h.1 rfl), bk := h3.bk.keep hk (fun h => by have h4 := (hO _ h).1; rw [h3.tb] at h4; cases h4) }⟩
theorem RdAt.tag (h : RdAt w0 W T rb p N ln) : T rb = .rd ∧ (w0.heap.size ≤ rb ∧ rb < W.heap.size) := by
 obtain ⟨h1, v, es, fs, ls, R, F, h2, h3⟩ := h
 exact ⟨h3.tb, h3.pa.fit rb (by rw [h3.tb]; exact Tg.noConfusion)⟩
theorem RdAt.new (h : RdAt w0 W T rb p N ln) {k : Nat} (hk : W.heap.size ≤ k) : T k = .no := by
 obtain ⟨h1, v, es, fs, ls, R, F, h2, h3⟩ := h
 exact h3.pa.new hk
theorem RdAt.below (h : RdAt w0 W T rb p N ln) {k : Nat} (hk : k < w0.heap.size) : T k = .no := by
 obtain ⟨h1, v, es, fs, ls, R, F, h2, h3⟩ := h
 apply Classical.byContradiction
 intro hn
 have := (h3.pa.fit k hn).1
 omega
theorem RdAt.bk (h : RdAt w0 W T rb p N ln) : ∃ v : RV, Blk W rb 115 v.cells := by
 obtain ⟨h1, v, es, fs, ls, R, F, h2, h3⟩ := h
 exact ⟨v, h3.bk⟩
theorem RdAt.line (h : RdAt w0 W T rb p N ln) (n : Nat) : RdAt w0 (W.setCell ⟨rb, 2, none⟩ (.int .i64 (n : Int))) T rb p N n ∧ Rnd (BS T) (BS T) W (W.setCell ⟨rb, 2, none⟩ (.int .i64 (n : Int))) := by
 have ht := h.tag
 obtain ⟨h1, v, es, fs, ls, R, F, h2, h3⟩ := h
 obtain ⟨q, r⟩ := h3.pa.cell (i := 2) (u := .int .i64 (n : Int)) h3.tb
 exact ⟨⟨h1.setCell (p := ⟨rb, 2, none⟩) (fun h => by have h : rb < w0.heap.size := h; omega) _, { v with ln := n }, es, fs, ls, R, F, rfl, { h3 with pa := q, bk := h3.bk.put 2 _ }⟩, r⟩
theorem RdAt.last (h : RdAt w0 W T rb p N ln) (n : Nat) : RdAt w0 (W.setCell ⟨rb, 3, none⟩ (.int .i64 (n : Int))) T rb (p.to n) N ln ∧ Rnd (BS T) (BS T) W (W.setCell ⟨rb, 3, none⟩ (.int .i64 (n : Int))) := by
 have ht := h.tag
 obtain ⟨h1, v, es, fs, ls, R, F, h2, h3⟩ := h
 obtain ⟨q, r⟩ := h3.pa.cell (i := 3) (u := .int .i64 (n : Int)) h3.tb
 exact ⟨⟨h1.setCell (p := ⟨rb, 3, none⟩) (fun h => by have h : rb < w0.heap.size := h; omega) _, { v with la := n }, es, fs, ls, R, F, h2, { h3 with pa := q, bk := h3.bk.put 3 _, la := rfl }⟩, r⟩
end

theorem to_to (p : PS) (a b : Nat) : (p.to a).to b = p.to b := rfl
def LP (T : Nat → Tg) (b : Nat) : BSet := fun k => BS T k ∨ k = b + 1 ∨ k = b + 1 + 1
def fns (rb : Nat) : Array Value := #[.func (.func 196) #[.pointer (some ⟨rb, 0, none⟩)] #[], .func (.func 197) #[.pointer (some ⟨rb, 0, none⟩)] #[], .func (.func 198) #[.pointer (some ⟨rb, 0, none⟩)] #[], .func (.func 199) #[.pointer (some ⟨rb, 0, none⟩)] #[], .func (.func 200) #[.pointer (some ⟨rb, 0, none⟩)] #[]]
theorem try_at0 (rb : Nat) (W : World) : (Instr.index 237 (.agg #[.func (.func 196) #[.pointer (some ⟨rb, 0, none⟩)] #[], .func (.func 197) #[.pointer (some ⟨rb, 0, none⟩)] #[], .func (.func 198) #[.pointer (some ⟨rb, 0, none⟩)] #[], .func (.func 199) #[.pointer (some ⟨rb, 0, none⟩)] #[], .func (.func 200) #[.pointer (some ⟨rb, 0, none⟩)] #[]]) (.int .i64 0)).run Tryz.prog W = .ok (.func (.func 196) #[.pointer (some ⟨rb, 0, none⟩)] #[]) W := by kernel_rfl
theorem try_at1 (rb : Nat) (W : World) : (Instr.index 237 (.agg #[.func (.func 196) #[.pointer (some ⟨rb, 0, none⟩)] #[], .func (.func 197) #[.pointer (some ⟨rb, 0, none⟩)] #[], .func (.func 198) #[.pointer (some ⟨rb, 0, none⟩)] #[], .func (.func 199) #[.pointer (some ⟨rb, 0, none⟩)] #[], .func (.func 200) #[.pointer (some ⟨rb, 0, none⟩)] #[]]) (.int .i64 1)).run Tryz.prog W = .ok (.func (.func 197) #[.pointer (some ⟨rb, 0, none⟩)] #[]) W := by kernel_rfl
theorem try_at2 (rb : Nat) (W : World) : (Instr.index 237 (.agg #[.func (.func 196) #[.pointer (some ⟨rb, 0, none⟩)] #[], .func (.func 197) #[.pointer (some ⟨rb, 0, none⟩)] #[], .func (.func 198) #[.pointer (some ⟨rb, 0, none⟩)] #[], .func (.func 199) #[.pointer (some ⟨rb, 0, none⟩)] #[], .func (.func 200) #[.pointer (some ⟨rb, 0, none⟩)] #[]]) (.int .i64 2)).run Tryz.prog W = .ok (.func (.func 198) #[.pointer (some ⟨rb, 0, none⟩)] #[]) W := by kernel_rfl
theorem try_at3 (rb : Nat) (W : World) : (Instr.index 237 (.agg #[.func (.func 196) #[.pointer (some ⟨rb, 0, none⟩)] #[], .func (.func 197) #[.pointer (some ⟨rb, 0, none⟩)] #[], .func (.func 198) #[.pointer (some ⟨rb, 0, none⟩)] #[], .func (.func 199) #[.pointer (some ⟨rb, 0, none⟩)] #[], .func (.func 200) #[.pointer (some ⟨rb, 0, none⟩)] #[]]) (.int .i64 3)).run Tryz.prog W = .ok (.func (.func 199) #[.pointer (some ⟨rb, 0, none⟩)] #[]) W := by kernel_rfl
theorem try_at4 (rb : Nat) (W : World) : (Instr.index 237 (.agg #[.func (.func 196) #[.pointer (some ⟨rb, 0, none⟩)] #[], .func (.func 197) #[.pointer (some ⟨rb, 0, none⟩)] #[], .func (.func 198) #[.pointer (some ⟨rb, 0, none⟩)] #[], .func (.func 199) #[.pointer (some ⟨rb, 0, none⟩)] #[], .func (.func 200) #[.pointer (some ⟨rb, 0, none⟩)] #[]]) (.int .i64 4)).run Tryz.prog W = .ok (.func (.func 200) #[.pointer (some ⟨rb, 0, none⟩)] #[]) W := by kernel_rfl
structure Bx (w0 : World) (T : Nat → Tg) (b rb : Nat) (W : World) : Prop where
 lo : w0.heap.size ≤ b
 no : ∀ i, i < 4 → T (b + i) = .no
 b0 : Blk W b 108 #[.pointer (some ⟨rb, 0, none⟩)]
 b1 : Blk W (b + 1) 3 #[.int .i64 0]
 b2 : Blk W (b + 1 + 1) 40 #[.int .i64 0]
 b3 : Blk W (b + 1 + 1 + 1) 237 (fns rb)
theorem Bx.rnd {w0 W W' : World} {T T' : Nat → Tg} {b rb : Nat} (h : Bx w0 T b rb W) (hr : Rnd (BS T) (BS T') W W') : Bx w0 T' b rb W' := by
 have hn : ∀ i, i < 4 → ¬ BS T (b + i) := fun i hi h2 => h2 (h.no i hi)
 have hl := h.b3.lt
 refine ⟨h.lo, fun i hi => Classical.byContradiction fun h2 => hn i hi (hr.own (b + i) (by omega) h2), h.b0.keep hr.keep (hn 0 (by omega)), h.b1.keep hr.keep (hn 1 (by omega)), h.b2.keep hr.keep (hn 2 (by omega)), h.b3.keep hr.keep (hn 3 (by omega))⟩
theorem Bx.keep {w0 W W' : World} {T : Nat → Tg} {b rb : Nat} (h : Bx w0 T b rb W) {O : Nat → Prop} (hk : Keep O W W') (hO : ∀ k, O k → b + 4 ≤ k) : Bx w0 T b rb W' :=
 ⟨h.lo, h.no, h.b0.keep hk (fun h => by have := hO _ h; omega), h.b1.keep hk (fun h => by have := hO _ h; omega), h.b2.keep hk (fun h => by have := hO _ h; omega), h.b3.keep hk (fun h => by have := hO _ h; omega)⟩
def LnI (w0 : World) (b rb : Nat) (pre : List (Nat × Bs)) (P : BSet) (W : World) : Prop :=
 ∃ T q N ln, P = LP T b ∧ pRun ps0 (lnsOf pre) = .inl q ∧ (1 ≤ q.last → q.im.fn ≠ []) ∧ N ≤ 2 * pre.length ∧ RdAt w0 W T rb q N ln ∧ Bx w0 T b rb W
def LnX (w0 : World) (b : Nat) (c : Code) (pre : List (Nat × Bs)) (P : BSet) (W : World) : Prop :=
 c = .ret ∧ ∃ T n, P = LP T b ∧ pRun ps0 (lnsOf pre) = .inr n ∧ Keep NoB w0 W ∧ w0.heap.size ≤ b ∧ Blk W (b + 1) 3 #[.int .i64 (n : Int)] ∧ Blk W (b + 1 + 1) 40 #[.int .i64 90]
theorem lnI_out (w0 : World) (b rb B : Nat) (h : b + 4 ≤ B) : KeepsOut B (LnI w0 b rb) := by
 rintro pre p W W' ⟨T, q, N, ln, rfl, h1, h2, h3, h4, h5⟩ hs
 have hlo := h5.lo
 refine ⟨T, q, N, ln, rfl, h1, h2, h3, h4.far hs.keep (fun k hk => ⟨Classical.byContradiction fun hn => hk.2 (.inl hn), by have := hk.1; omega⟩), h5.keep hs.keep (fun k hk => Nat.le_trans h hk.1)⟩
theorem lnX_out (w0 : World) (b B : Nat) (h : b + 4 ≤ B) (c : Code) : KeepsOut B (LnX w0 b c) := by
 rintro pre p W W' ⟨hc, T, n, rfl, h1, h2, h3, h4, h5⟩ hs
 exact ⟨hc, T, n, rfl, h1, h2.trans hs.keep (fun k hk hl => by have := hk.1; omega), h3, h4.keep hs.keep (fun hk => by have := hk.1; omega), h5.keep hs.keep (fun hk => by have := hk.1; omega)⟩
theorem LP_rnd {T T' : Nat → Tg} {b : Nat} {W W' : World} (h : Rnd (BS T) (BS T') W W') : Rnd (LP T b) (LP T' b) W W' :=
 ⟨fun k hk h2 => h2.elim (fun h3 => .inl (h.own k hk h3)) .inr, h.keep.mono (fun _ h2 _ => .inl h2)⟩
theorem try_any (w0 W : World) (T : Nat → Tg) (rb : Nat) (p : PS) (N ln : Nat) (hE : Hid (EnvM w0)) (h : RdAt w0 W T rb p N ln) (hN : N ≤ 299000) (hln : ln ≤ 300000) (hfn : 1 ≤ p.last → p.im.fn ≠ []) (A : Option Addr) (ws : List Bs) (n c : Nat) (hw : Rd W A (sv ws)) (hn : ws.length = n) (h0 : 0 < n) (hnc : n ≤ c) (hwl : ∀ x ∈ ws, x.length ≤ 140000) (hjl : (joinW ws).length ≤ 140000) :
  ∀ k, k < 5 → Calls Tryz.prog (196 + k) #[.pointer (some ⟨rb, 0, none⟩), .slice A n c] W (TryR w0 W T rb p N ln (tryP k p (ln, ws)))
 | 0, _ => readShape_any w0 W T rb p N ln hE h (by omega) A ws n c hw hn hnc hwl
 | 1, _ => readFunction_any w0 W T rb p N ln hE h (by omega) A ws n c hw hn hnc hwl
 | 2, _ => readLocals_any w0 W T rb p N ln hE h (by omega) hfn A ws n c hw hn hnc hwl
 | 3, _ => readLabel_any w0 W T rb p N ln h (by omega) hln hfn A ws n c hw hn h0 hnc hwl
 | 4, _ => readInstruction_any w0 W T rb p N ln hE h hN hln hfn A ws n c hw hn hnc hwl hjl
theorem word_le : ∀ (ws : List Bs), ∀ x ∈ ws, x.length ≤ (joinW ws).length
 | [w], x, hx => by rw [List.mem_singleton.1 hx]; exact Nat.le_refl _
 | w :: v :: ws, x, hx => by
  rw [joinW, List.length_append]
  rcases List.mem_cons.1 hx with rfl | hx
  ·omega
  ·have := word_le (v :: ws) x hx
   simp only [List.length_cons] at this ⊢
   omega
structure LJ (w0 : World) (T0 : Nat → Tg) (b rb : Nat) (q : PS) (N n : Nat) (A : Option Addr) (ws : List Bs) (W0 : World) (T : Nat → Tg) (W : World) : Prop where
 rd : RdAt w0 W T rb q N n
 bx : Bx w0 T b rb W
 ws : Rd W A (sv ws)
 no : ∀ a, A = some a → a.block < W.heap.size ∧ ¬ BS T a.block
 rnd : Rnd (LP T0 b) (LP T b) W0 W
theorem LJ.next {w0 W0 W W' : World} {T0 T T' : Nat → Tg} {b rb N n : Nat} {q : PS} {A : Option Addr} {ws : List Bs} (h : LJ w0 T0 b rb q N n A ws W0 T W) (hr : Rnd (BS T) (BS T') W W') (hd : RdAt w0 W' T' rb q N n) : LJ w0 T0 b rb q N n A ws W0 T' W' :=
 ⟨hd, h.bx.rnd hr, h.ws.keep hr.keep (fun a e => (h.no a e).2), fun a e => ⟨Nat.lt_of_lt_of_le (h.no a e).1 hr.keep.size, fun h2 => (h.no a e).2 (hr.own _ (h.no a e).1 h2)⟩, h.rnd.trans (LP_rnd hr)⟩
def LnsR (w0 : World) (s : Bs) (rb : Nat) (e : Ending) (W' : World) : Prop :=
 Keep NoB w0 W' ∧ ((∃ n : Nat, pRun ps0 (linesL s) = .inr n ∧ e = .returned (.tuple #[.int .i64 (n : Int), .int .i64 90])) ∨ (∃ q T N ln, pRun ps0 (linesL s) = .inl q ∧ e = .returned (.tuple #[.int .i64 0, .int .i64 0]) ∧ RdAt w0 W' T rb q N ln ∧ N ≤ 280000))

end Go.Proofs.YtgnooffedmeenaaGreatDoor.M

namespace Go.Proofs.YtgnooffedmeenaaGreatDoor.M
open Go.RowKit Go.Shelf W
attribute [local go_sem] Oper.semAt_some

set_option maxRecDepth 100000 in
set_option maxHeartbeats 8000000 in
theorem readLines_any (w0 w : World) (T : Nat → Tg) (rb : Nat) (hE : Hid (EnvM w0)) (h : RdAt w0 w T rb ps0 0 0) (S : ByteArray) (s : Bs) (hs : Hid (S.data.toList = s)) (hl : S.size ≤ 140000) :
  Calls Tryz.prog 127 #[.pointer (some ⟨rb, 0, none⟩), .string S] w (LnsR w0 s rb) := by
 have HLi := Lib.hid (fun W => lines_any S W)
 have HR := Lib.hid h
 have hsz := size_of hs.out
 have hlo : w0.heap.size ≤ w.heap.size := h.1.size
 clear h
 refine (callsIn_wide (n := 4)).1 ?_
 refine callsIn_of_wp_marks Tryz.func127 rfl trivial ?_ rfl
 simp only [Tryz.ntmps127, List.size_toArray, List.length_cons, List.length_nil, Nat.reduceAdd, Nat.reduceSub, Array.replicate_succ, Array.replicate_zero, List.push_toArray, List.append_toArray, List.nil_append, List.cons_append]
 gi_wp2
 refine wpIn_scope_wide ?_
 gi_wp2
 have hB : Bx w0 T w.heap.size rb ((((w.alloc (.cells #[.pointer (some ⟨rb, 0, none⟩)] 108)).alloc (.cells #[.int .i64 0] 3)).alloc (.cells #[.int .i64 0] 40)).alloc (.cells (fns rb) 237)) := by
  refine ⟨hlo, fun i _ => HR.out.new (Nat.le_add_right _ _), ?_, ?_, ?_, ?_⟩
  ·exact (((Blk.new w _ _).alloc _).alloc _).alloc _
  ·have := (((Blk.new (w.alloc (.cells #[.pointer (some ⟨rb, 0, none⟩)] 108)) 3 #[.int .i64 0]).alloc (.cells #[.int .i64 0] 40)).alloc (.cells (fns rb) 237))
   simpa [World.size_alloc] using this
  ·have := ((Blk.new ((w.alloc (.cells #[.pointer (some ⟨rb, 0, none⟩)] 108)).alloc (.cells #[.int .i64 0] 3)) 40 #[.int .i64 0]).alloc (.cells (fns rb) 237))
   simpa [World.size_alloc] using this
  ·have := (Blk.new (((w.alloc (.cells #[.pointer (some ⟨rb, 0, none⟩)] 108)).alloc (.cells #[.int .i64 0] 3)).alloc (.cells #[.int .i64 0] 40)) 237 (fns rb))
   simpa [World.size_alloc] using this
 have hk4 : Keep NoB w ((((w.alloc (.cells #[.pointer (some ⟨rb, 0, none⟩)] 108)).alloc (.cells #[.int .i64 0] 3)).alloc (.cells #[.int .i64 0] 40)).alloc (.cells (fns rb) 237)) := ((((Keep.refl NoB w).alloc _).alloc _).alloc _).alloc _
 have HR4 := Lib.hid (HR.out.keepN hk4)
 have hz4 : (((((w.alloc (.cells #[.pointer (some ⟨rb, 0, none⟩)] 108)).alloc (.cells #[.int .i64 0] 3)).alloc (.cells #[.int .i64 0] 40)).alloc (.cells (fns rb) 237))).heap.size = w.heap.size + 1 + 1 + 1 + 1 := by simp [World.size_alloc]
 unfold fns at hB hk4 HR4 hz4
 generalize hW4 : ((((w.alloc (.cells #[.pointer (some ⟨rb, 0, none⟩)] 108)).alloc (.cells #[.int .i64 0] 3)).alloc (.cells #[.int .i64 0] 40)).alloc (.cells #[.func (.func 196) #[.pointer (some ⟨rb, 0, none⟩)] #[], .func (.func 197) #[.pointer (some ⟨rb, 0, none⟩)] #[], .func (.func 198) #[.pointer (some ⟨rb, 0, none⟩)] #[], .func (.func 199) #[.pointer (some ⟨rb, 0, none⟩)] #[], .func (.func 200) #[.pointer (some ⟨rb, 0, none⟩)] #[]] 237)) = W4 at *
 clear hW4
 generalize hb : w.heap.size = b at *
 have HZ4 := Lib.hid hz4
 clear hz4
 refine wpIn_label ?_
 gi_wp2_with (refine ⟨trivial, ?_⟩; gi_at_call 64; refine (callsIn_wide.2 (HLi.out _)).mono ?_; rintro e w1 ⟨rfl, rfl⟩)
 clear HLi
 obtain ⟨W5, hW5⟩ : ∃ W5, W4.alloc (.cells #[.string S] 9) = W5 := ⟨_, rfl⟩
 rw [hW5]
 have hbn : W5.heap[W4.heap.size]? = some (.cells #[.string S] 9 (0, 0)) := by rw [← hW5]; exact Blk.new W4 9 #[.string S]
 have hk5 : Keep NoB W4 W5 := by rw [← hW5]; exact (Keep.refl NoB W4).alloc _
 have hz5 : W5.heap.size = W4.heap.size + 1 := by rw [← hW5]; simp
 clear hW5
 have hz4 := HZ4.out
 have hi0 : LnI w0 b rb [] (LP T b) W5 := ⟨T, ps0, 0, 0, rfl, rfl, fun h => absurd h (by decide), Nat.zero_le _, HR4.out.keepN hk5, hB.keep hk5 (fun _ h => h.elim)⟩
 have hp0 : ∀ k, LP T b k → k < W5.heap.size := by
  rintro k (h | rfl | rfl)
  ·exact Classical.byContradiction fun hn => h (HR4.out.new (by omega))
  ·omega
  ·omega
 have hpb : ¬ LP T b W4.heap.size := by
  rintro (h | h | h)
  ·exact h (HR4.out.new (Nat.le_refl _))
  ·omega
  ·omega
 have hb4 : b + 4 ≤ W5.heap.size := by omega
 clear hB hk4 HR4 hk5 hz4 hz5
 refine wpIn_rangeFunc_mine (m := 2) (gf := 132) (lb := #[.pointer (some ⟨W4.heap.size, 0, none⟩)]) rfl (enters_of Tryz.func132 rfl rfl)
  (lines_stops 2 3 W4.heap.size (by decide) rfl S s hs hl) (fun _ => rfl) (LnI w0 b rb) (LnX w0 b) (lnI_out w0 b rb _ hb4) (lnX_out w0 b _ hb4) hi0 hp0 hbn hpb
  (fun pre x p a' W => LnI w0 b rb pre p W ∧ a' = { tmps := #[.pointer (some ⟨rb, 0, none⟩), .string S, .pointer (some ⟨b, 0, none⟩), undef, .pointer (some ⟨b + 1, 0, none⟩), .pointer (some ⟨b + 1 + 1, 0, none⟩), .pointer (some ⟨b + 1 + 1 + 1, 0, none⟩), .int .i64 (x.1 : Int), .string (str x.2), undef, undef, undef, .pointer (some ⟨rb, 0, none⟩), .func (.func 196) #[.pointer (some ⟨rb, 0, none⟩)] #[], .pointer (some ⟨rb, 0, none⟩), .func (.func 197) #[.pointer (some ⟨rb, 0, none⟩)] #[], .pointer (some ⟨rb, 0, none⟩), .func (.func 198) #[.pointer (some ⟨rb, 0, none⟩)] #[], .pointer (some ⟨rb, 0, none⟩), .func (.func 199) #[.pointer (some ⟨rb, 0, none⟩)] #[], .pointer (some ⟨rb, 0, none⟩), .func (.func 200) #[.pointer (some ⟨rb, 0, none⟩)] #[], .agg #[.func (.func 196) #[.pointer (some ⟨rb, 0, none⟩)] #[], .func (.func 197) #[.pointer (some ⟨rb, 0, none⟩)] #[], .func (.func 198) #[.pointer (some ⟨rb, 0, none⟩)] #[], .func (.func 199) #[.pointer (some ⟨rb, 0, none⟩)] #[], .func (.func 200) #[.pointer (some ⟨rb, 0, none⟩)] #[]], .string S, .func (.func 132) #[] #[.pointer (some ⟨W4.heap.size, 0, none⟩)], .int .i64 (x.1 : Int), .string (str x.2), undef, undef, undef, undef, undef, undef, undef, undef, undef, undef, undef, undef, undef, undef, undef, undef, undef, undef, undef, undef, undef, undef, undef], defers := [] }) ?hax ?assign ?body ?done ?stop
 case hax =>
  rintro pre x a' s p X Y ⟨g1, g2⟩ hst
  exact ⟨lnI_out w0 b rb _ hb4 _ _ _ _ g1 hst, g2⟩
 case assign =>
  rintro l pre x p W hi hen
  gi_wp2
  exact ⟨p, Rnd.refl _ _, hi, trivial⟩
 case body =>
  rintro l pre ⟨n, x⟩ p a' W ⟨hn1, post, hpost⟩ ⟨⟨T1, q, N, ln, rfl, hq, hg, hN, hr, hbx⟩, rfl⟩
  have hxl := line_len hpost
  have hpc := pre_count hpost
  have hjl := join_le x
  have hwl := fun y hy => Nat.le_trans (word_le (wordsL x) y hy) (Nat.le_trans hjl hxl)
  have hnl := npLen (wordsL x)
  have hsn := fun q' => run_next (pre := pre) (x := (n, x)) (q' := q') hq
  have hsk := run_skip (pre := pre) (x := (n, x)) hq
  have hsb := run_bad (pre := pre) (x := (n, x)) hq
  dsimp only at hn1 hxl hsn hsk hsb ⊢
  simp only [List.length_cons] at hpc
  have HN1 := Lib.hid hn1
  obtain ⟨v, hbk⟩ := hr.bk
  have B3 := hbx.b3
  unfold fns at B3
  have hne1 := hbk.ne B3 (by decide)
  have hne2 := hne1.symm
  have HW := Lib.hid (words_any (str x) x W (Lib.hid (by simp)) (by rw [size_of (S := str x) (s := x) (by simp)]; omega))
  clear hn1
  generalize str x = X at HW ⊢
  obtain ⟨ws, hws⟩ : ∃ ws, wordsL x = ws := ⟨_, rfl⟩
  rw [hws] at HW hjl hwl hsn hsk hsb hnl
  unfold WordsR at HW
  obtain ⟨M, hM⟩ : ∃ M, ws.length = M := ⟨_, rfl⟩
  rw [hM] at HW hnl
  have hlen : (pre ++ [(n, x)]).length = pre.length + 1 := by simp
  by_cases h0 : M = 0
  ·have he : ws = [] := List.length_eq_zero_iff.1 (by omega)
   have hsk := hsk he
   clear hws hsn hsb hwl
   gi_wp2_with (refine ⟨trivial, ?_⟩; gi_at_call 65; refine (CallsIn.inRound l (callsIn_wide.2 HW.out)).mono ?_; rintro e w5 ⟨A, c, rfl, ho, k5⟩)
   exact ⟨_, LP_rnd (rnd_keep k5), T1, q, N, ln, rfl, hsk, hg, by omega, hr.keepN k5, hbx.keep k5 (fun _ h => h.elim)⟩
  ·have he : ws ≠ [] := fun e => h0 (by rw [← hM, e]; rfl)
   have hsn := fun q' => hsn q' he
   have hsb := hsb he
   have hnn : (M : Int) ≠ 0 := by omega
   have HM0 : Hid (0 < M) := Nat.pos_of_ne_zero h0
   clear hws hsk
   have HBX := Lib.hid hbx
   have HR1 := Lib.hid hr
   clear hr
   have hb0 := hbx.b0
   clear hbx
   gi_wp2_with (refine ⟨trivial, ?_⟩; gi_at_call 65; refine (CallsIn.inRound l (callsIn_wide.2 HW.out)).mono ?_; rintro e w5 ⟨A, c, rfl, ho, k5⟩; have z0 := (hb0.keep k5 id).cell 0; have x0 := (B3.keep k5 id).cell 0; have x1 := (B3.keep k5 id).cell 1; have x2 := (B3.keep k5 id).cell 2; have x3 := (B3.keep k5 id).cell 3; have x4 := (B3.keep k5 id).cell 4; have y2 := (hbk.keep k5 id).cell 2; have yf := (hbk.keep k5 id).frozen 2; have yl := (hbk.keep k5 id).lt; simp only [RV.cells, List.getElem?_toArray, List.getElem?_cons_zero, List.getElem?_cons_succ] at z0 x0 x1 x2 x3 x4 y2)
   obtain ⟨A', c', e', hcc, _, hr5, ho5⟩ := ho.form
   injection e' with e1 e2 e3
   clear e2
   subst e1 e3
   obtain ⟨g, off, rfl, hcs⟩ := sv_at hr5 (by omega)
   have hgl : g < w5.heap.size := World.block_lt_of_cell? _ _ (hcs 0 (by omega))
   have hgf : W.heap.size ≤ g := (ho5 _ rfl).1
   have HLJ : Hid (LJ w0 T1 b rb q N n (some ⟨g, off, none⟩) ws W T1 (w5.setCell ⟨rb, 2, none⟩ (.int .i64 (n : Int)))) := by
    obtain ⟨hl1, hl2⟩ := (HR1.out.keepN k5).line n
    have hgn : ¬ BS T1 g := fun h => h (HR1.out.new hgf)
    exact ⟨hl1, (HBX.out.keep k5 (fun _ h => h.elim)).rnd hl2, hr5.keep hl2.keep (fun a e => by cases e; exact hgn), fun a e => by cases e; exact ⟨Nat.lt_of_lt_of_le hgl hl2.keep.size, hgn⟩, (LP_rnd (rnd_keep k5)).trans (LP_rnd hl2)⟩
   have HE := Lib.hid hwl
   have HSN := Lib.hid hsn
   have HSB := Lib.hid hsb
   have hnn1 := HN1.out
   have hN9 : N ≤ 299000 := by omega
   have hn9 : n ≤ 300000 := by omega
   have hN8 : N + 2 ≤ 2 * (pre.length + 1) := by omega
   have hj9 : (joinW ws).length ≤ 140000 := by omega
   have hs9 : s.length ≤ 140000 := by omega
   clear hnn1 hcs ho5 hr5 ho k5 hgl hgf hb0 hbk B3 HBX HR1 hsn hsb z0 x0 x1 x2 x3 x4 y2 yf yl hwl HW
   have hmf : ((M : Int) == 0) = false := by rw [beq_eq_false_iff_ne]; exact hnn
   simp only [hmf]
   gi_loopw [37] (fun i wr => ∃ (k : Nat) (T2 : Nat → Tg), k ≤ 5 ∧ i = .int .i64 (k : Int) ∧ Hid (∀ j, j < k → tryP j q (n, ws) = none) ∧ Hid (LJ w0 T1 b rb q N n (some ⟨g, off, none⟩) ws W T2 wr)) (fun i _ => 5 - (intOf i).toNat)
   case atStart => exact ⟨0, T1, by omega, rfl, fun j h => by omega, HLJ⟩
   case round =>
    obtain ⟨k, T2, hk, rfl, HNo, HJ⟩ := hrel
    by_cases hk5 : k = 5
    ·subst hk5
     have HB := Lib.hid (HSB.out (step_none HNo.out))
     have b1 := HJ.out.bx.b1
     have b2 := HJ.out.bx.b2
     have q1 := b1.cell 0
     have q2 := b2.cell 0
     have f1 := b1.frozen 0
     have f2 := b2.frozen 0
     have l1 := b1.lt
     have l2 := b2.lt
     simp only [List.getElem?_toArray, List.getElem?_cons_zero] at q1 q2
     have hfin : Rnd (LP T1 b) (LP T2 b) W ((wr.setCell ⟨b + 1, 0, none⟩ (.int .i64 (n : Int))).setCell ⟨b + 1 + 1, 0, none⟩ (.int .i64 90)) ∧ LnX w0 b .ret (pre ++ [(n, x)]) (LP T2 b) ((wr.setCell ⟨b + 1, 0, none⟩ (.int .i64 (n : Int))).setCell ⟨b + 1 + 1, 0, none⟩ (.int .i64 90)) := by
      have hlo2 := HJ.out.bx.lo
      refine ⟨HJ.out.rnd.trans (Rnd.of_keep (((Keep.refl (LP T2 b) wr).setCell (p := ⟨b + 1, 0, none⟩) (fun _ => .inr (.inl rfl)) _).setCell (p := ⟨b + 1 + 1, 0, none⟩) (fun _ => .inr (.inr rfl)) _)), rfl, T2, n, rfl, HB.out, ?_, hlo2, ?_, ?_⟩
      ·exact (HJ.out.rd.1.setCell (p := ⟨b + 1, 0, none⟩) (fun h => by have h : b + 1 < w0.heap.size := h; omega) _).setCell (p := ⟨b + 1 + 1, 0, none⟩) (fun h => by have h : b + 1 + 1 < w0.heap.size := h; omega) _
      ·exact (b1.put 0 _).far (p := ⟨b + 1 + 1, 0, none⟩) (by simp) _
      ·exact (b2.far (p := ⟨b + 1, 0, none⟩) (by simp) _).put 0 _
     have HF := Lib.hid hfin
     clear HNo HLJ HJ hfin b1 b2 HB
     gi_wp2
     exact ⟨_, HF.out⟩
    ·have hk4 : k < 5 := by omega
     have HT := Lib.hid (try_any w0 wr T2 rb q N n hE HJ.out.rd hN9 hn9 hg (some ⟨g, off, none⟩) ws M c HJ.out.ws hM HM0.out hcc (fun y hy => Nat.le_trans (HE.out y hy) hs9) hj9 k hk4)
     clear HLJ
     obtain rfl | rfl | rfl | rfl | rfl : k = 0 ∨ k = 1 ∨ k = 2 ∨ k = 3 ∨ k = 4 := by omega
     ·have HX := try_at0 rb wr
      gi_wp2_with fail
      refine ⟨trivial, (CallsIn.inRound l (callsIn_wide.2 HT.out)).mono ?_⟩
      rintro e w7 ⟨T3, hrd, ⟨hq0, rfl, hd⟩ | ⟨p', hq0, rfl, hd⟩⟩
      ·have HNo2 : Hid (∀ j, j < 1 → tryP j q (n, ws) = none) := fun j hj => by
        by_cases e : j = 0
        ·subst e; exact hq0
        ·exact HNo.out j (by omega)
       have HJ2 := Lib.hid (HJ.out.next hrd hd)
       clear HT HX HJ HNo hd hrd hq0
       gi_wp2
       go_roundw
       case rel => exact ⟨1, T3, by omega, rfl, HNo2, HJ2⟩
       case measure => simp [intOf]
      ·have hst := HSN.out _ (step_at_try (by omega) HNo.out hq0)
       have htl := try_last (by omega) hq0 hg
       have bx7 := HJ.out.bx.rnd hrd
       have z0 := bx7.b0.cell 0
       obtain ⟨v7, hb7⟩ := hd.bk
       have y3 := hb7.cell 3
       have yf := hb7.frozen 3
       have yl := hb7.lt
       simp only [RV.cells, List.getElem?_toArray, List.getElem?_cons_zero, List.getElem?_cons_succ] at z0 y3
       obtain ⟨hl1, hl2⟩ := hd.last 0
       have hfin : ∃ p2, Rnd (LP T1 b) p2 W (w7.setCell ⟨rb, 3, none⟩ (.int .i64 ((0 : Nat) : Int))) ∧ LnI w0 b rb (pre ++ [(n, x)]) p2 (w7.setCell ⟨rb, 3, none⟩ (.int .i64 ((0 : Nat) : Int))) := by
        rw [to_to, htl.1] at hl1
        exact ⟨_, HJ.out.rnd.trans (LP_rnd (hrd.trans hl2)), T3, p', _, _, rfl, hst, htl.2, by rw [hlen]; exact hN8, hl1, bx7.rnd hl2⟩
       have HF := Lib.hid hfin
       clear HT HX HJ HNo hd hrd hq0 hst htl bx7 hb7 hl1 hl2 hfin
       gi_wp2
       exact HF.out
     ·have HX := try_at1 rb wr
      gi_wp2_with fail
      refine ⟨trivial, (CallsIn.inRound l (callsIn_wide.2 HT.out)).mono ?_⟩
      rintro e w7 ⟨T3, hrd, ⟨hq0, rfl, hd⟩ | ⟨p', hq0, rfl, hd⟩⟩
      ·have HNo2 : Hid (∀ j, j < 2 → tryP j q (n, ws) = none) := fun j hj => by
        by_cases e : j = 1
        ·subst e; exact hq0
        ·exact HNo.out j (by omega)
       have HJ2 := Lib.hid (HJ.out.next hrd hd)
       clear HT HX HJ HNo hd hrd hq0
       gi_wp2
       go_roundw
       case rel => exact ⟨2, T3, by omega, rfl, HNo2, HJ2⟩
       case measure => simp [intOf]
      ·have hst := HSN.out _ (step_at_try (by omega) HNo.out hq0)
       have htl := try_last (by omega) hq0 hg
       have bx7 := HJ.out.bx.rnd hrd
       have z0 := bx7.b0.cell 0
       obtain ⟨v7, hb7⟩ := hd.bk
       have y3 := hb7.cell 3
       have yf := hb7.frozen 3
       have yl := hb7.lt
       simp only [RV.cells, List.getElem?_toArray, List.getElem?_cons_zero, List.getElem?_cons_succ] at z0 y3
       obtain ⟨hl1, hl2⟩ := hd.last 1
       have hfin : ∃ p2, Rnd (LP T1 b) p2 W (w7.setCell ⟨rb, 3, none⟩ (.int .i64 ((1 : Nat) : Int))) ∧ LnI w0 b rb (pre ++ [(n, x)]) p2 (w7.setCell ⟨rb, 3, none⟩ (.int .i64 ((1 : Nat) : Int))) := by
        rw [to_to, htl.1] at hl1
        exact ⟨_, HJ.out.rnd.trans (LP_rnd (hrd.trans hl2)), T3, p', _, _, rfl, hst, htl.2, by rw [hlen]; exact hN8, hl1, bx7.rnd hl2⟩
       have HF := Lib.hid hfin
       clear HT HX HJ HNo hd hrd hq0 hst htl bx7 hb7 hl1 hl2 hfin
       gi_wp2
       exact HF.out
     ·have HX := try_at2 rb wr
      gi_wp2_with fail
      refine ⟨trivial, (CallsIn.inRound l (callsIn_wide.2 HT.out)).mono ?_⟩
      rintro e w7 ⟨T3, hrd, ⟨hq0, rfl, hd⟩ | ⟨p', hq0, rfl, hd⟩⟩
      ·have HNo2 : Hid (∀ j, j < 3 → tryP j q (n, ws) = none) := fun j hj => by
        by_cases e : j = 2
        ·subst e; exact hq0
        ·exact HNo.out j (by omega)
       have HJ2 := Lib.hid (HJ.out.next hrd hd)
       clear HT HX HJ HNo hd hrd hq0
       gi_wp2
       go_roundw
       case rel => exact ⟨3, T3, by omega, rfl, HNo2, HJ2⟩
       case measure => simp [intOf]
      ·have hst := HSN.out _ (step_at_try (by omega) HNo.out hq0)
       have htl := try_last (by omega) hq0 hg
       have bx7 := HJ.out.bx.rnd hrd
       have z0 := bx7.b0.cell 0
       obtain ⟨v7, hb7⟩ := hd.bk
       have y3 := hb7.cell 3
       have yf := hb7.frozen 3
       have yl := hb7.lt
       simp only [RV.cells, List.getElem?_toArray, List.getElem?_cons_zero, List.getElem?_cons_succ] at z0 y3
       obtain ⟨hl1, hl2⟩ := hd.last 2
       have hfin : ∃ p2, Rnd (LP T1 b) p2 W (w7.setCell ⟨rb, 3, none⟩ (.int .i64 ((2 : Nat) : Int))) ∧ LnI w0 b rb (pre ++ [(n, x)]) p2 (w7.setCell ⟨rb, 3, none⟩ (.int .i64 ((2 : Nat) : Int))) := by
        rw [to_to, htl.1] at hl1
        exact ⟨_, HJ.out.rnd.trans (LP_rnd (hrd.trans hl2)), T3, p', _, _, rfl, hst, htl.2, by rw [hlen]; exact hN8, hl1, bx7.rnd hl2⟩
       have HF := Lib.hid hfin
       clear HT HX HJ HNo hd hrd hq0 hst htl bx7 hb7 hl1 hl2 hfin
       gi_wp2
       exact HF.out
     ·have HX := try_at3 rb wr
      gi_wp2_with fail
      refine ⟨trivial, (CallsIn.inRound l (callsIn_wide.2 HT.out)).mono ?_⟩
      rintro e w7 ⟨T3, hrd, ⟨hq0, rfl, hd⟩ | ⟨p', hq0, rfl, hd⟩⟩
      ·have HNo2 : Hid (∀ j, j < 4 → tryP j q (n, ws) = none) := fun j hj => by
        by_cases e : j = 3
        ·subst e; exact hq0
        ·exact HNo.out j (by omega)
       have HJ2 := Lib.hid (HJ.out.next hrd hd)
       clear HT HX HJ HNo hd hrd hq0
       gi_wp2
       go_roundw
       case rel => exact ⟨4, T3, by omega, rfl, HNo2, HJ2⟩
       case measure => simp [intOf]
      ·have hst := HSN.out _ (step_at_try (by omega) HNo.out hq0)
       have htl := try_last (by omega) hq0 hg
       have bx7 := HJ.out.bx.rnd hrd
       have z0 := bx7.b0.cell 0
       obtain ⟨v7, hb7⟩ := hd.bk
       have y3 := hb7.cell 3
       have yf := hb7.frozen 3
       have yl := hb7.lt
       simp only [RV.cells, List.getElem?_toArray, List.getElem?_cons_zero, List.getElem?_cons_succ] at z0 y3
       obtain ⟨hl1, hl2⟩ := hd.last 3
       have hfin : ∃ p2, Rnd (LP T1 b) p2 W (w7.setCell ⟨rb, 3, none⟩ (.int .i64 ((3 : Nat) : Int))) ∧ LnI w0 b rb (pre ++ [(n, x)]) p2 (w7.setCell ⟨rb, 3, none⟩ (.int .i64 ((3 : Nat) : Int))) := by
        rw [to_to, htl.1] at hl1
        exact ⟨_, HJ.out.rnd.trans (LP_rnd (hrd.trans hl2)), T3, p', _, _, rfl, hst, htl.2, by rw [hlen]; exact hN8, hl1, bx7.rnd hl2⟩
       have HF := Lib.hid hfin
       clear HT HX HJ HNo hd hrd hq0 hst htl bx7 hb7 hl1 hl2 hfin
       gi_wp2
       exact HF.out
     ·have HX := try_at4 rb wr
      gi_wp2_with fail
      refine ⟨trivial, (CallsIn.inRound l (callsIn_wide.2 HT.out)).mono ?_⟩
      rintro e w7 ⟨T3, hrd, ⟨hq0, rfl, hd⟩ | ⟨p', hq0, rfl, hd⟩⟩
      ·have HNo2 : Hid (∀ j, j < 5 → tryP j q (n, ws) = none) := fun j hj => by
        by_cases e : j = 4
        ·subst e; exact hq0
        ·exact HNo.out j (by omega)
       have HJ2 := Lib.hid (HJ.out.next hrd hd)
       clear HT HX HJ HNo hd hrd hq0
       gi_wp2
       go_roundw
       case rel => exact ⟨5, T3, by omega, rfl, HNo2, HJ2⟩
       case measure => simp [intOf]
      ·have hst := HSN.out _ (step_at_try (by omega) HNo.out hq0)
       have htl := try_last (by omega) hq0 hg
       have bx7 := HJ.out.bx.rnd hrd
       have z0 := bx7.b0.cell 0
       obtain ⟨v7, hb7⟩ := hd.bk
       have y3 := hb7.cell 3
       have yf := hb7.frozen 3
       have yl := hb7.lt
       simp only [RV.cells, List.getElem?_toArray, List.getElem?_cons_zero, List.getElem?_cons_succ] at z0 y3
       obtain ⟨hl1, hl2⟩ := hd.last 4
       have hfin : ∃ p2, Rnd (LP T1 b) p2 W (w7.setCell ⟨rb, 3, none⟩ (.int .i64 ((4 : Nat) : Int))) ∧ LnI w0 b rb (pre ++ [(n, x)]) p2 (w7.setCell ⟨rb, 3, none⟩ (.int .i64 ((4 : Nat) : Int))) := by
        rw [to_to, htl.1] at hl1
        exact ⟨_, HJ.out.rnd.trans (LP_rnd (hrd.trans hl2)), T3, p', _, _, rfl, hst, htl.2, by rw [hlen]; exact hN8, hl1, bx7.rnd hl2⟩
       have HF := Lib.hid hfin
       clear HT HX HJ HNo hd hrd hq0 hst htl bx7 hb7 hl1 hl2 hfin
       gi_wp2
       exact HF.out
 case done =>
  rintro D xs p W hD hpD rfl ⟨T1, q, N, ln, rfl, hq, hg, hN, hr, hbx⟩ hK
  have b1 := hbx.b1
  have b2 := hbx.b2
  have q1 := b1.cell 0
  have q2 := b2.cell 0
  have f1 := b1.frozen 0
  have f2 := b2.frozen 0
  have l1 := b1.lt
  have l2 := b2.lt
  simp only [List.getElem?_toArray, List.getElem?_cons_zero] at q1 q2
  have hr2 := (hr.far ((Keep.refl (fun k => k = b + 1 ∨ k = b + 1 + 1) W).setCell (p := ⟨b + 1, 0, none⟩) (fun _ => .inl rfl) (.int .i64 0)) (by rintro k (rfl | rfl); exact ⟨hbx.no 1 (by omega), by have := hbx.lo; omega⟩; exact ⟨hbx.no 2 (by omega), by have := hbx.lo; omega⟩)).far ((Keep.refl (fun k => k = b + 1 ∨ k = b + 1 + 1) _).setCell (p := ⟨b + 1 + 1, 0, none⟩) (fun _ => .inr rfl) (.int .i64 0)) (by rintro k (rfl | rfl); exact ⟨hbx.no 1 (by omega), by have := hbx.lo; omega⟩; exact ⟨hbx.no 2 (by omega), by have := hbx.lo; omega⟩)
  have b1' := (b1.put 0 (.int .i64 0)).far (p := ⟨b + 1 + 1, 0, none⟩) (by simp) (.int .i64 0)
  have b2' := (b2.far (p := ⟨b + 1, 0, none⟩) (by simp) (.int .i64 0)).put 0 (.int .i64 0)
  have hK2 := (Below.heap_setCell (W.setCell ⟨b + 1, 0, none⟩ (.int .i64 0)) ⟨b + 1 + 1, 0, none⟩ (.int .i64 0) D (by simp; omega)).trans ((Below.heap_setCell W ⟨b + 1, 0, none⟩ (.int .i64 0) D (by simp; omega)).trans hK)
  have hlb := hbx.lo
  gi_wp2
  dsimp only [Exit.noGoto]
  refine ⟨by simp, .inl ⟨_, _, rfl, run_takeDeferred hK2, ?_⟩⟩
  have o1 := fun o => show _ = some (Value.int .i64 0) from (b1'.grown (grownBy_putObj' _ D o) (by simp; omega)).cell 0
  have o2 := fun o => show _ = some (Value.int .i64 0) from (b2'.grown (grownBy_putObj' _ D o) (by simp; omega)).cell 0
  refine ⟨.tuple #[.int .i64 0, .int .i64 0], by simp [results, Tryz.results127, go_sem, o1, o2], ?_⟩
  have hr3 := fun o => hr2.far (O := fun k => k = D) ((Keep.refl (fun k => k = D) _).grown (grownBy_putObj' _ D o) (fun g e _ => by cases e; rfl)) (by rintro k rfl; exact ⟨Classical.byContradiction fun hn => hpD (.inl hn), by omega⟩)
  refine ⟨(hr3 _).1, .inr ⟨q, T1, N, ln, ?_, rfl, hr3 _, ?_⟩⟩
  ·rw [← lnsOf_all]; exact hq
  ·have := pre_count (s := s) (pre := numS 1 (segs s)) (post := []) (by simp)
   simp only [List.length_nil] at this
   omega
 case stop =>
  rintro D c pre p W hD hpD ⟨post, hpost⟩ ⟨rfl, T1, n, rfl, hq, hk, hbl, b1, b2⟩ hK
  have q1 := b1.cell 0
  have q2 := b2.cell 0
  have l1 := b1.lt
  have l2 := b2.lt
  simp only [List.getElem?_toArray, List.getElem?_cons_zero] at q1 q2
  gi_wp2
  dsimp only [Exit.noGoto]
  refine ⟨by simp, .inl ⟨_, _, rfl, run_takeDeferred hK, ?_⟩⟩
  have o1 := fun o => (b1.grown (grownBy_putObj' _ D o) (by simp; omega)).cell 0
  have o2 := fun o => (b2.grown (grownBy_putObj' _ D o) (by simp; omega)).cell 0
  simp only [List.getElem?_toArray, List.getElem?_cons_zero] at o1 o2
  refine ⟨.tuple #[.int .i64 (n : Int), .int .i64 90], by simp [results, Tryz.results127, go_sem, o1, o2], ?_⟩
  exact ⟨npPut hk (by omega), .inl ⟨n, run_stop hpost hq, rfl⟩⟩

end Go.Proofs.YtgnooffedmeenaaGreatDoor.M

namespace Go.Proofs.YtgnooffedmeenaaGreatDoor.M.L
open Go.RowKit Go.Shelf W
attribute [local go_sem] Oper.semAt_some

structure ShOk (w : World) (kind : Nat) (s : SH) (es : List I.SE) (fs : List I.FE) : Prop where
 im : I.ImAt w s.v es fs
 lg : I.LgI s.v es fs
 ok : ImOk (I.imOf es fs) ∨ (es = [] ∧ fs = [])
 kd : (kind = 0 ∧ ∃ b n b1 b2, s = namedH s.v b b1 b2 ∧ NmAt w (I.imOf es fs) b n b1 b2 s.v.Y s.v.ny s.v.cy fs) ∨ (kind = 1 ∧ s = plainH s.v) ∨ (kind = 2 ∧ s = numbH s.v)
theorem ShOk.keep {w w' : World} {kind : Nat} {s : SH} {es : List I.SE} {fs : List I.FE} (h : ShOk w kind s es fs) (hk : Keep NoB w w') : ShOk w' kind s es fs :=
 ⟨h.im.keepN hk, h.lg, h.ok, h.kd.imp (fun ⟨a, b, n, b1, b2, e, hn⟩ => ⟨a, b, n, b1, b2, e, hn.keep hk⟩) id⟩
def labK2 (kind : Nat) (p : I.Im) : Nat → Nat → Bool := if kind = 0 then labB p else lab0
theorem ShOk.lab {w : World} {kind : Nat} {s : SH} {es : List I.SE} {fs : List I.FE} (h : ShOk w kind s es fs) : LabAt s.m (labK2 kind (I.imOf es fs)) w := by
 unfold labK2
 rcases h.kd with ⟨rfl, b, n, b1, b2, e, hn⟩ | ⟨rfl, e⟩ | ⟨rfl, e⟩
 ·rw [e, if_pos rfl]
  exact ⟨n, _, hn.pm, fun k i => by rw [labB_lbN, labF_nat]⟩
 ·rw [e]; rfl
 ·rw [e]; rfl
theorem ShOk.p_fn {w : World} {kind : Nat} {s : SH} {es : List I.SE} {fs : List I.FE} (_h : ShOk w kind s es fs) {k : Nat} {f : F.Fu} (hf : (I.imOf es fs).fn[k]? = some f) : ∃ hk : k < fs.length, fs[k].2 = f := by
 have e : (I.imOf es fs).fn = fs.map fun e => e.2 := rfl
 rw [e, List.getElem?_map] at hf
 rcases Nat.lt_or_ge k fs.length with hk | hk
 ·rw [List.getElem?_eq_getElem hk] at hf
  injection hf with hf
  exact ⟨hk, hf⟩
 ·rw [List.getElem?_eq_none hk] at hf; cases hf
theorem ShOk.bb {w : World} {kind : Nat} {s : SH} {es : List I.SE} {fs : List I.FE} (h : ShOk w kind s es fs) : s.bb = #[] := by
 rcases h.kd with ⟨rfl, b, n, b1, b2, e, hn⟩ | ⟨rfl, e⟩ | ⟨rfl, e⟩ <;> rw [e] <;> rfl

set_option maxRecDepth 100000 in
set_option maxHeartbeats 1000000 in
theorem says_any (kind : Nat) (s : SH) (es : List I.SE) (fs : List I.FE) (w : World) (h : ShOk w kind s es fs) (hp : ImOk (I.imOf es fs)) (hL : O.LaidO w) (l : Ln4) (hl : OkQ (labK2 kind (I.imOf es fs)) (I.imOf es fs) l) :
  Calls Tryz.prog 80 #[s.val, .agg (lnC l)] w fun e w' => e = .returned (.string (str (sayQ kind (I.imOf es fs) l))) ∧ Keep NoB w w' := by
 have hbb := h.bb
 obtain ⟨q, i, k, j⟩ := l
 have hw := hl.w
 dsimp only at hw
 have hw : q = 0 ∨ q = 1 ∨ q = 2 ∨ q = 3 ∨ q = 4 := by omega
 obtain ⟨⟨X, nx, cx, Y, ny, cy⟩, lm, og, ob, bg, bb⟩ := s
 dsimp only at hbb
 subst hbb
 rcases hw with rfl | rfl | rfl | rfl | rfl
 ·obtain ⟨h1, h2⟩ := hl.s rfl
  injection h2 with h2 h3
  dsimp only at h1 h2 h3
  subst h2 h3
  have hlen : i < es.length := by simpa [I.imOf] using h1
  have h5 := says0_any lm og ob bg X nx cx Y ny cy es fs w h.im h.lg hL i hlen
  have e1 : sayQ kind (I.imOf es fs) (0, i, 0, 0) = joinW (shapeT es[i].2) := by
   show joinW (shapeT ((I.imOf es fs).sh[i]?.getD [])) = _
   rw [show (I.imOf es fs).sh = es.map fun e => e.2 from rfl, List.getElem?_map, List.getElem?_eq_getElem hlen]
   rfl
  rw [e1]
  exact h5
 ·obtain ⟨h1, f, hf, _, h3⟩ := hl.f (fun h => nomatch h)
  dsimp only at h1 hf h3
  have h3 := h3 (by omega)
  subst h1 h3
  obtain ⟨hk, hfe⟩ := h.p_fn hf
  have h5 := says1_any lm og ob bg X nx cx Y ny cy es fs w h.im h.lg hL k hk (by rw [hfe]; exact okN_le ((F.okF_iff f).1 (hp.fn hf).1).1)
  have e1 : sayQ kind (I.imOf es fs) (1, 0, k, 0) = joinW [funcW, fs[k].2.nm, S.shG fs[k].2.ar fs[k].2.rs] := by
   show joinW [funcW, ((I.imOf es fs).fn[k]?.getD fu0).nm, _] = _
   rw [hf, hfe]; rfl
  rw [e1]
  exact h5
 ·obtain ⟨h1, f, hf, _, h3⟩ := hl.f (fun h => nomatch h)
  dsimp only at h1 hf h3
  have h3 := h3 (by omega)
  subst h1 h3
  obtain ⟨hk, hfe⟩ := h.p_fn hf
  have h5 := says2_any lm og ob bg X nx cx Y ny cy es fs w h.im h.lg hL k hk
  have e1 : sayQ kind (I.imOf es fs) (2, 0, k, 0) = joinW [localW, W.txt fs[k].2.lc] := by
   show joinW [localW, W.txt ((I.imOf es fs).fn[k]?.getD fu0).lc] = _
   rw [hf, hfe]; rfl
  rw [e1]
  exact h5
 ·obtain ⟨h1, f, hf, h2, _⟩ := hl.f (fun h => nomatch h)
  dsimp only at h1 hf h2
  have h2 := h2 (by omega)
  subst h1
  obtain ⟨hk, hfe⟩ := h.p_fn hf
  have hb := hl.b rfl
  dsimp only at hb
  unfold labK2 at hb
  rcases h.kd with ⟨rfl, b, n, b1, b2, e, hn⟩ | ⟨rfl, e⟩ | ⟨rfl, e⟩
  ·rw [if_pos rfl, labB_lbN] at hb
   cases hlb : lbN (I.imOf es fs) k j with
   | none => rw [hlb] at hb; cases hb
   | some m =>
    have hm : lm = some b := congrArg SH.m e
    subst hm
    have hnf := hp.nf
    have hk64 := (List.getElem?_eq_some_iff.1 hf).1
    have hb5 := (ok_body (hp.fn hf).1).2.2.1
    obtain ⟨f', hf', hm2, _⟩ := lbN_lt hlb
    rw [hf] at hf'
    injection hf' with hf'
    subst hf'
    have := tgs_len f.bd
    have h5 := says3_any og ob bg X nx cx Y ny cy es fs w h.im h.lg hL k hk b n m j (by omega) (by omega) (by omega) (I.imOf es fs) hn.pm hlb
    have e1 : sayQ 0 (I.imOf es fs) (3, 0, k, j) = lbl ((m : Nat) : Int) ++ [58] := by
     show (LBp (I.imOf es fs) k j).getD [] ++ [58] = _
     rw [lb_lbN, hlb]; rfl
    rw [e1]
    exact h5
  ·rw [if_neg (by decide)] at hb; cases hb
  ·rw [if_neg (by decide)] at hb; cases hb
 ·obtain ⟨h1, f, hf, h2, _⟩ := hl.f (fun h => nomatch h)
  dsimp only at h1 hf h2
  have h2 := h2 (by omega)
  subst h1
  obtain ⟨hk, hfe⟩ := h.p_fn hf
  subst hfe
  obtain ⟨o1, o2⟩ := hp.fn hf
  obtain ⟨b1', _, b3', _⟩ := ok_body o1
  have hx := List.getElem_mem h2
  have hok := List.all_eq_true.1 b1' _ hx
  have hI := o2 _ hx
  have e1 : sayQ kind (I.imOf es fs) (4, 0, k, j) = joinW (insL (if kind = 0 then NWp (I.imOf es fs) k fs[k].2.bd[j] else none) fs[k].2.bd[j]) ++ (if kind = 2 then noteB j else []) := by
   show insS kind (I.imOf es fs) k j (((I.imOf es fs).fn[k]?.getD fu0).bd[j]?.getD (0, 0, 0)) = _
   rw [hf]
   show insS kind (I.imOf es fs) k j (fs[k].2.bd[j]?.getD (0, 0, 0)) = _
   rw [List.getElem?_eq_getElem h2]
   rfl
  have hle := ins_le hp.ok kind k (i := j) (by omega) hI
  have hnt := note_le (i := j) (by omega)
  rw [e1]
  unfold insS at hle
  rcases h.kd with ⟨rfl, b, n, b1, b2, e, hn⟩ | ⟨rfl, e⟩ | ⟨rfl, e⟩
  ·rw [if_pos rfl, if_neg (by decide)] at hle ⊢
   have hg : lm = some b := congrArg SH.m e
   have hg2 : og = 77 := congrArg SH.og e
   have hg3 : ob = #[.pointer (some ⟨b1, 0, none⟩), .pointer (some ⟨b2, 0, none⟩)] := congrArg SH.ob e
   have hg4 : bg = 90 := congrArg SH.bg e
   subst hg hg2 hg3 hg4
   have hle2 : (joinW (insL (NWp (I.imOf es fs) k fs[k].2.bd[j]) fs[k].2.bd[j])).length ≤ 100 := by
    have h8 : (joinW (insL (NWp (I.imOf es fs) k fs[k].2.bd[j]) fs[k].2.bd[j])).length ≤ 60 := insn_len hp.ok k hI
    omega
   exact says4_any (some b) _ _ _ X nx cx Y ny cy es fs w h.im h.lg k hk j h2 _ _ hle2 (Nat.zero_le _) (fun W hk9 => instr_named ⟨X, nx, cx, Y, ny, cy⟩ (I.imOf es fs) hp b n b1 b2 fs W (hn.keep hk9) (hL.keep hk9) k _ hf _ hx) (fun W _ => plain2_any (j : Int) W) (enters_of Tryz.func90 rfl rfl)
  ·rw [if_neg (by decide), if_neg (by decide)] at hle ⊢
   have hg : lm = none := congrArg SH.m e
   have hg2 : og = 89 := congrArg SH.og e
   have hg3 : ob = #[] := congrArg SH.ob e
   have hg4 : bg = 90 := congrArg SH.bg e
   subst hg hg2 hg3 hg4
   have hle2 : (joinW (insL none fs[k].2.bd[j])).length ≤ 100 := Nat.le_trans (insn_none hI) (by omega)
   exact says4_any none _ _ _ X nx cx Y ny cy es fs w h.im h.lg k hk j h2 _ _ hle2 (Nat.zero_le _) (fun W hk9 => instr_plain ⟨X, nx, cx, Y, ny, cy⟩ _ W (hL.keep hk9) k _ hok hI) (fun W _ => plain2_any (j : Int) W) (enters_of Tryz.func90 rfl rfl)
  ·rw [if_neg (by decide), if_pos rfl] at hle ⊢
   have hg : lm = none := congrArg SH.m e
   have hg2 : og = 89 := congrArg SH.og e
   have hg3 : ob = #[] := congrArg SH.ob e
   have hg4 : bg = 91 := congrArg SH.bg e
   subst hg hg2 hg3 hg4
   have hle2 : (joinW (insL none fs[k].2.bd[j])).length ≤ 100 := Nat.le_trans (insn_none hI) (by omega)
   exact says4_any none _ _ _ X nx cx Y ny cy es fs w h.im h.lg k hk j h2 _ _ hle2 (by omega) (fun W hk9 => instr_plain ⟨X, nx, cx, Y, ny, cy⟩ _ W (hL.keep hk9) k _ hok hI) (fun W hk9 => numbered1_any j W (by omega) (hL.keep hk9).lib) (enters_of Tryz.func91 rfl rfl)

end Go.Proofs.YtgnooffedmeenaaGreatDoor.M.L
