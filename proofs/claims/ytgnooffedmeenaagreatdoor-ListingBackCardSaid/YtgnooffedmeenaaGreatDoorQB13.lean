/-
  Part 13 of the proofs of LBackRow, LLabelsRow: what is laid, and what the functions that the law runs answer. Conditions: each theorem names its own.
-/
import Derived.Lib.OwnBridge
import Derived.Sort.Grow
import Derived.Sort.OwnSortedInts
import Derived.Test.YtgnooffedmeenaaGreatDoorQB12
namespace Go.Proofs.YtgnooffedmeenaaGreatDoor.M.L
open Go.RowKit W

def opS (p : I.Im) (k : Nat) (x : C.I3) : Bs := (NWp p k x).getD []
def opT (p : I.Im) (k : Nat) (x : C.I3) : Bool := (NWp p k x).isSome
theorem nw_place {p : I.Im} (hp : ImOk p) {k : Nat} {f : F.Fu} (hf : p.fn[k]? = some f) {x : C.I3} (hx : x ∈ f.bd) (h : (O.rowAt x.1).ka = 10) :
  ∃ t n : Nat, x.2.1 = (t : Int) ∧ t ≤ 511 ∧ lbN p k t = some n ∧ n ≤ 511 ∧ NWp p k x = some (lbl ((n : Nat) : Int)) := by
 obtain ⟨h1, h2⟩ := hp.fn hf
 obtain ⟨b1, _, b3, b4⟩ := ok_body h1
 have hok := List.all_eq_true.1 b1 x hx
 have hg := C.ka_gB hok h
 have hin := C.gB_in hg
 have h6 := b4 x hx
 rw [C.gN_yes hg] at h6
 have ht : x.2.1 = ((x.2.1.toNat : Nat) : Int) := by omega
 have hm : x.2.1.toNat ∈ tgs f.bd := tgs_mem.2 ⟨by omega, hit_of hx hg ht⟩
 obtain ⟨s, hs⟩ := labA_mem hm
 have hl : LBp p k x.2.1.toNat = some s := by unfold LBp; rw [hf]; exact hs
 have hnw : NWp p k x = some s := by unfold NWp; rw [if_pos hg]; exact hl
 rw [lb_lbN] at hl
 cases hn : lbN p k x.2.1.toNat with
 | none => rw [hn] at hl; cases hl
 | some n =>
  rw [hn] at hl
  injection hl with hl
  obtain ⟨f', hf', hlt, _⟩ := lbN_lt hn
  rw [hf] at hf'
  injection hf' with hf'
  subst hf'
  have := tgs_len f.bd
  exact ⟨_, n, ht, by omega, hn, by omega, by rw [hnw, ← hl]⟩
theorem nw_func {p : I.Im} (hp : ImOk p) {k : Nat} {f : F.Fu} (hf : p.fn[k]? = some f) {x : C.I3} (hx : x ∈ f.bd) (h : (O.rowAt x.1).ka = 7) :
  ∃ t : Nat, x.2.1 = (t : Int) ∧ NWp p k x = (p.fn[t]?).map F.Fu.nm := by
 obtain ⟨h1, h2⟩ := hp.fn hf
 have hok := List.all_eq_true.1 (ok_body h1).1 x hx
 have hng : ¬ C.gB x = true := fun hg => by have := (C.gB_ka hg).2; rw [h] at this; exact absurd this (by decide)
 have h3 := (O.ok_op hok).2.1
 rw [h] at h3
 have hb := (O.in_bounds h3).2.1 (by decide)
 refine ⟨x.2.1.toNat, by omega, ?_⟩
 unfold NWp
 rw [if_neg hng, if_pos h]
theorem nw_else {p : I.Im} {k : Nat} {x : C.I3} (h1 : ¬ (O.rowAt x.1).ka = 10) (h2 : ¬ (O.rowAt x.1).ka = 7) : NWp p k x = none := by
 unfold NWp
 rw [if_neg (fun hg => h1 (C.gB_ka hg).2), if_neg h2]

structure NmAt (w : World) (p : I.Im) (b n b1 b2 : Nat) (Y : Option Addr) (ny cy : Nat) (fs : List I.FE) : Prop where
 pm : PM b n (labF p) w
 k1 : Blk w b1 69 #[.map (some b)]
 k2 : Blk w b2 23 #[.slice Y ny cy]
 rd : Rd w Y (I.fvs fs)
 nl : fs.length = ny
 pf : p.fn = fs.map fun e => e.2
 nm : ∀ e ∈ fs, e.1.S.data.toList = e.2.nm
theorem NmAt.keep {w w' : World} {p : I.Im} {b n b1 b2 : Nat} {Y : Option Addr} {ny cy : Nat} {fs : List I.FE} (h : NmAt w p b n b1 b2 Y ny cy fs) (hk : Keep NoB w w') : NmAt w' p b n b1 b2 Y ny cy fs :=
 ⟨h.pm.keep hk id, h.k1.keep hk id, h.k2.keep hk id, h.rd.keepN hk, h.nl, h.pf, h.nm⟩

set_option maxRecDepth 100000 in
set_option maxHeartbeats 4000000 in
theorem named1_any (p : I.Im) (hp : ImOk p) (b n b1 b2 : Nat) (Y : Option Addr) (ny cy : Nat) (fs : List I.FE) (w : World) (h : NmAt w p b n b1 b2 Y ny cy fs) (hL : W.Laid w) (k : Nat) (f : F.Fu) (hf : p.fn[k]? = some f) (x : C.I3) (hx : x ∈ f.bd) :
  Calls Tryz.prog 77 #[.int .i64 (k : Int), O.instV x.1 x.2.1 x.2.2, .pointer (some ⟨b1, 0, none⟩), .pointer (some ⟨b2, 0, none⟩)] w fun e w' =>
   e = .returned (.tuple #[.string (str (opS p k x)), .bool (opT p k x)]) ∧ Keep NoB w w' := by
 have hkf : k < 64 := by
  have h1 := (List.getElem?_eq_some_iff.1 hf).1
  have h2 := hp.nf
  omega
 have hB := Blk.new w 55 #[.int .i64 x.1, .int .i64 x.2.1, .int .i64 x.2.2]
 have k0 := (Keep.refl NoB w).alloc (.cells #[.int .i64 x.1, .int .i64 x.2.1, .int .i64 x.2.2] 55)
 have HK := Lib.hid (fun W => O.kinds_any x.1 W)
 have HA := Lib.hid (fun W (hk : Keep NoB w W) => h.keep hk)
 have HLd := Lib.hid (fun W (hk : Keep NoB w W) => hL.keep hk)
 by_cases h10 : (O.rowAt x.1).ka = 10
 ·obtain ⟨t, m, e1, e2, e3, e4, e5⟩ := nw_place hp hf hx h10
  have HX : Hid (opS p k x = lbl ((m : Nat) : Int) ∧ opT p k x = true) := by unfold opS opT; rw [e5]; exact ⟨rfl, rfl⟩
  have HLb := Lib.hid (fun W (hk : Keep NoB w W) => label_any m W (by omega) (hL.keep hk))
  have HLk : Hid (∀ W, Keep NoB w W → (Instr.lookup 69 (.map (some b)) (.agg #[.int .i64 (k : Int), .int .i64 (t : Int)]) false).run Tryz.prog W = .ok (.int .i64 (m : Int)) W) := by
   intro W hk
   have h1 := pm_look (h.keep hk).pm k t (by omega) (by omega)
   rw [labF_nat, e3] at h1
   exact h1
  obtain ⟨op, a, c⟩ := x
  dsimp only at *
  subst e1
  rw [HX.out.1, HX.out.2]
  rw [h10] at HK
  have c0 := hB.cell 0
  have c1 := hB.cell 1
  simp only [List.getElem?_toArray, List.getElem?_cons_zero, List.getElem?_cons_succ] at c0 c1
  clear h hL hp hf hx h10 e2 e3 e4 e5 HX
  go_enter Tryz.func77, Tryz.ntmps77
  go_wp2_with fail
  refine (HK.out _).mono ?_
  rintro e w1 ⟨rfl, k1⟩
  have hk1 := keepN k0 k1
  have hB1 := hB.keep k1 id
  have c1 := hB1.cell 1
  have d0 := (HA.out _ hk1).k1.cell 0
  have hlk := HLk.out _ hk1
  simp only [List.getElem?_toArray, List.getElem?_cons_zero, List.getElem?_cons_succ] at c1 d0
  clear hB hB1 k0 k1 c0 HK
  go_wp2_with fail
  refine (HLb.out _ hk1).mono ?_
  rintro e w2 ⟨rfl, k2⟩
  go_wp2
  go_ret2
  exact ⟨rfl, keepN hk1 k2⟩
 ·have q10 : ((O.rowAt x.1).ka == 10) = false := by rw [beq_eq_false_iff_ne]; exact h10
  by_cases h7 : (O.rowAt x.1).ka = 7
  ·obtain ⟨t, e1, e2⟩ := nw_func hp hf hx h7
   rw [h.pf] at e2
   rw [List.getElem?_map] at e2
   have hny := h.nl
   have hn64 : ny ≤ 64 := by
    have := hp.nf
    rw [h.pf, List.length_map] at this
    omega
   by_cases hlt : t < ny
   ·have hlf : t < fs.length := by omega
    rw [List.getElem?_eq_getElem hlf] at e2
    have hfa := h.nm _ (List.getElem_mem hlf)
    have HX : Hid (str (opS p k x) = fs[t].1.S ∧ opT p k x = true) := by
     unfold opS opT
     rw [e2]
     refine ⟨?_, rfl⟩
     show str fs[t].2.nm = _
     rw [str_of hfa]
    have HFa : Hid (∀ W, Keep NoB w W → ∃ g off, Y = some ⟨g, off, none⟩ ∧ W.cell? ⟨g, off + t * 5, none⟩ = some (.string fs[t].1.S)) := fun W hk => by
     obtain ⟨g, off, h1, h2, _⟩ := I.fun_at (h.keep hk).rd hlf
     exact ⟨g, off, h1, h2⟩
    obtain ⟨op, a, c⟩ := x
    dsimp only at *
    subst e1
    rw [HX.out.1, HX.out.2]
    rw [h7] at HK
    have c0 := hB.cell 0
    simp only [List.getElem?_toArray, List.getElem?_cons_zero] at c0
    generalize fs[t].1.S = S at *
    clear h hL hp hf hx h10 h7 q10 e2 HX hfa hny hlf
    go_enter Tryz.func77, Tryz.ntmps77
    go_wp2_with fail
    refine (HK.out _).mono ?_
    rintro e w1 ⟨rfl, k1⟩
    have hk1 := keepN k0 k1
    have hB1 := hB.keep k1 id
    have c1 := hB1.cell 1
    have d0 := (HA.out _ hk1).k2.cell 0
    obtain ⟨g, off, rfl, hc⟩ := HFa.out _ hk1
    simp only [List.getElem?_toArray, List.getElem?_cons_zero, List.getElem?_cons_succ] at c1 d0
    clear hB hB1 k0 k1 c0 HK HFa HA
    go_wp2
    go_ret2
    exact ⟨rfl, hk1⟩
   ·rw [List.getElem?_eq_none (by omega)] at e2
    have HX : Hid (opS p k x = [] ∧ opT p k x = false) := by unfold opS opT; rw [e2]; exact ⟨rfl, rfl⟩
    obtain ⟨op, a, c⟩ := x
    dsimp only at *
    subst e1
    rw [HX.out.1, HX.out.2]
    rw [h7] at HK
    have c0 := hB.cell 0
    simp only [List.getElem?_toArray, List.getElem?_cons_zero] at c0
    have hge : ¬ (t : Int) < (ny : Int) := by omega
    clear h hL hp hf hx h10 h7 q10 e2 HX hny hlt
    go_enter Tryz.func77, Tryz.ntmps77
    go_wp2_with fail
    refine (HK.out _).mono ?_
    rintro e w1 ⟨rfl, k1⟩
    have hk1 := keepN k0 k1
    have hB1 := hB.keep k1 id
    have c1 := hB1.cell 1
    have d0 := (HA.out _ hk1).k2.cell 0
    simp only [List.getElem?_toArray, List.getElem?_cons_zero, List.getElem?_cons_succ] at c1 d0
    clear hB hB1 k0 k1 c0 HK HA
    go_wp2
    go_ret2
    exact ⟨rfl, hk1⟩
  ·have q7 : ((O.rowAt x.1).ka == 7) = false := by rw [beq_eq_false_iff_ne]; exact h7
   have HX : Hid (opS p k x = [] ∧ opT p k x = false) := by unfold opS opT; rw [nw_else h10 h7]; exact ⟨rfl, rfl⟩
   obtain ⟨op, a, c⟩ := x
   dsimp only at *
   rw [HX.out.1, HX.out.2]
   have c0 := hB.cell 0
   simp only [List.getElem?_toArray, List.getElem?_cons_zero] at c0
   generalize (O.rowAt op).ka = ka at *
   clear h hL hp hf hx h10 h7 HX
   go_enter Tryz.func77, Tryz.ntmps77
   go_wp2_with fail
   refine (HK.out _).mono ?_
   rintro e w1 ⟨rfl, k1⟩
   have hk1 := keepN k0 k1
   clear hB k0 k1 c0 HK HA
   go_wp2
   go_ret2
   exact ⟨rfl, hk1⟩

end Go.Proofs.YtgnooffedmeenaaGreatDoor.M.L

namespace Go.Proofs.YtgnooffedmeenaaGreatDoor.M.L
open Go.RowKit W

theorem goL_succ {l : List C.I3} {k : Nat} (h : k < l.length) : goL (l.take (k + 1)) = goL (l.take k) ++ (if C.gB l[k] = true then [C.gN l[k]] else []) := by
 unfold goL
 rw [List.take_succ_eq_append_getElem h, List.filterMap_append]
 congr 1
 by_cases hg : C.gB l[k] = true
 ·rw [if_pos hg]; simp [hg]
 ·rw [if_neg hg]; simp [hg]
theorem sort_own {w w1 : World} {g cap nn q : Nat} {os : Array Obj} {zs : List Int} (hown : Own w1 3 1 (Fresh w) (.slice (some ⟨g, 0, none⟩) zs.length cap) zs.length (ivs zs)) (hk : Keep NoB w w1) (hg : w.heap.size ≤ g) :
  let w3 := Sort.putRow (Value.int .i64) (Sort.ahead (Sort.grow (Sort.putRow (Value.int .i64) (Sort.ahead w1 nn) g 0 (zs.mergeSort fun x y => decide (x ≤ y)).toArray) os) q) g 0 (Lib.compact (zs.mergeSort fun x y => decide (x ≤ y)) ++ List.replicate ((zs.mergeSort fun x y => decide (x ≤ y)).length - (Lib.compact (zs.mergeSort fun x y => decide (x ≤ y))).length) 0).toArray
  Own w3 3 1 (Fresh w) (.slice (some ⟨g, 0, none⟩) (Lib.compact (zs.mergeSort fun x y => decide (x ≤ y))).length cap) (Lib.compact (zs.mergeSort fun x y => decide (x ≤ y))).length (ivs (Lib.compact (zs.mergeSort fun x y => decide (x ≤ y)))) ∧ Keep NoB w w3 := by
 intro w3
 have hl2 : (zs.mergeSort fun x y => decide (x ≤ y)).length = zs.length := List.length_mergeSort zs
 have hle := Lib.compact_length_le (zs.mergeSort fun x y => decide (x ≤ y))
 rcases hown.1.2 with ⟨h0, _⟩ | ⟨g', cap', cur, hv, hbase, hb, h1, h2, h3, h4⟩
 ·cases h0
 cases hv
 have hs := ownsRow_sortedI (n := nn) (os := os) (ts := zs.mergeSort fun x y => decide (x ≤ y)) hl2 hbase hb h1 h2 h3
 have hc := Lib.ownsRow_putRow (q := q) (k := (Lib.compact (zs.mergeSort fun x y => decide (x ≤ y))).length) (ys := Lib.compact (zs.mergeSort fun x y => decide (x ≤ y)) ++ List.replicate ((zs.mergeSort fun x y => decide (x ≤ y)).length - (Lib.compact (zs.mergeSort fun x y => decide (x ≤ y))).length) 0) hs (by simp; omega) (by omega)
 rw [List.take_left] at hc
 refine ⟨⟨hc, fun b e => ?_⟩, Keep.of_below (Lib.below_putRow (hk.toBelow.grown (row := some g) (grownBy_sortedI _) hk.size (fun j hj => by injection hj with hj; omega)) hg)⟩
 simp only [Value.ownBlock, Option.some.injEq] at e
 subst e
 exact hg

set_option maxRecDepth 100000 in
set_option maxHeartbeats 4000000 in
theorem targets_any (A : Option Addr) (l : List C.I3) (n c : Nat) (w : World) (hr : Rd w A (C.iis l)) (hn : Hid (l.length = n)) (h6 : n ≤ 9000000000000) :
  Calls Tryz.prog 48 #[.slice A n c] w fun e w' => ∃ B d, e = .returned (.slice B (tgI l).length d) ∧ Own w' 3 1 (Fresh w) (.slice B (tgI l).length d) (tgI l).length (ivs (tgI l)) ∧ Keep NoB w w' := by
 have HR := Lib.hid hr
 obtain ⟨T, hT⟩ : ∃ T, tgI l = T := ⟨_, rfl⟩
 have HT := Lib.hid hT
 rw [hT]
 clear hT
 obtain ⟨i0, hi, hz0, hz1, hz2⟩ := info_parts int_info
 clear hr
 go_enter Tryz.func48, Tryz.ntmps48
 go_wp2_with fail
 go_loopw [3, 10] (fun v i wr => ∃ k : Nat, k ≤ n ∧ i = .int .i64 k ∧ (∃ B d, v = .slice B (goL (l.take k)).length d ∧ Own wr 3 1 (Fresh w) (.slice B (goL (l.take k)).length d) (goL (l.take k)).length (ivs (goL (l.take k)))) ∧ Keep NoB w wr) (fun _ i _ => n - (intOf i).toNat)
 case atStart => exact ⟨0, Nat.zero_le _, rfl, ⟨none, 0, rfl, Own.nil _ _ _ _⟩, Keep.refl _ _⟩
 case round =>
  obtain ⟨k, hk, rfl, ⟨B, d, rfl, hO⟩, hK⟩ := hrel
  by_cases hlt : k < n
  ·have hkl : k < l.length := by rw [hn.out]; exact hlt
   obtain ⟨g, off, rfl, hc⟩ := C.rdJ_at HR.out (by omega)
   obtain ⟨d0, d1, d2⟩ := hc k hkl
   have c0 := hK.cell d0 id
   have c1 := hK.cell d1 id
   have c2 := hK.cell d2 id
   have hs := Lib.hid (goL_succ hkl)
   have hle : (goL (l.take k)).length ≤ k := Nat.le_trans (goL_len _) (by simp; omega)
   clear hc d0 d1 d2
   generalize l[k] = x at c0 c1 c2 hs
   obtain ⟨op, a, b⟩ := x
   dsimp only at c0 c1 c2
   obtain ⟨m, hm'⟩ : ∃ m, (goL (l.take k)).length = m := ⟨_, rfl⟩
   rw [hm'] at hle hO ⊢
   have hgn : O.goesN op a b = C.gN (op, a, b) := rfl
   have hgi : O.goesI op a b = C.gB (op, a, b) := rfl
   have HG := Lib.hid (fun w => O.goes_any op a b w)
   simp only [hgn, hgi] at HG
   clear hgn hgi
   generalize C.gN (op, a, b) = to1 at HG hs
   cases hg : C.gB (op, a, b)
   ·have HS : Hid (goL (l.take (k + 1)) = goL (l.take k)) := by show _ = _; rw [hs.out, hg]; simp
    have HL : Hid ((goL (l.take (k + 1))).length = m) := by show _ = _; rw [HS.out, hm']
    rw [hg] at HG
    have hO2 := hO.keepN ((Keep.refl NoB wr).alloc (.cells #[.int .i64 op, .int .i64 a, .int .i64 b] 55))
    have hK2 := hK.alloc (.cells #[.int .i64 op, .int .i64 a, .int .i64 b] 55)
    clear hg hm' hs hO hK
    go_wp2_with (go_at_call 106; refine (HG.out _).mono ?_; rintro e w2 ⟨rfl, k2⟩)
    go_roundw
    case rel => exact ⟨k + 1, by omega, by go_num, ⟨B, d, by rw [HL.out], by rw [HL.out, HS.out]; exact hO2.keepN k2⟩, keepN hK2 k2⟩
    case measure => simp [intOf]; omega
   ·have HS : Hid (ivs (goL (l.take (k + 1))) = ivs (goL (l.take k)) ++ [.int .i64 to1]) := by show _ = _; rw [hs.out, hg]; simp [ivs]
    have HL : Hid ((goL (l.take (k + 1))).length = m + 1) := by show _ = _; rw [hs.out, hg, List.length_append, hm']; rfl
    rw [hg] at HG
    have hO1 := hO.keepN ((Keep.refl NoB wr).alloc (.cells #[.int .i64 op, .int .i64 a, .int .i64 b] 55))
    have hK1 := hK.alloc (.cells #[.int .i64 op, .int .i64 a, .int .i64 b] 55)
    clear hg hm' hs hO hK
    go_wp2_with fail
    refine (HG.out _).mono ?_
    rintro e w2 ⟨rfl, k2⟩
    have hO2 := hO1.keepN k2
    have hK2 := keepN hK1 k2
    clear hO1 hK1 k2 c0 c1 c2
    go_wp2_with (at_builtin; refine wpList_append_rd _ rfl (.tmp 20) (.tmp 22) _ rfl 3 1 8 i0 _ Tryz.underlying32 hi hz0 hz1 hz2 rfl (by decide) _ m _ _ 1 _ [.int .i64 to1] rfl (hO2.1.alloc _) rfl (W.rd_made (by simp) rfl) rfl (by simp [Value.oneCell']) (by unfold maxLen; omega) (by omega) ?_; intro B2 d2 w3 hrow3 hg3 hv3; rw [← HS.out] at hrow3; obtain ⟨hO3, hK3⟩ := W.own_after hO2.2 (hK2.alloc _) hg3 hv3 hrow3; clear hrow3 hg3 hv3)
    go_roundw
    case rel => exact ⟨k + 1, by omega, by go_num, ⟨B2, d2, by rw [HL.out], by rw [HL.out]; exact hO3⟩, hK3⟩
    case measure => simp [intOf]; omega
  ·obtain rfl : k = n := by omega
   have hall : goL (l.take k) = goL l := by rw [List.take_of_length_le (by rw [hn.out]; exact Nat.le_refl _)]
   have hlen : (goL l).length ≤ k := by rw [← hn.out]; exact goL_len l
   rw [hall] at hO ⊢
   have HT2 : Hid (T = Lib.compact ((goL l).mergeSort fun x y => decide (x ≤ y))) := HT.out.symm
   clear hall HT hn HR
   generalize goL l = zs at *
   by_cases h0 : zs.length = 0
   ·obtain rfl : zs = [] := List.length_eq_zero_iff.1 h0
    have HS := Lib.hid (fun W => Tryz.slices_Sort_int_none B d W)
    have HC := Lib.hid (fun W => Tryz.slices_Compact_int_empty B d W)
    clear h0
    go_wp2_with (go_at_call 107; refine (HS.out _).mono ?_; rintro e w2 ⟨rfl, rfl⟩)
    go_wp2_with (go_at_call 108; refine (HC.out _).mono ?_; rintro e w2 ⟨rfl, rfl⟩)
    go_ret
    rw [HT2.out, List.mergeSort_nil, show Lib.compact ([] : List Int) = [] from rfl]
    exact ⟨B, d, rfl, hO, hK⟩
   ·have hnn : (Value.slice B zs.length d) ≠ .slice none 0 0 := fun e => by injection e with _ e; exact h0 e
    obtain ⟨g, cap, e0, _, hgl, hcap, hcm, _, hH⟩ := Lib.holds_of_ownsRow hO.1 hnn
    injection e0 with e1 _ e2
    subst e1 e2
    have hgf : w.heap.size ≤ g := hO.2 g rfl
    have HS := Lib.hid (Tryz.slices_Sort_int g 0 d zs wr hH hgl (by omega))
    have hl2 : (zs.mergeSort fun x y => decide (x ≤ y)).length = zs.length := List.length_mergeSort zs
    have HC : Hid (∀ nn os, Calls Tryz.prog 108 #[.slice (some ⟨g, 0, none⟩) zs.length d] (Sort.grow (Sort.putRow (Value.int .i64) (Sort.ahead wr nn) g 0 (zs.mergeSort fun x y => decide (x ≤ y)).toArray) os) fun e w' =>
      e = .returned (.slice (some ⟨g, 0, none⟩) (Lib.compact (zs.mergeSort fun x y => decide (x ≤ y))).length d) ∧ ∃ q, w' = Sort.putRow (Value.int .i64) (Sort.ahead (Sort.grow (Sort.putRow (Value.int .i64) (Sort.ahead wr nn) g 0 (zs.mergeSort fun x y => decide (x ≤ y)).toArray) os) q) g 0 (Lib.compact (zs.mergeSort fun x y => decide (x ≤ y)) ++ List.replicate ((zs.mergeSort fun x y => decide (x ≤ y)).length - (Lib.compact (zs.mergeSort fun x y => decide (x ≤ y))).length) 0).toArray) := by
     intro nn os
     have hH2 : Sort.Holds (Value.int .i64) (Sort.grow (Sort.putRow (Value.int .i64) (Sort.ahead wr nn) g 0 (zs.mergeSort fun x y => decide (x ≤ y)).toArray) os) g 0 (zs.mergeSort fun x y => decide (x ≤ y)).toArray :=
      Sort.holds_grow _ _ os g 0 _ (by simpa [Sort.putRow, Sort.mapBlock, Sort.ahead] using hgl) (Sort.holds_putRow _ _ g 0 _ _ (Sort.holds_ahead _ wr nn g 0 _ hH) (by simp))
     have h := Tryz.slices_Compact_int g 0 d (zs.mergeSort fun x y => decide (x ≤ y)) _ hH2 (by omega) (by omega)
     rw [hl2] at h ⊢
     exact h
    have HO : Hid (∀ nn os q, _) := fun nn os q => sort_own (w := w) (nn := nn) (os := os) (q := q) hO hK hgf
    clear hH hO hK hnn hl2
    go_wp2_with (go_at_call 107; refine HS.out.mono ?_; rintro e w2 ⟨rfl, nn, os, rfl⟩)
    go_wp2_with (go_at_call 108; refine (HC.out nn os).mono ?_; rintro e w2 ⟨rfl, q, rfl⟩)
    go_ret
    have h := HO.out nn os q
    simp only [List.length_mergeSort] at h
    rw [HT2.out]
    exact ⟨_, _, rfl, h.1, h.2⟩

end Go.Proofs.YtgnooffedmeenaaGreatDoor.M.L

namespace Go.Proofs.YtgnooffedmeenaaGreatDoor.M.L
open Go.RowKit W

def labK (p : I.Im) (k j : Nat) (x y : Int) : Option Nat :=
 if 0 ≤ x ∧ 0 ≤ y then (if x.toNat < k then lbN p x.toNat y.toNat else if x.toNat = k then (p.fn[k]?).bind fun f => ((tgs f.bd).take j).findIdx? fun i => decide (i = y.toNat) else none) else none
theorem labK_zero (p : I.Im) (x y : Int) : labK p 0 0 x y = none := by
 unfold labK
 split
 ·rw [if_neg (by omega)]
  split
  ·cases p.fn[0]? <;> rfl
  ·rfl
 ·rfl
theorem labK_next {p : I.Im} {k : Nat} {f : F.Fu} (hf : p.fn[k]? = some f) (x y : Int) : labK p k (tgs f.bd).length x y = labK p (k + 1) 0 x y := by
 unfold labK
 by_cases h0 : 0 ≤ x ∧ 0 ≤ y
 ·rw [if_pos h0, if_pos h0]
  by_cases h1 : x.toNat < k
  ·rw [if_pos h1, if_pos (by omega)]
  ·rw [if_neg h1]
   by_cases h2 : x.toNat = k
   ·rw [if_pos h2, if_pos (by omega), hf, h2]
    show List.findIdx? _ ((tgs f.bd).take (tgs f.bd).length) = lbN p k y.toNat
    rw [List.take_length]
    unfold lbN
    rw [hf]
    rfl
   ·rw [if_neg h2, if_neg (by omega)]
    by_cases h3 : x.toNat = k + 1
    ·rw [if_pos h3]
     cases p.fn[k + 1]? <;> rfl
    ·rw [if_neg h3]
 ·rw [if_neg h0, if_neg h0]
theorem labK_all (p : I.Im) (x y : Int) : labK p p.fn.length 0 x y = labF p x y := by
 unfold labK labF
 by_cases h0 : 0 ≤ x ∧ 0 ≤ y
 ·rw [if_pos h0, if_pos h0]
  by_cases h1 : x.toNat < p.fn.length
  ·rw [if_pos h1]
  ·rw [if_neg h1]
   have h2 : lbN p x.toNat y.toNat = none := by
    unfold lbN
    rw [List.getElem?_eq_none (by omega)]
    rfl
   rw [h2]
   split
   ·rw [List.getElem?_eq_none (by omega)]; rfl
   ·rfl
 ·rw [if_neg h0, if_neg h0]
theorem labK_put {p : I.Im} {k j t : Nat} {f : F.Fu} (hf : p.fn[k]? = some f) (hj : (tgs f.bd)[j]? = some t) (x y : Int) : labK p k (j + 1) x y = setP (labK p k j) (k : Int) (t : Int) j x y := by
 obtain ⟨hl, ht⟩ := List.getElem?_eq_some_iff.1 hj
 unfold setP labK
 by_cases h0 : 0 ≤ x ∧ 0 ≤ y
 ·rw [if_pos h0, if_pos h0]
  by_cases h1 : x.toNat < k
  ·rw [if_pos h1, if_pos h1, if_neg (by omega)]
  ·rw [if_neg h1, if_neg h1]
   by_cases h2 : x.toNat = k
   ·rw [if_pos h2, if_pos h2, hf]
    show List.findIdx? _ ((tgs f.bd).take (j + 1)) = if _ then _ else List.findIdx? _ ((tgs f.bd).take j)
    have hno : ((tgs f.bd).take j).findIdx? (fun i => decide (i = t)) = none := by
     rw [List.findIdx?_eq_none_iff]
     intro i hi
     refine decide_eq_false fun e => ?_
     subst e
     obtain ⟨q, hq, e2⟩ := List.getElem_of_mem hi
     have hq2 : q < j := by simp at hq; omega
     rw [List.getElem_take] at e2
     exact (List.pairwise_iff_getElem.1 (tgs_nodup f.bd)) q j (by omega) hl hq2 (e2.trans ht.symm)
    rw [List.take_succ_eq_append_getElem hl, List.findIdx?_append, ht]
    by_cases h3 : y = (t : Int)
    ·rw [if_pos ⟨by omega, h3⟩]
     have h4 : y.toNat = t := by omega
     rw [h4, hno]
     have : ((tgs f.bd).take j).length = j := by simp; omega
     simp [this]
    ·rw [if_neg (fun h => h3 h.2)]
     have h4 : ¬ t = y.toNat := by omega
     simp [h4]
   ·rw [if_neg h2, if_neg h2, if_neg (by omega)]
 ·rw [if_neg h0, if_neg h0, if_neg (by omega)]
theorem ivs_map_at {l : List Nat} {w : World} {A : Option Addr} (h : Rd w A (ivs (l.map fun i => ((i : Nat) : Int)))) (h0 : 0 < l.length) : ∃ g off, A = some ⟨g, off, none⟩ ∧ ∀ (i : Nat) (hi : i < l.length), w.cell? ⟨g, off + i, none⟩ = some (.int .i64 (l[i] : Int)) := by
 obtain ⟨g, off, e, hc⟩ := rdI_at h (by simpa using h0)
 exact ⟨g, off, e, fun i hi => by have := hc i (by simpa using hi); rwa [List.getElem_map] at this⟩

set_option maxRecDepth 100000 in
set_option maxHeartbeats 8000000 in
theorem labelsOf_any (v : I.IV) (es : List I.SE) (fs : List I.FE) (w : World) (h : I.ImAt w v es fs) (hp : ImOk (I.imOf es fs) ∨ fs = []) :
  Calls Tryz.prog 76 #[v.val] w fun e w' => ∃ b n, e = .returned (.map (some b)) ∧ PM b n (labF (I.imOf es fs)) w' ∧ w.heap.size ≤ b ∧ Keep NoB w w' := by
 have hB := Blk.new w 25 v.cells
 have k0 := (Keep.refl NoB w).alloc (.cells v.cells 25)
 have kM := k0.alloc (.map #[] 0)
 have hM := PMap.new Tryz.prog 82 3 (w.alloc (.cells v.cells 25))
 have hBM := hB.alloc (.map #[] 0)
 have HI := Lib.hid (fun W (hk : Keep NoB w W) => h.keepN hk)
 have hly := h.ly
 have hpn : (I.imOf es fs).fn = fs.map fun e => e.2 := rfl
 have hn64 : fs.length ≤ 64 := by
  rcases hp with hp | hp
  ·have := hp.nf; rw [hpn, List.length_map] at this; exact this
  ·subst hp; exact Nat.zero_le _
 have HPf : Hid (∀ (k : Nat) (hk : k < fs.length), (I.imOf es fs).fn[k]? = some fs[k].2 ∧ tgI fs[k].2.bd = (tgs fs[k].2.bd).map (fun i => ((i : Nat) : Int)) ∧ (tgs fs[k].2.bd).length ≤ 512 ∧ fs[k].2.bd.length ≤ 512 ∧ ∀ t ∈ tgs fs[k].2.bd, t < 512) := by
  intro k hk
  rcases hp with hp | hp
  ·have hf : (I.imOf es fs).fn[k]? = some fs[k].2 := by rw [hpn, List.getElem?_map, List.getElem?_eq_getElem hk]; rfl
   obtain ⟨h1, _⟩ := hp.fn hf
   obtain ⟨_, _, b3, b4⟩ := ok_body h1
   refine ⟨hf, tgI_eq b4, Nat.le_trans (tgs_len _) b3, b3, fun t ht => ?_⟩
   have := (tgs_mem.1 ht).1
   omega
  ·subst hp; exact absurd hk (Nat.not_lt_zero _)
 have HZ : Hid (∀ (b n : Nat) W, PM b n (labK (I.imOf es fs) fs.length 0) W → PM b n (labF (I.imOf es fs)) W) := fun b n W hm => hm.congr fun x y => by
  rw [← labK_all, hpn, List.length_map]
 have HNx : Hid (∀ (k : Nat) (hk : k < fs.length) (b n : Nat) W, PM b n (labK (I.imOf es fs) k (tgs fs[k].2.bd).length) W → PM b n (labK (I.imOf es fs) (k + 1) 0) W) := fun k hk b n W hm => hm.congr fun x y => (labK_next (HPf.out k hk).1 x y).symm
 have HPt : Hid (∀ (k : Nat) (hk : k < fs.length) (j t : Nat), (tgs fs[k].2.bd)[j]? = some t → ∀ (b n : Nat) W, PM b n (setP (labK (I.imOf es fs) k j) (k : Int) (t : Int) j) W → PM b n (labK (I.imOf es fs) k (j + 1)) W) := fun k hk j t hj b n W hm => hm.congr fun x y => labK_put (HPf.out k hk).1 hj x y
 have H0 : Hid (PM (w.heap.size + 1) 0 (labK (I.imOf es fs) 0 0) ((w.alloc (.cells v.cells 25)).alloc (.map #[] 0))) := by
  rw [World.size_alloc] at hM
  exact hM.congr fun x y => labK_zero _ x y
 clear hM h hp hB hpn
 obtain ⟨X, nx, cx, Y, ny, cy⟩ := v
 dsimp only [I.IV.val, I.IV.cells] at *
 have p1 := hBM.cell 1
 simp only [List.getElem?_toArray, List.getElem?_cons_zero, List.getElem?_cons_succ] at p1
 have HLY := Lib.hid hly
 rw [hly] at hn64
 obtain ⟨i0, hi, hz0, hz1, hz2⟩ := info_parts int_info
 have hmm := @run_makeMap Tryz.prog
 clear hly k0 i0 hi hz0 hz1 hz2
 go_enter Tryz.func76, Tryz.ntmps76
 go_wp2
 generalize hW1 : (w.alloc (.cells #[.slice X nx cx, .slice Y ny cy] 25)).alloc (.map #[] 0) = W1 at *
 clear hW1 p1 hBM hmm
 go_loopw [12] (fun i wr => ∃ k N : Nat, k ≤ ny ∧ i = .int .i64 (k : Int) ∧ N ≤ 513 * k ∧ Hid (PM (w.heap.size + 1) N (labK (I.imOf es fs) k 0) wr) ∧ Keep NoB w wr) (fun i _ => ny - (intOf i).toNat)
 case atStart => exact ⟨0, 0, Nat.zero_le _, rfl, Nat.zero_le _, H0, kM⟩
 case round =>
  obtain ⟨k, N, hk, rfl, hN, HM, hK⟩ := hrel
  by_cases hlt : k < ny
  ·have hkf : k < fs.length := by rw [HLY.out]; exact hlt
   have hI := HI.out _ hK
   obtain ⟨g, off, hY, f0, f1, f2, f3, f4⟩ := I.fun_at hI.ry hkf
   have hF := hI.hf _ (List.getElem_mem hkf)
   obtain ⟨_, hT, hm5, hb5, ht5⟩ := HPf.out k hkf
   have HPt2 := Lib.hid (HPt.out k hkf)
   have HNx2 := Lib.hid (HNx.out k hkf)
   have hr := hF.rd
   have hl := hF.ld
   clear hI hF
   generalize fs[k] = fe at *
   obtain ⟨⟨S, A, na, ca, B, nb, cb, Lc, nl, cl, D, nd, cd⟩, f⟩ := fe
   dsimp only at *
   subst hY
   have hnd : nd ≤ 9000000000000 := by omega
   have h7 := Blk.new wr 37 #[.string S, .slice A na ca, .slice B nb cb, .slice Lc nl cl, .slice D nd cd]
   have k7 := (Keep.refl NoB wr).alloc (.cells #[.string S, .slice A na ca, .slice B nb cb, .slice Lc nl cl, .slice D nd cd] 37)
   have c4 := h7.cell 4
   simp only [List.getElem?_toArray, List.getElem?_cons_zero, List.getElem?_cons_succ] at c4
   have HT := Lib.hid (targets_any D f.bd nd cd _ (hr.keepN k7) (Lib.hid hl) hnd)
   have HM7 : Hid (PM (w.heap.size + 1) N (labK (I.imOf es fs) k 0) _) := HM.out.keep k7 id
   have hK7 := keepN hK k7
   rw [hT, List.length_map] at HT
   generalize hts : tgs f.bd = ts at *
   have hbl := HM.out.lt
   clear h7 k7 hr hl hT hts hK HM
   go_wp2_with fail
   refine HT.out.mono ?_
   clear HT f0 f1 f2 f3 f4 c4
   rintro e W8 ⟨B8, d8, rfl, hO, k8⟩
   have hK8 := keepN hK7 k8
   have HM8 : Hid (PM (w.heap.size + 1) N (labK (I.imOf es fs) k 0) W8) := HM7.out.keep k8 id
   obtain ⟨A', c', e', _, _, hrd, hob⟩ := hO.form
   injection e' with e1 _ e2
   subst e1 e2
   have HR8 := Lib.hid (And.intro hrd (fun (ad : Addr) (e : B8 = some ad) => (show ad.block ≠ w.heap.size + 1 from by have h1 : _ ≤ ad.block := (hob _ e).1; rw [World.size_alloc] at h1; omega)))
   obtain ⟨m, hm⟩ : ∃ m, ts.length = m := ⟨_, rfl⟩
   rw [hm] at hm5 ⊢
   have HMm := Lib.hid hm
   clear hO hob hrd hK7 k8 HM7 hm hbl
   go_wp2
   go_loopw [21] (fun i wr2 => ∃ j N2 : Nat, j ≤ m ∧ i = .int .i64 (j : Int) ∧ N2 ≤ 513 * k + j ∧ Hid (PM (w.heap.size + 1) N2 (labK (I.imOf es fs) k j) wr2) ∧ Keep NoB w wr2 ∧ Hid (Rd wr2 B8 (ivs (ts.map fun i => ((i : Nat) : Int))) ∧ ∀ ad : Addr, B8 = some ad → ad.block ≠ w.heap.size + 1)) (fun i _ => m - (intOf i).toNat)
   case atStart => exact ⟨0, N, Nat.zero_le _, rfl, hN, HM8, hK8, HR8⟩
   case round =>
    obtain ⟨j, N2, hj, rfl, hN2, HM2, hK2, HR2⟩ := hrel
    by_cases hlt2 : j < m
    ·have hjl : j < ts.length := by rw [HMm.out]; exact hlt2
     obtain ⟨g2, off2, hB2, hc⟩ := ivs_map_at HR2.out.1 (by omega)
     have cj := hc j hjl
     have hne := HR2.out.2 _ hB2
     have htb := ht5 _ (List.getElem_mem hjl)
     have HPj := Lib.hid (HPt2.out j _ (List.getElem?_eq_getElem hjl))
     clear hc
     generalize ts[j] = t at *
     obtain ⟨wu, hrun, hpm, hgr⟩ := pm_put HM2.out (by unfold maxLen; omega) k t j (by omega) (by omega) (by omega)
     have HM3 := Lib.hid (HPj.out _ _ _ hpm)
     have hKu : Keep (fun q => q = w.heap.size + 1) wr wu := (Keep.refl _ _).grown hgr (fun g e _ => by injection e with e; exact e.symm)
     have hK3 : Keep NoB w wu := hK2.trans hKu (fun q hq hl => by omega)
     have HR3 : Hid (Rd wu B8 (ivs (ts.map fun i => ((i : Nat) : Int))) ∧ ∀ ad : Addr, B8 = some ad → ad.block ≠ w.heap.size + 1) := ⟨HR2.out.1.keep hKu (fun ad e hq => HR2.out.2 ad e hq), HR2.out.2⟩
     have hB2' := hB2
     subst hB2'
     clear hpm hgr hKu hK2 HR2 HM2 hne HPj hB2
     go_wp2
     go_roundw
     case rel => exact ⟨j + 1, N2 + 1, by omega, by go_num, by omega, HM3, hK3, HR3⟩
     case measure => simp [intOf]; omega
    ·obtain rfl : j = m := by omega
     have HMf : Hid (PM (w.heap.size + 1) N2 (labK (I.imOf es fs) (k + 1) 0) wr) := HNx2.out _ _ _ (by rw [HMm.out]; exact HM2.out)
     clear HM2 HR2 HR8 HM8
     go_wp2
     go_roundw
     case rel => exact ⟨k + 1, N2, by omega, by go_num, by omega, HMf, hK2⟩
     case measure => simp [intOf]; omega
  ·obtain rfl : k = ny := by omega
   have HMf : Hid (PM (w.heap.size + 1) N (labF (I.imOf es fs)) wr) := HZ.out _ _ _ (by rw [HLY.out]; exact HM.out)
   clear HM
   go_wp2
   go_ret
   exact ⟨_, _, rfl, HMf.out, by omega, hK⟩

end Go.Proofs.YtgnooffedmeenaaGreatDoor.M.L

namespace Go.Proofs.YtgnooffedmeenaaGreatDoor.M.L
open Go.RowKit W

def namedH (v : I.IV) (b b1 b2 : Nat) : SH := ⟨v, some b, 77, #[.pointer (some ⟨b1, 0, none⟩), .pointer (some ⟨b2, 0, none⟩)], 90, #[]⟩

set_option maxRecDepth 100000 in
set_option maxHeartbeats 4000000 in
theorem numbered_any (v : I.IV) (es : List I.SE) (fs : List I.FE) (w : World) (h : I.ImAt w v es fs) (hl : I.LgI v es fs) :
  Calls Tryz.prog 43 #[v.val] w fun e w' => e = .returned (numbH (cutV (I.okI (I.imOf es fs)) v)).val ∧ Keep NoB w w' := by
 have HC := Lib.hid (fun W (hk : Keep NoB w W) => plain_any v es fs W (h.keepN hk) hl)
 have hB := (Blk.new w 25 v.cells).alloc (.cells #[.slice none 0 0, .slice none 0 0, .map none, .nilFunc, .nilFunc] 72)
 have hS := Blk.new (w.alloc (.cells v.cells 25)) 72 #[.slice none 0 0, .slice none 0 0, .map none, .nilFunc, .nilFunc]
 have k0 := ((Keep.refl NoB w).alloc (.cells v.cells 25)).alloc (.cells #[.slice none 0 0, .slice none 0 0, .map none, .nilFunc, .nilFunc] 72)
 rw [World.size_alloc] at hS
 clear h hl
 generalize cutV (I.okI (I.imOf es fs)) v = u at *
 obtain ⟨X, nx, cx, Y, ny, cy⟩ := v
 obtain ⟨X', nx', cx', Y', ny', cy'⟩ := u
 dsimp only [I.IV.val, I.IV.cells, plainH, numbH, SH.val, SH.cells] at *
 have c0 := hB.cell 0
 have c1 := hB.cell 1
 simp only [List.getElem?_toArray, List.getElem?_cons_zero, List.getElem?_cons_succ] at c0 c1
 go_enter Tryz.func43, Tryz.ntmps43
 go_wp2_with fail
 refine (HC.out _ k0).mono ?_
 rintro e w1 ⟨rfl, k1⟩
 have hK1 := keepN k0 k1
 have hS1 := hS.keep k1 id
 have hS2 := hS1.alloc (.cells #[.slice X' nx' cx', .slice Y' ny' cy', .map none, .func (.func 89) #[] #[], .func (.func 90) #[] #[]] 72)
 have hT2 := Blk.new w1 72 #[.slice X' nx' cx', .slice Y' ny' cy', .map none, .func (.func 89) #[] #[], .func (.func 90) #[] #[]]
 have hK2 := hK1.alloc (.cells #[.slice X' nx' cx', .slice Y' ny' cy', .map none, .func (.func 89) #[] #[], .func (.func 90) #[] #[]] 72)
 generalize hW2 : w1.alloc (.cells #[.slice X' nx' cx', .slice Y' ny' cy', .map none, .func (.func 89) #[] #[], .func (.func 90) #[] #[]] 72) = W2 at *
 have hz : w.heap.size + 1 < w1.heap.size := hS1.lt
 have hne : w.heap.size + 1 ≠ w1.heap.size := by omega
 have t0 := hT2.cell 0
 have t1 := hT2.cell 1
 have t2 := hT2.cell 2
 have t3 := hT2.cell 3
 have t4 := hT2.cell 4
 simp only [List.getElem?_toArray, List.getElem?_cons_zero, List.getElem?_cons_succ] at t0 t1 t2 t3 t4
 have f2 := fun i => hT2.frozen i
 have l2 := hT2.lt
 have hT3 := hT2.put 4 (.func (.func 91) #[] #[])
 have hS3 := hS2.far (p := ⟨w1.heap.size, 4, none⟩) hne (.func (.func 91) #[] #[])
 have hK3 : Keep NoB w (W2.setCell ⟨w1.heap.size, 4, none⟩ (.func (.func 91) #[] #[])) := hK2.setCell (p := ⟨w1.heap.size, 4, none⟩) (fun h => absurd h (by show ¬ w1.heap.size < w.heap.size; omega)) _
 simp only [List.setIfInBounds_toArray, List.set_cons_zero, List.set_cons_succ] at hT3
 generalize hW3 : W2.setCell ⟨w1.heap.size, 4, none⟩ (.func (.func 91) #[] #[]) = W3 at *
 have u0 := hT3.cell 0
 have u1 := hT3.cell 1
 have u2 := hT3.cell 2
 have u3 := hT3.cell 3
 have u4 := hT3.cell 4
 simp only [List.getElem?_toArray, List.getElem?_cons_zero, List.getElem?_cons_succ] at u0 u1 u2 u3 u4
 have s0 := hS3.cell 0
 have s1 := hS3.cell 1
 have s2 := hS3.cell 2
 have s3 := hS3.cell 3
 have s4 := hS3.cell 4
 simp only [List.getElem?_toArray, List.getElem?_cons_zero, List.getElem?_cons_succ] at s0 s1 s2 s3 s4
 have f3 := fun i => hS3.frozen i
 have l3 := hS3.lt
 have HS3 := Lib.hid (sheet_put hS3 (.slice X' nx' cx') (.slice Y' ny' cy') (.map none) (.func (.func 89) #[] #[]) (.func (.func 91) #[] #[]))
 have HK3 := Lib.hid (sheet_keep hK3 (.slice X' nx' cx') (.slice Y' ny' cy') (.map none) (.func (.func 89) #[] #[]) (.func (.func 91) #[] #[]) (by omega : w.heap.size ≤ w.heap.size + 1))
 clear hB hS k0 k1 hK1 hK2 hK3 hS1 hS2 hS3 hT2 hT3 c0 c1 HC
 go_wp2
 have b3 := HS3.out
 have o0 := b3.cell 0
 have o1 := b3.cell 1
 have o2 := b3.cell 2
 have o3 := b3.cell 3
 have o4 := b3.cell 4
 simp only [List.getElem?_toArray, List.getElem?_cons_zero, List.getElem?_cons_succ] at o0 o1 o2 o3 o4
 refine bodyPost_ret (v := .agg #[.slice X' nx' cx', .slice Y' ny' cy', .map none, .func (.func 89) #[] #[], .func (.func 91) #[] #[]]) (by simp [results, Tryz.results43, go_sem, o0, o1, o2, o3, o4]) rfl ?_
 exact ⟨rfl, HK3.out⟩

def SNd (m b3 : Nat) (X' : Option Addr) (nx' cx' : Nat) (Y' : Option Addr) (ny' cy' : Nat) (p : I.Im) : Nat → Value → World → Prop
 | 0 => fun u _ => u = .pointer (some ⟨b3, 0, none⟩)
 | 1 => fun u _ => u = .pointer (some ⟨b3, 1, none⟩)
 | 2 => fun u _ => u = .slice Y' ny' cy'
 | 3 => fun u _ => u = .pointer (some ⟨b3, 0, none⟩)
 | 4 => fun u _ => u = .agg #[.slice X' nx' cx', .slice Y' ny' cy']
 | 5 => fun u W => ∃ b n, u = .map (some b) ∧ PM b n (labF p) W ∧ m ≤ b
 | 6 => fun u W => ∃ g, u = .pointer (some ⟨g, 0, none⟩) ∧ m ≤ g ∧ Blk W g 23 #[.slice none 0 0]
 | 7 => fun u W => ∃ g, u = .pointer (some ⟨g, 0, none⟩) ∧ m ≤ g ∧ Blk W g 69 #[.map none]
 | _ => fun _ _ => True
theorem SNd_stable (m b3 : Nat) (X' : Option Addr) (nx' cx' : Nat) (Y' : Option Addr) (ny' cy' : Nat) (p : I.Im) : ∀ i u W W', SNd m b3 X' nx' cx' Y' ny' cy' p i u W → Keep NoB W W' → SNd m b3 X' nx' cx' Y' ny' cy' p i u W'
 | 0, _, _, _, h, _ | 1, _, _, _, h, _ | 2, _, _, _, h, _ | 3, _, _, _, h, _ | 4, _, _, _, h, _ => h
 | 5, _, _, _, ⟨b, n, e, h1, h2⟩, hk => ⟨b, n, e, h1.keep hk id, h2⟩
 | 6, _, _, _, ⟨g, e, hm, hb⟩, hk => ⟨g, e, hm, hb.keep hk id⟩
 | 7, _, _, _, ⟨g, e, hm, hb⟩, hk => ⟨g, e, hm, hb.keep hk id⟩
 | _ + 8, _, _, _, h, _ => h


theorem sheet_other {W : World} {b g4 g5 bm n : Nat} {T : TypeId} {cs c4 c5 : Array Value} {T4 T5 : TypeId} {f : Int → Int → Option Nat} (_h : Blk W b T cs) (h4 : Blk W g4 T4 c4) (h5 : Blk W g5 T5 c5) (hm : PM bm n f W) (e4 : g4 ≠ b) (e5 : g5 ≠ b) (em : bm ≠ b) (u0 u1 u2 u3 u4 : Value) :
  PM bm n f (sheetW W b u0 u1 u2 u3 u4) ∧ Blk (sheetW W b u0 u1 u2 u3 u4) g5 T5 c5 ∧ Blk (sheetW W b u0 u1 u2 u3 u4) g4 T4 c4 := by
 have key : ∀ k, k ≠ b → (sheetW W b u0 u1 u2 u3 u4).heap[k]? = W.heap[k]? := fun k hk =>
  (Below.heap_setCell _ ⟨b, 4, none⟩ _ _ hk).trans ((Below.heap_setCell _ ⟨b, 3, none⟩ _ _ hk).trans ((Below.heap_setCell _ ⟨b, 2, none⟩ _ _ hk).trans ((Below.heap_setCell _ ⟨b, 1, none⟩ _ _ hk).trans (Below.heap_setCell _ ⟨b, 0, none⟩ _ _ hk))))
 exact ⟨hm.same (key _ em), (key _ e5).trans h5, (key _ e4).trans h4⟩

set_option maxRecDepth 100000 in
set_option maxHeartbeats 8000000 in
theorem named_raw (v : I.IV) (es : List I.SE) (fs : List I.FE) (w : World) (h : I.ImAt w v es fs) (hl : I.LgI v es fs) (u : I.IV) (p : I.Im) (hu : Hid (cutV (I.okI (I.imOf es fs)) v = u))
  (HLB0 : Hid (∀ W, Keep NoB w W → Calls Tryz.prog 76 #[u.val] W fun e w' => ∃ b n, e = .returned (.map (some b)) ∧ PM b n (labF p) w' ∧ W.heap.size ≤ b ∧ Keep NoB W w')) :
  Calls Tryz.prog 39 #[v.val] w fun e w' => ∃ b n b1 b2, e = .returned (namedH u b b1 b2).val ∧ (PM b n (labF p) w' ∧ Blk w' b1 69 #[.map (some b)] ∧ Blk w' b2 23 #[.slice u.Y u.ny u.cy]) ∧ (w.heap.size ≤ b ∧ w.heap.size ≤ b1 ∧ w.heap.size ≤ b2) ∧ Keep NoB w w' := by
 have HC := Lib.hid (fun W (hk : Keep NoB w W) => plain_any v es fs W (h.keepN hk) hl)
 have hB := (Blk.new w 25 v.cells).alloc (.cells #[.slice none 0 0, .slice none 0 0, .map none, .nilFunc, .nilFunc] 72)
 have hS := Blk.new (w.alloc (.cells v.cells 25)) 72 #[.slice none 0 0, .slice none 0 0, .map none, .nilFunc, .nilFunc]
 have k0 := ((Keep.refl NoB w).alloc (.cells v.cells 25)).alloc (.cells #[.slice none 0 0, .slice none 0 0, .map none, .nilFunc, .nilFunc] 72)
 rw [World.size_alloc] at hS
 rw [hu.out] at HC
 clear h hl hu
 obtain ⟨X, nx, cx, Y, ny, cy⟩ := v
 obtain ⟨X', nx', cx', Y', ny', cy'⟩ := u
 dsimp only [I.IV.val, I.IV.cells, plainH, namedH, SH.val, SH.cells] at *
 have c0 := hB.cell 0
 have c1 := hB.cell 1
 simp only [List.getElem?_toArray, List.getElem?_cons_zero, List.getElem?_cons_succ] at c0 c1
 go_enter Tryz.func39, Tryz.ntmps39
 go_wp2_with fail
 refine (HC.out _ k0).mono ?_
 rintro e w1 ⟨rfl, k1⟩
 have hK1 := keepN k0 k1
 have hS1 := hS.keep k1 id
 have hS2 := hS1.alloc (.cells #[.slice X' nx' cx', .slice Y' ny' cy', .map none, .func (.func 89) #[] #[], .func (.func 90) #[] #[]] 72)
 have hT2 := Blk.new w1 72 #[.slice X' nx' cx', .slice Y' ny' cy', .map none, .func (.func 89) #[] #[], .func (.func 90) #[] #[]]
 have hK2 := hK1.alloc (.cells #[.slice X' nx' cx', .slice Y' ny' cy', .map none, .func (.func 89) #[] #[], .func (.func 90) #[] #[]] 72)
 have t0 := hT2.cell 0
 have t1 := hT2.cell 1
 have t2 := hT2.cell 2
 have t3 := hT2.cell 3
 have t4 := hT2.cell 4
 simp only [List.getElem?_toArray, List.getElem?_cons_zero, List.getElem?_cons_succ] at t0 t1 t2 t3 t4
 clear hB hS k0 k1 hK1 c0 c1 HC
 go_wp2_with fail
 generalize hW2 : w1.alloc (.cells #[.slice X' nx' cx', .slice Y' ny' cy', .map none, .func (.func 89) #[] #[], .func (.func 90) #[] #[]] 72) = W2 at *
 clear hW2
 have HLB := Lib.hid (fun W (hk : Keep NoB W2 W) => HLB0.out W (keepN hK2 hk))
 clear HLB0
 refine wp_region_tail (fun i => [8, 9, 10, 11, 12, 13, 4, 5].getD i 0) 8 (by kernel_rfl) (by kernel_rfl) (by kernel_rfl) (by kernel_rfl) (by kernel_rfl) (SNd W2.heap.size w1.heap.size X' nx' cx' Y' ny' cy' p) (fun i u x y h hk => SNd_stable _ _ _ _ _ _ _ _ _ i u x y h hk) rfl ?step ?fin
 case step =>
  intro i o a w' hoo hi hF hK hA
  by_cases h0 : i = 0
  ·subst h0
   simp only [List.getElem?_toArray, List.getElem?_cons_zero, Option.some.injEq] at hoo
   subst hoo
   have e3 : a.tmps.getD 3 undef = .pointer (some ⟨w1.heap.size, 0, none⟩) := hF.2.2 3 (by decide)
   refine Does.plain rfl ?_
   unfold yieldsK
   go_simp
   exact ⟨rfl, Keep.refl _ _⟩
  by_cases h1 : i = 1
  ·subst h1
   simp only [List.getElem?_toArray, List.getElem?_cons_zero, List.getElem?_cons_succ, Option.some.injEq] at hoo
   subst hoo
   have e8 : a.tmps.getD 8 undef = .pointer (some ⟨w1.heap.size, 0, none⟩) := hA ⟨0, .data⟩ (by simp) rfl
   refine Does.plain rfl ?_
   unfold yieldsK
   go_simp
   exact ⟨rfl, Keep.refl _ _⟩
  by_cases h2 : i = 2
  ·subst h2
   simp only [List.getElem?_toArray, List.getElem?_cons_zero, List.getElem?_cons_succ, Option.some.injEq] at hoo
   subst hoo
   have e9 : a.tmps.getD 9 undef = .pointer (some ⟨w1.heap.size, 1, none⟩) := hA ⟨1, .data⟩ (by simp) rfl
   have c1 := Keep.cell hK t1 id
   refine Does.plain rfl ?_
   unfold yieldsK
   go_simp
   exact ⟨rfl, Keep.refl _ _⟩
  by_cases h3 : i = 3
  ·subst h3
   simp only [List.getElem?_toArray, List.getElem?_cons_zero, List.getElem?_cons_succ, Option.some.injEq] at hoo
   subst hoo
   have e3 : a.tmps.getD 3 undef = .pointer (some ⟨w1.heap.size, 0, none⟩) := hF.2.2 3 (by decide)
   refine Does.plain rfl ?_
   unfold yieldsK
   go_simp
   exact ⟨rfl, Keep.refl _ _⟩
  by_cases h4 : i = 4
  ·subst h4
   simp only [List.getElem?_toArray, List.getElem?_cons_zero, List.getElem?_cons_succ, Option.some.injEq] at hoo
   subst hoo
   have e11 : a.tmps.getD 11 undef = .pointer (some ⟨w1.heap.size, 0, none⟩) := hA ⟨3, .data⟩ (by simp) rfl
   have c0 := Keep.cell hK t0 id
   have c1 := Keep.cell hK t1 id
   refine Does.plain rfl ?_
   unfold yieldsK
   go_simp
   exact ⟨rfl, Keep.refl _ _⟩
  by_cases h5 : i = 5
  ·subst h5
   simp only [List.getElem?_toArray, List.getElem?_cons_zero, List.getElem?_cons_succ, Option.some.injEq] at hoo
   subst hoo
   have e12 : a.tmps.getD 12 undef = (.agg #[.slice X' nx' cx', .slice Y' ny' cy'] : Value) := hA ⟨4, .data⟩ (by simp) rfl
   refine Does.plain rfl ?_
   unfold yieldsK
   go_simp
   refine (HLB.out w' hK).mono ?_
   rintro e w9 ⟨b, n, rfl, hpm, hb, hk9⟩
   have hks := hK.size
   exact ⟨_, rfl, ⟨b, n, rfl, hpm, by omega⟩, hk9⟩
  by_cases h6 : i = 6
  ·subst h6
   simp only [List.getElem?_toArray, List.getElem?_cons_zero, List.getElem?_cons_succ, Option.some.injEq] at hoo
   subst hoo
   refine Does.plain rfl ?_
   unfold yieldsK
   go_simp
   exact ⟨⟨w'.heap.size, rfl, hK.size, Blk.new _ _ _⟩, (Keep.refl _ _).alloc _⟩
  by_cases h7 : i = 7
  ·subst h7
   simp only [List.getElem?_toArray, List.getElem?_cons_zero, List.getElem?_cons_succ, Option.some.injEq] at hoo
   subst hoo
   refine Does.plain rfl ?_
   unfold yieldsK
   go_simp
   exact ⟨⟨w'.heap.size, rfl, hK.size, Blk.new _ _ _⟩, (Keep.refl _ _).alloc _⟩
  omega
 case fin =>
  intro a w' hF gK hA
  obtain ⟨b, n, e13, hpm, hb⟩ := hA 5 (by decide)
  have e13 : a.tmps.getD 13 undef = .map (some b) := e13
  have e10 : a.tmps.getD 10 undef = .slice Y' ny' cy' := hA 2 (by decide)
  obtain ⟨g4, e4, hg4, b4⟩ := hA 6 (by decide)
  have e4 : a.tmps.getD 4 undef = .pointer (some ⟨g4, 0, none⟩) := e4
  obtain ⟨g5, e5, hg5, b5⟩ := hA 7 (by decide)
  have e5 : a.tmps.getD 5 undef = .pointer (some ⟨g5, 0, none⟩) := e5
  have ha := frameD_list (l := [8, 9, 10, 11, 12, 13, 4, 5]) rfl hF
  rw [ha]
  simp only [List.map_cons, List.map_nil, e10, e13, e4, e5]
  generalize a.tmps.getD 8 undef = u0
  generalize a.tmps.getD 9 undef = u1
  generalize a.tmps.getD 11 undef = u3
  generalize a.tmps.getD 12 undef = u4
  simp only [fillD, List.setIfInBounds_toArray, List.set_cons_zero, List.set_cons_succ]
  have hne : g5 ≠ g4 := fun e => by subst e; have h1 : _ = _ := b4; have h2 : _ = _ := b5; rw [h1] at h2; cases h2
  have hzW : w1.heap.size < W2.heap.size := hT2.lt
  have hzw : w.heap.size + 1 < w1.heap.size := hS1.lt
  have hb4n : b ≠ g4 := fun e => by subst e; obtain ⟨es, cc, h1⟩ := hpm.obj; have h2 : _ = _ := b4; rw [h1] at h2; cases h2
  have hb5n : b ≠ g5 := fun e => by subst e; obtain ⟨es, cc, h1⟩ := hpm.obj; have h2 : _ = _ := b5; rw [h1] at h2; cases h2
  have hT' := hT2.keep gK id
  have hS' := hS2.keep gK id
  have hKw := keepN hK2 gK
  have x4 := b4.cell 0
  have x5 := b5.cell 0
  simp only [List.getElem?_toArray, List.getElem?_cons_zero] at x4 x5
  have y4 := fun i => b4.frozen i
  have y5 := fun i => b5.frozen i
  have z4 := b4.lt
  have z5 := b5.lt
  obtain ⟨W4, hW4⟩ : ∃ W4, w'.setCell ⟨g4, 0, none⟩ (.slice Y' ny' cy') = W4 := ⟨_, rfl⟩
  have b4' : Blk W4 g4 23 #[.slice Y' ny' cy'] := by rw [← hW4]; exact b4.put 0 _
  have b5' : Blk W4 g5 69 #[.map none] := by rw [← hW4]; exact b5.far (p := ⟨g4, 0, none⟩) hne _
  have pm4 : PM b n (labF p) W4 := by rw [← hW4]; exact hpm.same (Below.heap_setCell _ _ _ _ hb4n)
  have hT4 : Blk W4 w1.heap.size 72 #[.slice X' nx' cx', .slice Y' ny' cy', .map none, .func (.func 89) #[] #[], .func (.func 90) #[] #[]] := by rw [← hW4]; exact hT'.far (p := ⟨g4, 0, none⟩) (by show w1.heap.size ≠ g4; omega) _
  have hS4 : Blk W4 (w.heap.size + 1) 72 #[.slice none 0 0, .slice none 0 0, .map none, .nilFunc, .nilFunc] := by rw [← hW4]; exact hS'.far (p := ⟨g4, 0, none⟩) (by show w.heap.size + 1 ≠ g4; omega) _
  have hK4 : Keep NoB w W4 := by rw [← hW4]; exact hKw.setCell (p := ⟨g4, 0, none⟩) (fun h => absurd h (by show ¬ g4 < w.heap.size; omega)) _
  have v5 := fun i => b5'.frozen i
  have u5 := b5'.cell 0
  simp only [List.getElem?_toArray, List.getElem?_cons_zero] at u5
  have w5 := b5'.lt
  obtain ⟨W5, hW5⟩ : ∃ W5, W4.setCell ⟨g5, 0, none⟩ (.map (some b)) = W5 := ⟨_, rfl⟩
  have b4'' : Blk W5 g4 23 #[.slice Y' ny' cy'] := by rw [← hW5]; exact b4'.far (p := ⟨g5, 0, none⟩) (fun e => hne e.symm) _
  have b5'' : Blk W5 g5 69 #[.map (some b)] := by rw [← hW5]; exact b5'.put 0 _
  have pm5 : PM b n (labF p) W5 := by rw [← hW5]; exact pm4.same (Below.heap_setCell _ _ _ _ hb5n)
  have hT5 : Blk W5 w1.heap.size 72 #[.slice X' nx' cx', .slice Y' ny' cy', .map none, .func (.func 89) #[] #[], .func (.func 90) #[] #[]] := by rw [← hW5]; exact hT4.far (p := ⟨g5, 0, none⟩) (by show w1.heap.size ≠ g5; omega) _
  have hS5 : Blk W5 (w.heap.size + 1) 72 #[.slice none 0 0, .slice none 0 0, .map none, .nilFunc, .nilFunc] := by rw [← hW5]; exact hS4.far (p := ⟨g5, 0, none⟩) (by show w.heap.size + 1 ≠ g5; omega) _
  have hK5 : Keep NoB w W5 := by rw [← hW5]; exact hK4.setCell (p := ⟨g5, 0, none⟩) (fun h => absurd h (by show ¬ g5 < w.heap.size; omega)) _
  have m5 := b5''.cell 0
  simp only [List.getElem?_toArray, List.getElem?_cons_zero] at m5
  have tf5 := fun i => hT5.frozen i
  have tl5 := hT5.lt
  have tc5 := hT5.cell 2
  have td5 := hT5.cell 3
  simp only [List.getElem?_toArray, List.getElem?_cons_zero, List.getElem?_cons_succ] at tc5 td5
  obtain ⟨W6, hW6⟩ : ∃ W6, W5.setCell ⟨w1.heap.size, 2, none⟩ (.map (some b)) = W6 := ⟨_, rfl⟩
  have b4_6 : Blk W6 g4 23 #[.slice Y' ny' cy'] := by rw [← hW6]; exact b4''.far (p := ⟨w1.heap.size, 2, none⟩) (by show g4 ≠ w1.heap.size; omega) _
  have b5_6 : Blk W6 g5 69 #[.map (some b)] := by rw [← hW6]; exact b5''.far (p := ⟨w1.heap.size, 2, none⟩) (by show g5 ≠ w1.heap.size; omega) _
  have pm6 : PM b n (labF p) W6 := by rw [← hW6]; exact pm5.same (Below.heap_setCell _ _ _ _ (by show b ≠ w1.heap.size; omega))
  have hT6 : Blk W6 w1.heap.size 72 #[.slice X' nx' cx', .slice Y' ny' cy', .map (some b), .func (.func 89) #[] #[], .func (.func 90) #[] #[]] := by rw [← hW6]; exact hT5.put 2 _
  have hS6 : Blk W6 (w.heap.size + 1) 72 #[.slice none 0 0, .slice none 0 0, .map none, .nilFunc, .nilFunc] := by rw [← hW6]; exact hS5.far (p := ⟨w1.heap.size, 2, none⟩) (by show w.heap.size + 1 ≠ w1.heap.size; omega) _
  have hK6 : Keep NoB w W6 := by rw [← hW6]; exact hK5.setCell (p := ⟨w1.heap.size, 2, none⟩) (fun h => absurd h (by show ¬ w1.heap.size < w.heap.size; omega)) _
  have tf6 := fun i => hT6.frozen i
  have tl6 := hT6.lt
  have td6 := hT6.cell 3
  simp only [List.getElem?_toArray, List.getElem?_cons_zero, List.getElem?_cons_succ] at td6
  obtain ⟨W7, hW7⟩ : ∃ W7, W6.setCell ⟨w1.heap.size, 3, none⟩ (.func (.func 77) #[] #[.pointer (some ⟨g5, 0, none⟩), .pointer (some ⟨g4, 0, none⟩)]) = W7 := ⟨_, rfl⟩
  have b4_7 : Blk W7 g4 23 #[.slice Y' ny' cy'] := by rw [← hW7]; exact b4_6.far (p := ⟨w1.heap.size, 3, none⟩) (by show g4 ≠ w1.heap.size; omega) _
  have b5_7 : Blk W7 g5 69 #[.map (some b)] := by rw [← hW7]; exact b5_6.far (p := ⟨w1.heap.size, 3, none⟩) (by show g5 ≠ w1.heap.size; omega) _
  have pm7 : PM b n (labF p) W7 := by rw [← hW7]; exact pm6.same (Below.heap_setCell _ _ _ _ (by show b ≠ w1.heap.size; omega))
  have hT7 : Blk W7 w1.heap.size 72 #[.slice X' nx' cx', .slice Y' ny' cy', .map (some b), .func (.func 77) #[] #[.pointer (some ⟨g5, 0, none⟩), .pointer (some ⟨g4, 0, none⟩)], .func (.func 90) #[] #[]] := by rw [← hW7]; exact hT6.put 3 _
  have hS7 : Blk W7 (w.heap.size + 1) 72 #[.slice none 0 0, .slice none 0 0, .map none, .nilFunc, .nilFunc] := by rw [← hW7]; exact hS6.far (p := ⟨w1.heap.size, 3, none⟩) (by show w.heap.size + 1 ≠ w1.heap.size; omega) _
  have hK7 : Keep NoB w W7 := by rw [← hW7]; exact hK6.setCell (p := ⟨w1.heap.size, 3, none⟩) (fun h => absurd h (by show ¬ w1.heap.size < w.heap.size; omega)) _
  have p0 := hT7.cell 0
  have p1 := hT7.cell 1
  have p2 := hT7.cell 2
  have p3 := hT7.cell 3
  have p4 := hT7.cell 4
  simp only [List.getElem?_toArray, List.getElem?_cons_zero, List.getElem?_cons_succ] at p0 p1 p2 p3 p4
  have q0 := hS7.cell 0
  have q1 := hS7.cell 1
  have q2 := hS7.cell 2
  have q3 := hS7.cell 3
  have q4 := hS7.cell 4
  simp only [List.getElem?_toArray, List.getElem?_cons_zero, List.getElem?_cons_succ] at q0 q1 q2 q3 q4
  have qf := fun i => hS7.frozen i
  have ql := hS7.lt
  have HS8 := Lib.hid (sheet_put hS7 (.slice X' nx' cx') (.slice Y' ny' cy') (.map (some b)) (.func (.func 77) #[] #[.pointer (some ⟨g5, 0, none⟩), .pointer (some ⟨g4, 0, none⟩)]) (.func (.func 90) #[] #[]))
  have HK8 := Lib.hid (sheet_keep hK7 (.slice X' nx' cx') (.slice Y' ny' cy') (.map (some b)) (.func (.func 77) #[] #[.pointer (some ⟨g5, 0, none⟩), .pointer (some ⟨g4, 0, none⟩)]) (.func (.func 90) #[] #[]) (by omega : w.heap.size ≤ w.heap.size + 1))
  have HN8 := Lib.hid (sheet_other hS7 b4_7 b5_7 pm7 (by omega) (by omega) (by omega) (.slice X' nx' cx') (.slice Y' ny' cy') (.map (some b)) (.func (.func 77) #[] #[.pointer (some ⟨g5, 0, none⟩), .pointer (some ⟨g4, 0, none⟩)]) (.func (.func 90) #[] #[]))
  have hbw : w.heap.size ≤ b ∧ w.heap.size ≤ g5 ∧ w.heap.size ≤ g4 := by omega
  clear b4 b5 hpm b4' b5' pm4 hT4 hS4 hK4 b4'' b5'' pm5 hT5 hS5 hK5 b4_6 b5_6 pm6 hT6 hS6 hK6 b4_7 b5_7 pm7 hT7 hS7 hK7 hT' hS' hKw hT2 hS2 hK2 hS1 hF gK hA HLB
  simp only [List.drop_succ_cons, List.drop_zero]
  go_wp2
  have b9 := HS8.out
  have o0 := b9.cell 0
  have o1 := b9.cell 1
  have o2 := b9.cell 2
  have o3 := b9.cell 3
  have o4 := b9.cell 4
  simp only [List.getElem?_toArray, List.getElem?_cons_zero, List.getElem?_cons_succ] at o0 o1 o2 o3 o4
  refine bodyPost_ret (v := .agg #[.slice X' nx' cx', .slice Y' ny' cy', .map (some b), .func (.func 77) #[] #[.pointer (some ⟨g5, 0, none⟩), .pointer (some ⟨g4, 0, none⟩)], .func (.func 90) #[] #[]]) (by simp [results, Tryz.results39, go_sem, o0, o1, o2, o3, o4]) rfl ?_
  exact ⟨b, n, g5, g4, rfl, HN8.out, hbw, HK8.out⟩

theorem cut_ok {w : World} {v : I.IV} {es : List I.SE} {fs : List I.FE} (h : I.ImAt w v es fs) : ImOk (I.imOf (cutE (I.okI (I.imOf es fs)) es) (cutF (I.okI (I.imOf es fs)) fs)) ∨ cutF (I.okI (I.imOf es fs)) fs = [] := by
 cases hok : I.okI (I.imOf es fs)
 ·exact .inr rfl
 ·refine .inl ⟨hok, fun f hf => ?_⟩
  obtain ⟨e, he, rfl⟩ := List.mem_map.1 hf
  exact (h.hf e he).hI
theorem named_any (v : I.IV) (es : List I.SE) (fs : List I.FE) (w : World) (h : I.ImAt w v es fs) (hl : I.LgI v es fs) :
  Calls Tryz.prog 39 #[v.val] w fun e w' => ∃ b n b1 b2, e = .returned (namedH (cutV (I.okI (I.imOf es fs)) v) b b1 b2).val ∧
   NmAt w' (I.imOf (cutE (I.okI (I.imOf es fs)) es) (cutF (I.okI (I.imOf es fs)) fs)) b n b1 b2 (cutV (I.okI (I.imOf es fs)) v).Y (cutV (I.okI (I.imOf es fs)) v).ny (cutV (I.okI (I.imOf es fs)) v).cy (cutF (I.okI (I.imOf es fs)) fs) ∧
   (w.heap.size ≤ b ∧ w.heap.size ≤ b1 ∧ w.heap.size ≤ b2) ∧ Keep NoB w w' := by
 refine (named_raw v es fs w h hl _ (I.imOf (cutE (I.okI (I.imOf es fs)) es) (cutF (I.okI (I.imOf es fs)) fs)) rfl (fun W hk => labelsOf_any _ _ _ W (cut_im (h.keepN hk)) (cut_ok h))).mono ?_
 rintro e w' ⟨b, n, b1, b2, rfl, ⟨h1, h2, h3⟩, h4, hk⟩
 have hi := (cut_im (b := I.okI (I.imOf es fs)) h).keepN hk
 exact ⟨b, n, b1, b2, rfl, ⟨h1, h2, h3, hi.ry, hi.ly, rfl, fun e he => (hi.hf e he).nm⟩, h4, hk⟩

end Go.Proofs.YtgnooffedmeenaaGreatDoor.M.L

namespace Go.Proofs.YtgnooffedmeenaaGreatDoor.O
open Go.RowKit

def CellsAt (W : World) (k : Nat) : Prop := ∃ cs t f, W.heap[k]? = some (.cells cs t f)
theorem CellsAt.lt {W : World} {k : Nat} (h : CellsAt W k) : k < W.heap.size := by obtain ⟨_, _, _, h⟩ := h; exact (Array.getElem?_eq_some_iff.1 h).1
end Go.Proofs.YtgnooffedmeenaaGreatDoor.O

namespace Go.Proofs.YtgnooffedmeenaaGreatDoor.O
open Go.RowKit Go.Shelf
attribute [local go_sem] Oper.semAt_some

end Go.Proofs.YtgnooffedmeenaaGreatDoor.O

namespace Go.Proofs.YtgnooffedmeenaaGreatDoor.O
open Go.RowKit

set_option maxHeartbeats 1000000 in
theorem show_any (op a b : Int) (w : World) (ha : I64 a) (hb : I64 b) (hL : LaidO w) :
  Calls Tryz.prog 211 #[instV op a b] w fun e w' => e = .returned (.string (str (showI op a b))) ∧ Keep NoB w w' := by
 cases hok : okI op a b
 ·have hK := (Keep.refl NoB w).alloc (.cells #[.int .i64 op, .int .i64 a, .int .i64 b] 55)
  have HR := Lib.hid (fun w => rowFor_any op a b row0 w (rowR_no hok))
  rw [hok] at HR
  have HX : Hid (showI op a b = []) := by show _ = _; unfold showI; rw [if_neg (by rw [hok]; decide)]
  clear hok ha hb hL
  go_enter Tryz.func211, Tryz.ntmps211
  go_wp2_with fail
  refine (HR.out _).mono ?_
  rintro e w1 ⟨rfl, k1⟩
  go_wp2
  go_ret
  exact ⟨by rw [HX.out]; rfl, (keepN hK k1).alloc _⟩
 ·refine (show_yes op a b w hok ha hb hL).mono ?_
  rintro e w' ⟨d, rfl, hd, hk⟩
  exact ⟨by rw [hd.out]; unfold showI; rw [if_pos hok], hk⟩

end Go.Proofs.YtgnooffedmeenaaGreatDoor.O

namespace Go.Proofs.YtgnooffedmeenaaGreatDoor.M.L
open Go.RowKit W

theorem showI_ok {x : C.I3} (h : C.ok1 x = true) : O.showI x.1 x.2.1 x.2.2 = joinW (wordsX x) := by
 rw [join_words]
 unfold O.showI
 rw [if_pos (show O.okI x.1 x.2.1 x.2.2 = true from h)]

set_option maxRecDepth 100000 in
set_option maxHeartbeats 4000000 in
theorem instr_named (u : I.IV) (p : I.Im) (hp : ImOk p) (b n b1 b2 : Nat) (fs : List I.FE) (w : World) (h : NmAt w p b n b1 b2 u.Y u.ny u.cy fs) (hL : O.LaidO w) (k : Nat) (f : F.Fu) (hf : p.fn[k]? = some f) (x : C.I3) (hx : x ∈ f.bd) :
  Calls Tryz.prog 147 #[(namedH u b b1 b2).val, .int .i64 (k : Int), O.instV x.1 x.2.1 x.2.2] w fun e w' => e = .returned (.string (str (joinW (insL (NWp p k x) x)))) ∧ Keep NoB w w' := by
 obtain ⟨h1, h2⟩ := hp.fn hf
 have hok := List.all_eq_true.1 (ok_body h1).1 x hx
 have hI := h2 x hx
 have hB := (Blk.new w 72 (namedH u b b1 b2).cells).alloc (.cells #[.int .i64 x.1, .int .i64 x.2.1, .int .i64 x.2.2] 55)
 have hX := Blk.new (w.alloc (.cells (namedH u b b1 b2).cells 72)) 55 #[.int .i64 x.1, .int .i64 x.2.1, .int .i64 x.2.2]
 have k0 := ((Keep.refl NoB w).alloc (.cells (namedH u b b1 b2).cells 72)).alloc (.cells #[.int .i64 x.1, .int .i64 x.2.1, .int .i64 x.2.2] 55)
 rw [World.size_alloc] at hX
 have HN1 := Lib.hid (fun W (hk : Keep NoB w W) => named1_any p hp b n b1 b2 u.Y u.ny u.cy fs W (h.keep hk) (hL.keep hk).lib k f hf x hx)
 have HNm := Lib.hid (fun W => (show Calls Tryz.prog 36 #[.int .i64 x.1] W fun e w' => e = .returned (.string (str (O.rowAt x.1).name)) ∧ Keep NoB W w' from O.name_any x.1 W))
 have HSh := Lib.hid (fun W (hk : Keep NoB w W) => (show Calls Tryz.prog 211 #[O.instV x.1 x.2.1 x.2.2] W fun e w' => e = .returned (.string (str (O.showI x.1 x.2.1 x.2.2))) ∧ Keep NoB W w' from O.show_any x.1 x.2.1 x.2.2 W hI.1 hI.2 (hL.keep hk)))
 have hnl := O.name_len x.1
 have hs32 : (opS p k x).length ≤ 32 := by
  unfold opS
  cases hn : NWp p k x with
  | none => exact Nat.zero_le _
  | some s => exact okN_le ((goodP hp.ok).nok k x s hn).1
 cases hn : NWp p k x with
 | none =>
  have e1 : opS p k x = [] ∧ opT p k x = false := by unfold opS opT; rw [hn]; exact ⟨rfl, rfl⟩
  rw [e1.1, e1.2] at HN1
  have HX : Hid (str (O.showI x.1 x.2.1 x.2.2) = str (joinW (insL none x))) := by show _ = _; rw [showI_ok hok]; rfl
  rw [← HX.out]
  clear h hL hp hf hx hok hI hn e1 HX h1 h2 HNm hnl hs32
  obtain ⟨op, a, c⟩ := x
  obtain ⟨X', nx', cx', Y', ny', cy'⟩ := u
  dsimp only [namedH, SH.val, SH.cells] at *
  generalize str (O.showI op a c) = S at *
  have s3 := hB.cell 3
  have x0 := hX.cell 0
  have x1 := hX.cell 1
  have x2 := hX.cell 2
  simp only [List.getElem?_toArray, List.getElem?_cons_zero, List.getElem?_cons_succ] at s3 x0 x1 x2
  go_enter Tryz.func147, Tryz.ntmps147
  go_wp2_with fail
  refine (HN1.out _ k0).mono ?_
  rintro e w1 ⟨rfl, k1⟩
  have hX1 := hX.keep k1 id
  have hK1 := keepN k0 k1
  clear hB hX k0 k1 s3 x0 x1 x2 HN1
  have x0 := hX1.cell 0
  have x1 := hX1.cell 1
  have x2 := hX1.cell 2
  simp only [List.getElem?_toArray, List.getElem?_cons_zero, List.getElem?_cons_succ] at x0 x1 x2
  go_wp2_with fail
  refine (HSh.out _ hK1).mono ?_
  rintro e w2 ⟨rfl, k2⟩
  go_wp2
  go_ret
  exact ⟨rfl, keepN hK1 k2⟩
 | some s =>
  have e1 : opS p k x = s ∧ opT p k x = true := by unfold opS opT; rw [hn]; exact ⟨rfl, rfl⟩
  rw [e1.1] at hs32
  rw [e1.1, e1.2] at HN1
  have HX : Hid (str (O.rowAt x.1).name ++ ((⟨#[32]⟩ : ByteArray)) ++ str s = str (joinW (insL (some s) x))) := by
   show _ = _
   rw [app_lit, str_app]
   show str _ = str ((O.rowAt x.1).name ++ 32 :: s)
   simp
  rw [← HX.out]
  have hz1 := str_size (O.rowAt x.1).name
  have hz2 := str_size s
  have q1 : (str (O.rowAt x.1).name).size ≤ 7 := by omega
  have q2 : (str s).size ≤ 32 := by omega
  clear h hL hp hf hx hok hI hn e1 HX h1 h2 HSh hz1 hz2 hnl hs32
  obtain ⟨op, a, c⟩ := x
  obtain ⟨X', nx', cx', Y', ny', cy'⟩ := u
  dsimp only [namedH, SH.val, SH.cells] at *
  generalize str (O.rowAt op).name = S1 at *
  generalize str s = S2 at *
  have s3 := hB.cell 3
  have x0 := hX.cell 0
  have x1 := hX.cell 1
  have x2 := hX.cell 2
  simp only [List.getElem?_toArray, List.getElem?_cons_zero, List.getElem?_cons_succ] at s3 x0 x1 x2
  go_enter Tryz.func147, Tryz.ntmps147
  go_wp2_with fail
  refine (HN1.out _ k0).mono ?_
  rintro e w1 ⟨rfl, k1⟩
  have hX1 := hX.keep k1 id
  have hK1 := keepN k0 k1
  clear hB hX k0 k1 s3 x0 x1 x2 HN1
  have x0 := hX1.cell 0
  simp only [List.getElem?_toArray, List.getElem?_cons_zero] at x0
  go_wp2_with fail
  refine (HNm.out _).mono ?_
  rintro e w2 ⟨rfl, k2⟩
  go_wp2
  go_ret
  exact ⟨rfl, keepN hK1 k2⟩

set_option maxRecDepth 100000 in
set_option maxHeartbeats 4000000 in
theorem instr_plain (u : I.IV) (bg : Nat) (w : World) (hL : O.LaidO w) (k : Nat) (x : C.I3) (hok : C.ok1 x = true) (hI : O.I64 x.2.1 ∧ O.I64 x.2.2) :
  Calls Tryz.prog 147 #[(SH.mk u none 89 #[] bg #[]).val, .int .i64 (k : Int), O.instV x.1 x.2.1 x.2.2] w fun e w' => e = .returned (.string (str (joinW (insL none x)))) ∧ Keep NoB w w' := by
 have hB := (Blk.new w 72 (SH.mk u none 89 #[] bg #[]).cells).alloc (.cells #[.int .i64 x.1, .int .i64 x.2.1, .int .i64 x.2.2] 55)
 have hX := Blk.new (w.alloc (.cells (SH.mk u none 89 #[] bg #[]).cells 72)) 55 #[.int .i64 x.1, .int .i64 x.2.1, .int .i64 x.2.2]
 have k0 := ((Keep.refl NoB w).alloc (.cells (SH.mk u none 89 #[] bg #[]).cells 72)).alloc (.cells #[.int .i64 x.1, .int .i64 x.2.1, .int .i64 x.2.2] 55)
 rw [World.size_alloc] at hX
 have HN1 := Lib.hid (fun W => plain1_any (k : Int) x.1 x.2.1 x.2.2 W)
 have HSh := Lib.hid (fun W (hk : Keep NoB w W) => (show Calls Tryz.prog 211 #[O.instV x.1 x.2.1 x.2.2] W fun e w' => e = .returned (.string (str (O.showI x.1 x.2.1 x.2.2))) ∧ Keep NoB W w' from O.show_any x.1 x.2.1 x.2.2 W hI.1 hI.2 (hL.keep hk)))
 have HX : Hid (str (O.showI x.1 x.2.1 x.2.2) = str (joinW (insL none x))) := by show _ = _; rw [showI_ok hok]; rfl
 rw [← HX.out]
 clear hL hok hI HX
 obtain ⟨op, a, c⟩ := x
 obtain ⟨X', nx', cx', Y', ny', cy'⟩ := u
 dsimp only [SH.val, SH.cells] at *
 generalize str (O.showI op a c) = S at *
 have s3 := hB.cell 3
 have x0 := hX.cell 0
 have x1 := hX.cell 1
 have x2 := hX.cell 2
 simp only [List.getElem?_toArray, List.getElem?_cons_zero, List.getElem?_cons_succ] at s3 x0 x1 x2
 go_enter Tryz.func147, Tryz.ntmps147
 go_wp2_with fail
 refine (HN1.out _).mono ?_
 rintro e w1 ⟨rfl, k1⟩
 have hX1 := hX.keep k1 id
 have hK1 := keepN k0 k1
 clear hB hX k0 k1 s3 x0 x1 x2 HN1
 have x0 := hX1.cell 0
 have x1 := hX1.cell 1
 have x2 := hX1.cell 2
 simp only [List.getElem?_toArray, List.getElem?_cons_zero, List.getElem?_cons_succ] at x0 x1 x2
 go_wp2_with fail
 refine (HSh.out _ hK1).mono ?_
 rintro e w2 ⟨rfl, k2⟩
 go_wp2
 go_ret
 exact ⟨rfl, keepN hK1 k2⟩

end Go.Proofs.YtgnooffedmeenaaGreatDoor.M.L
