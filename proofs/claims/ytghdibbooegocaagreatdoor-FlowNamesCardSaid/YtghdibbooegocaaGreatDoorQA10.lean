/-
  Part 10 of the proofs of GLoopsRow, GReachRow, GMustRow, GNamesRow: what is laid, and what the functions that the law runs answer. Conditions: each theorem names its own.
-/
import Derived.Test.YtghdibbooegocaaGreatDoorQA9
namespace Go.Proofs.YtghdibbooegocaaGreatDoor.G
open Go.RowKit W

def atN (l : List C.I3) (a0 : Int) : Option Nat := if 0 ≤ a0 ∧ a0.toNat ∈ reachL l then some a0.toNat else none
theorem atN_some {l : List C.I3} {a0 : Int} {a : Nat} (h : atN l a0 = some a) : a0 = (a : Int) ∧ a ∈ reachL l := by
 unfold atN at h
 split at h
 ·rename_i hc
  injection h with h
  subst h
  exact ⟨by omega, hc.2⟩
 ·cases h
theorem atN_of {l : List C.I3} {a : Nat} (h : a ∈ reachL l) : atN l (a : Int) = some a := by
 unfold atN
 rw [if_pos ⟨by omega, by simpa using h⟩]
 simp
theorem atN_none {l : List C.I3} {a0 : Int} (h : atN l a0 = none) : ¬ ∃ x ∈ reachL l, (x : Int) = a0 := by
 rintro ⟨x, hx, rfl⟩
 rw [atN_of hx] at h
 cases h
def errI (l : List C.I3) (a0 : Int) : Int := if (atN l a0).isSome = true then 0 else 110
def aheadI (l : List C.I3) (a0 : Int) : List Nat := match atN l a0 with
 | some a => aheadL l a
 | none => []
def distI (l : List C.I3) (a0 : Int) : Int := match atN l a0 with
 | some a => distL l a
 | none => 0
def mustI (l : List C.I3) (a0 : Int) : List Nat := match atN l a0 with
 | some a => mustL l a
 | none => []
def TupR (w : World) (L : List Nat) (E : Int) (e : Ending) (w' : World) : Prop := ∃ B c, e = .returned (.tuple #[.slice B L.length c, .int .i64 E]) ∧ Rd w' B (ivs (nz L)) ∧ Keep NoB w w'
theorem filter_next {d : List Nat} {P : Nat → Bool} {y : Nat} : (d ++ [y]).filter P = d.filter P ++ (if P y = true then [y] else []) := by
 rw [List.filter_append]
 congr 1
 by_cases h : P y = true
 ·rw [if_pos h]; simp [h]
 ·rw [if_neg h]; simp [h]
theorem contains_dec (l : List Nat) (a : Nat) : (nz l).contains (a : Int) = decide (a ∈ l) := by
 rw [Bool.eq_iff_iff, List.contains_iff_mem, decide_eq_true_iff, List.mem_map]
 exact ⟨fun ⟨x, hx, e⟩ => by rw [show a = x by omega]; exact hx, fun h => ⟨a, h, rfl⟩⟩

set_option maxRecDepth 100000 in
set_option maxHeartbeats 8000000 in
theorem fAhead_any (A : Option Addr) (l : List C.I3) (n c : Nat) (a0 : Int) (w : World) (hr : Rd w A (C.iis l)) (hn : Hid (l.length = n)) (hm : n ≤ 9223372036854775807) (ha0 : (Lit.int .i64 a0).wf = true) :
  Calls Tryz.prog 10 #[.slice A n c, .int .i64 a0] w (TupR w (aheadI l a0) (errI l a0)) := by
 have HS := Lib.hid (stepsOf_any A l n c w hr hn hm)
 clear hr hn
 go_enter Tryz.func10, Tryz.ntmps10
 go_wp2_with fail
 refine HS.out.mono ?_
 rintro e w1 hS
 obtain ⟨k1, A1, Bf, cf, c1, rfl, hst⟩ := hS.one
 have HR := Lib.hid (reached_any A1 _ Bf cf (nB l) c1 (stepsG l) w1 hst (by have := nB_le (l := l); omega) nB_steps nB_len)
 have HST := Lib.hid (fun W (hk : Keep NoB w1 W) => hst.keepN hk)
 clear HS hS hst
 go_wp2_with fail
 refine HR.out.mono ?_
 rintro e w2 ⟨met, b, rfl, hM, hb, k2, hall⟩
 have HA := Lib.hid hall
 have hlk := hM.omap.look2 (t := 51) Tryz.underlying51 Tryz.underlying3 Tryz.underlying3 (int_zeroG _) a0 ha0
 have k12 := keepN k1 k2
 clear HR
 cases hat : atN l a0 with
 | none =>
  have h1 : (lookN met a0).isSome = false := by
   cases h : (lookN met a0).isSome with
   | false => rfl
   | true => exact absurd ((look_reach hall a0).1 h) (atN_none hat)
  have HE : Hid (aheadI l a0 = [] ∧ errI l a0 = 110) := ⟨by unfold aheadI; rw [hat], by unfold errI; rw [hat]; rfl⟩
  rw [h1] at hlk
  generalize (lookN met a0).getD 0 = u0 at hlk
  clear hM hall HST h1 hat hb
  go_wp2
  go_ret2
  rw [HE.out.1, HE.out.2]
  exact ⟨none, 0, rfl, Rd.none_ _ _, k12⟩
 | some a =>
  obtain ⟨rfl, har⟩ := atN_some hat
  have h1 : (lookN met (a : Int)).isSome = true := (look_reachN hall a).2 har
  have HE : Hid (aheadI l (a : Int) = aheadL l a ∧ errI l (a : Int) = 0) := ⟨by unfold aheadI; rw [hat], by unfold errI; rw [hat]; rfl⟩
  rw [h1] at hlk
  generalize (lookN met (a : Int)).getD 0 = u0 at hlk
  obtain ⟨w3, cnt, hrun, hR, hg3, hs3⟩ := hM.omap.range (t := 51) Tryz.underlying51 Tryz.underlying3
  obtain ⟨r, hr⟩ : ∃ r, w2.heap.size = r := ⟨_, rfl⟩
  rw [hr] at hrun hR
  have hk13 : Keep NoB w1 w3 := k2.grown hg3 (fun g e _ => by cases e)
  have HRW : Hid (w.heap.size ≤ r ∧ w1.heap.size ≤ r ∧ w1.heap.size ≤ b) := ⟨by rw [← hr]; exact k12.size, by rw [← hr]; exact k2.size, hb⟩
  have HI : Hid (Own w3 3 1 (Fresh w1) (.slice none 0 0) ([] : List Nat).length (ivs (nz [])) ∧ ORng Tryz.prog 3 3 b r met.length (lookN met) (fun h => (lookN met h).isSome) cnt w3 ∧ (∀ y : Nat, y ∈ ([] : List Nat) ↔ (lookN met (y : Int)).isSome = true ∧ (lookN met (y : Int)).isSome = false) ∧ Keep NoB w1 w3) := by
   refine ⟨Own.nil _ _ _ _, hR, fun y => ⟨(fun h => by cases h), fun ⟨h1, h2⟩ => ?_⟩, hk13⟩
   rw [h1] at h2; cases h2
  have HK1 := Lib.hid k1
  clear hM hall h1 hat hb hR hg3 hs3 k1 k2 k12 hk13
  go_wp2
  try rw [hrun]
  go_wp2
  clear hrun hlk
  go_loopw [10] (fun u wr => ∃ (L d : List Nat) (left : Int → Bool) (cnt : Nat), Hid (L = d.filter (fun y => decide (a ∈ stepsG l y)) ∧ d.Nodup ∧ (∀ y : Nat, y ∈ d ↔ (lookN met (y : Int)).isSome = true ∧ left (y : Int) = false)) ∧ Hid (Own wr 3 1 (Fresh w1) u L.length (ivs (nz L)) ∧ ORng Tryz.prog 3 3 b r met.length (lookN met) left cnt wr ∧ Keep NoB w1 wr)) (fun _ wr => wr.rangeLeft b r)
  case atStart => exact ⟨[], [], _, cnt, ⟨rfl, List.nodup_nil, HI.out.2.2.1⟩, HI.out.1, HI.out.2.1, HI.out.2.2.2⟩
  case round =>
   obtain ⟨L, d, left, cnt, HP, HL⟩ := hrel
   obtain ⟨hO, hR, hk1⟩ := HL.out
   obtain ⟨hLd, hd, hmem⟩ := HP.out
   have hdl : d.length ≤ 1000 := nodup_len 1000 d hd fun x hx => reach_b ((look_reachN HA.out x).1 ((hmem x).1 hx).1)
   have hLl : L.length ≤ 1000 := by rw [hLd]; exact Nat.le_trans (List.length_filter_le _ _) hdl
   have hleq := hR.left_eq
   rcases hR.next Tryz.underlying3 Tryz.underlying3 0 with ⟨_, hl, hrun⟩ | ⟨x, v, w4, cnt4, _, _, hlx, hgx, hrun, hR4, hlt, hg4, hs4, hen⟩
   ·have HSo := Lib.hid (sort_any (zs := nz L) (by rw [nz_len]; exact hO) hk1 (by rw [nz_len]; omega))
    have HX : Hid (sortL (nz L) = nz (aheadL l a) ∧ L.length = (aheadL l a).length) := by
     have h1 := nz_sort (l := L) (t := aheadL l a) (by rw [hLd]; exact hd.filter _) (List.Pairwise.filter _ rise_filter) fun y => by
      rw [hLd, List.mem_filter, hmem, hl, ahead_mem, decide_eq_true_iff, look_reachN HA.out]
      exact ⟨fun ⟨⟨h1, _⟩, h2⟩ => ⟨h1, h2⟩, fun ⟨h1, h2⟩ => ⟨⟨h1, rfl⟩, h2⟩⟩
     refine ⟨h1, ?_⟩
     have := congrArg List.length h1
     rw [List.length_mergeSort, nz_len, nz_len] at this
     exact this
    obtain ⟨B, cB, rfl⟩ := own_form hO.1
    clear hO hR hmem hd hl HI HL hleq hLd hdl hk1 HP
    go_wp2_with fail
    refine HSo.out.mono ?_
    rintro e w5 ⟨rfl, hO5, k5⟩
    have HF := Lib.hid (And.intro hO5 k5)
    clear hO5 k5 hrun
    go_wp2
    go_ret2
    obtain ⟨hO5, k5⟩ := HF.out
    rw [HX.out.1] at hO5
    rw [HE.out.1, HE.out.2]
    obtain ⟨A5, c5, he5, _, _, hrd, _⟩ := hO5.form
    injection he5 with e1 e2 e3
    subst e1
    exact ⟨B, cB, by rw [← HX.out.2]; rfl, hrd, keepN HK1.out k5⟩
   ·have hxr := (look_reach HA.out x).1 (by rw [hgx]; rfl)
    obtain ⟨y, hyr, rfl⟩ := hxr
    have hyn := reach_nB hyr
    have hyb := reach_b hyr
    have hnr := own_iter_ne hO hR
    have hO4 : Own w4 3 1 (Fresh w1) u10 L.length (ivs (nz L)) := ⟨hO.1.kept hg4 (.inr hnr), hO.2⟩
    have hk14 : Keep NoB w1 w4 := hk1.grown hg4 (fun g e hl => by cases e; have := HRW.out.2.1; omega)
    obtain ⟨gs, rfl, _, cq, hrd, _⟩ := HST.out w4 hk14 y hyn
    have hln : (stepsG l y).length ≤ 2 := nB_len y hyn
    have HC := Lib.hid (contains_any (Bf y) (cf y) (stepsG l y) (a : Int) w4 hrd (by omega))
    rw [contains_dec] at HC
    have hyL : y ∉ d := fun h => by have := ((hmem y).1 h).2; rw [hlx] at this; cases this
    have hd2 : (d ++ [y]).Nodup := List.nodup_append.2 ⟨hd, by simp, fun a ha c hc => by rw [List.mem_singleton] at hc; subst hc; exact fun e => hyL (e ▸ ha)⟩
    have hmem2 : ∀ z : Nat, z ∈ d ++ [y] ↔ (lookN met (z : Int)).isSome = true ∧ (left (z : Int) && !decide ((z : Int) = (y : Int))) = false := fun z => by
     rw [List.mem_append, List.mem_singleton, hmem]
     by_cases hzy : z = y
     ·subst hzy; simp [hgx]
     ·have hne : (z : Int) ≠ (y : Int) := by omega
      simp [hzy, hne]
    generalize Bf y = By at cq hrd HC
    generalize cf y = cy at cq HC
    obtain ⟨ln, hlne⟩ : ∃ ln, (stepsG l y).length = ln := ⟨_, rfl⟩
    rw [hlne] at cq HC hln
    by_cases hin : a ∈ stepsG l y
    ·rw [decide_eq_true hin] at HC
     obtain ⟨v', W', hap, hO', hg', hk'⟩ := push_any hO4 hk14 (y : Int) (by omega)
     have hnb := own_map_ne hO4 hR4.omap
     have hnr3 := own_iter_ne hO4 hR4
     have hR5 := (hR4.keep ((Keep.refl NoB _).alloc (.cells #[.int .i64 (y : Int)] 3)) id id).grown hg' (Ne.symm hnb) (Ne.symm hnr3)
     have HN : Hid (L ++ [y] = (d ++ [y]).filter (fun y => decide (a ∈ stepsG l y)) ∧ (d ++ [y]).Nodup ∧ (∀ z : Nat, z ∈ d ++ [y] ↔ (lookN met (z : Int)).isSome = true ∧ (left (z : Int) && !decide ((z : Int) = (y : Int))) = false)) :=
      ⟨by rw [filter_next, if_pos (decide_eq_true hin), hLd], hd2, hmem2⟩
     have HM : Hid (Own W' 3 1 (Fresh w1) v' (L ++ [y]).length (ivs (nz (L ++ [y]))) ∧ ORng Tryz.prog 3 3 b r met.length (lookN met) (fun z => left z && !decide (z = (y : Int))) cnt4 W' ∧ Keep NoB w1 W') :=
      ⟨by rw [List.length_append, List.length_singleton]; simpa [nz] using hO', hR5, hk'⟩
     have hleq4 := hR5.left_eq
     clear hs4 hO hR hmem hd HI HL hO4 hO' hg' hk' hnb hnr3 hR5 hR4 hnr hg4 hyL hgx hlx hd2 hmem2 hrd hk14 hLd HP hdl hk1
     go_wp2_with fail
     refine HC.out.mono ?_
     rintro e w9 ⟨rfl, rfl⟩
     go_wp2_with (at_builtin; refine wpList_append_run _ rfl _ _ 23 rfl _ _ v' W' rfl rfl hap ?_)
     go_roundw
     case rel => exact ⟨L ++ [y], d ++ [y], _, cnt4, HN, HM⟩
     case measure => rw [hleq4, hleq]; exact hlt
    ·rw [decide_eq_false hin] at HC
     have HN : Hid (L = (d ++ [y]).filter (fun y => decide (a ∈ stepsG l y)) ∧ (d ++ [y]).Nodup ∧ (∀ z : Nat, z ∈ d ++ [y] ↔ (lookN met (z : Int)).isSome = true ∧ (left (z : Int) && !decide ((z : Int) = (y : Int))) = false)) :=
      ⟨by rw [filter_next, if_neg (by rw [decide_eq_true_iff]; exact hin), List.append_nil, hLd], hd2, hmem2⟩
     have HM : Hid (Own w4 3 1 (Fresh w1) u10 L.length (ivs (nz L)) ∧ ORng Tryz.prog 3 3 b r met.length (lookN met) (fun z => left z && !decide (z = (y : Int))) cnt4 w4 ∧ Keep NoB w1 w4) := ⟨hO4, hR4, hk14⟩
     have hleq4 := hR4.left_eq
     clear hs4 hO hR hmem hd HI HL hO4 hR4 hnr hg4 hyL hgx hlx hd2 hmem2 hrd hk14 hLd HP hdl hk1
     go_wp2_with fail
     refine HC.out.mono ?_
     rintro e w9 ⟨rfl, rfl⟩
     go_wp2
     go_roundw
     case rel => exact ⟨L, d ++ [y], _, cnt4, HN, HM⟩
     case measure => rw [hleq4, hleq]; exact hlt
end Go.Proofs.YtghdibbooegocaaGreatDoor.G

namespace Go.Proofs.YtghdibbooegocaaGreatDoor.G
open Go.RowKit W

theorem loop_reach {l : List C.I3} {y : Nat} (h : y ∈ loopL l) : y ∈ reachL l := by unfold loopL at h; exact (List.mem_filter.1 h).1
theorem loop_back {l : List C.I3} : ∀ y ∈ reachL l, y ∈ loopL l ↔ ∃ p t, Way (stepsG l) [y] p t ∧ y ∈ stepsG l p := by
 intro y hy
 have ho : C.okB l = true := nB_pos (l := l) (by have := reach_nB hy; omega)
 have key : ∀ (a : Nat) (t : List Nat), Way (stepsG l) (stepsG l y) a t → ∃ p t, Way (stepsG l) [y] p t ∧ a ∈ stepsG l p := by
  intro a t h
  induction h with
  | start hs => exact ⟨y, [y], .start (by simp), hs⟩
  | @step a b t _ hb ih =>
   obtain ⟨p, u, hw, ha⟩ := ih
   exact ⟨a, _, .step hw ha, hb⟩
 have key2 : ∀ (p : Nat) (t : List Nat), Way (stepsG l) [y] p t → ∀ a ∈ stepsG l p, ∃ u, Way (stepsG l) (stepsG l y) a u := by
  intro p t h
  induction h with
  | start hs => rw [List.mem_singleton] at hs; subst hs; exact fun a ha => ⟨[a], .start ha⟩
  | @step a b t _ hb ih =>
   intro z hz
   obtain ⟨u, hu⟩ := ih b hb
   exact ⟨_, .step hu hz⟩
 rw [loop_mem ho]
 constructor
 ·rintro ⟨_, t, hw⟩
  exact key y t hw
 ·rintro ⟨p, t, hw, hp⟩
  exact ⟨hy, key2 p t hw y hp⟩

set_option maxRecDepth 100000 in
set_option maxHeartbeats 8000000 in
theorem fLoops_any (A : Option Addr) (l : List C.I3) (n c : Nat) (w : World) (hr : Rd w A (C.iis l)) (hn : Hid (l.length = n)) (hm : n ≤ 9223372036854775807) :
  Calls Tryz.prog 21 #[.slice A n c] w (OwnR w (loopL l)) := by
 have HLP : Hid (∀ y ∈ reachL l, y ∈ loopL l ↔ ∃ p t, Way (stepsG l) [y] p t ∧ y ∈ stepsG l p) := loop_back
 have HS := Lib.hid (stepsOf_any A l n c w hr hn hm)
 clear hr hn
 go_enter Tryz.func21, Tryz.ntmps21
 go_wp2_with fail
 refine HS.out.mono ?_
 rintro e w1 hS
 obtain ⟨k1, A1, Bf, cf, c1, rfl, hst⟩ := hS.one
 have HR := Lib.hid (reached_any A1 _ Bf cf (nB l) c1 (stepsG l) w1 hst (by have := nB_le (l := l); omega) nB_steps nB_len)
 have HST := Lib.hid (fun W (hk : Keep NoB w1 W) => hst.keepN hk)
 clear HS hS hst
 go_wp2_with fail
 refine HR.out.mono ?_
 rintro e w2 ⟨met, b, rfl, hM, hb, k2, hall⟩
 have HA := Lib.hid hall
 have k12 := keepN k1 k2
 clear HR
 ·obtain ⟨w3, cnt, hrun, hR, hg3, hs3⟩ := hM.omap.range (t := 51) Tryz.underlying51 Tryz.underlying3
  obtain ⟨r, hr⟩ : ∃ r, w2.heap.size = r := ⟨_, rfl⟩
  rw [hr] at hrun hR
  have hk13 : Keep NoB w1 w3 := k2.grown hg3 (fun g e _ => by cases e)
  have HRW : Hid (w.heap.size ≤ r ∧ w1.heap.size ≤ r ∧ w1.heap.size ≤ b) := ⟨by rw [← hr]; exact k12.size, by rw [← hr]; exact k2.size, hb⟩
  have HI : Hid (Own w3 3 1 (Fresh w1) (.slice none 0 0) ([] : List Nat).length (ivs (nz [])) ∧ ORng Tryz.prog 3 3 b r met.length (lookN met) (fun h => (lookN met h).isSome) cnt w3 ∧ (∀ y : Nat, y ∈ ([] : List Nat) ↔ (lookN met (y : Int)).isSome = true ∧ (lookN met (y : Int)).isSome = false) ∧ Keep NoB w1 w3) := by
   refine ⟨Own.nil _ _ _ _, hR, fun y => ⟨(fun h => by cases h), fun ⟨h1, h2⟩ => ?_⟩, hk13⟩
   rw [h1] at h2; cases h2
  have HK1 := Lib.hid k1
  clear hM hall hb hR hg3 hs3 k1 k2 k12 hk13
  go_wp2
  try rw [hrun]
  go_wp2
  clear hrun
  go_loopw [4] (fun u wr => ∃ (L d : List Nat) (left : Int → Bool) (cnt : Nat), Hid (L = d.filter (fun y => decide (y ∈ loopL l)) ∧ d.Nodup ∧ (∀ y : Nat, y ∈ d ↔ (lookN met (y : Int)).isSome = true ∧ left (y : Int) = false)) ∧ Hid (Own wr 3 1 (Fresh w1) u L.length (ivs (nz L)) ∧ ORng Tryz.prog 3 3 b r met.length (lookN met) left cnt wr ∧ Keep NoB w1 wr)) (fun _ wr => wr.rangeLeft b r)
  case atStart => exact ⟨[], [], _, cnt, ⟨rfl, List.nodup_nil, HI.out.2.2.1⟩, HI.out.1, HI.out.2.1, HI.out.2.2.2⟩
  case round =>
   obtain ⟨L, d, left, cnt, HP, HL⟩ := hrel
   obtain ⟨hO, hR, hk1⟩ := HL.out
   obtain ⟨hLd, hd, hmem⟩ := HP.out
   have hdl : d.length ≤ 1000 := nodup_len 1000 d hd fun x hx => reach_b ((look_reachN HA.out x).1 ((hmem x).1 hx).1)
   have hLl : L.length ≤ 1000 := by rw [hLd]; exact Nat.le_trans (List.length_filter_le _ _) hdl
   have hleq := hR.left_eq
   rcases hR.next Tryz.underlying3 Tryz.underlying3 0 with ⟨_, hl, hrun⟩ | ⟨x, v, w4, cnt4, _, _, hlx, hgx, hrun, hR4, hlt, hg4, hs4, hen⟩
   ·have HSo := Lib.hid (sort_any (zs := nz L) (by rw [nz_len]; exact hO) hk1 (by rw [nz_len]; omega))
    have HX : Hid (sortL (nz L) = nz (loopL l) ∧ L.length = (loopL l).length) := by
     have h1 := nz_sort (l := L) (t := loopL l) (by rw [hLd]; exact hd.filter _) (by unfold loopL; exact List.Pairwise.filter _ rise_filter) fun y => by
      rw [hLd, List.mem_filter, hmem, hl, decide_eq_true_iff, look_reachN HA.out]
      exact ⟨fun ⟨_, h2⟩ => h2, fun h2 => ⟨⟨loop_reach h2, rfl⟩, h2⟩⟩
     refine ⟨h1, ?_⟩
     have := congrArg List.length h1
     rw [List.length_mergeSort, nz_len, nz_len] at this
     exact this
    obtain ⟨B, cB, rfl⟩ := own_form hO.1
    clear hO hR hmem hd hl HI HL hleq hLd hdl hk1 HP
    go_wp2_with fail
    refine HSo.out.mono ?_
    rintro e w5 ⟨rfl, hO5, k5⟩
    have HF := Lib.hid (And.intro hO5 k5)
    clear hO5 k5 hrun
    go_wp2
    go_ret
    obtain ⟨hO5, k5⟩ := HF.out
    rw [HX.out.1] at hO5
    rw [nz_len, HX.out.2] at hO5
    exact ⟨B, cB, by rw [← HX.out.2]; rfl, ⟨hO5.1, fun g e => Nat.le_trans HK1.out.size (hO5.2 g e)⟩, keepN HK1.out k5⟩
   ·have hxr := (look_reach HA.out x).1 (by rw [hgx]; rfl)
    obtain ⟨y, hyr, rfl⟩ := hxr
    have hyn := reach_nB hyr
    have hyb := reach_b hyr
    have hnr := own_iter_ne hO hR
    have hO4 : Own w4 3 1 (Fresh w1) u4 L.length (ivs (nz L)) := ⟨hO.1.kept hg4 (.inr hnr), hO.2⟩
    have hk14 : Keep NoB w1 w4 := hk1.grown hg4 (fun g e hl => by cases e; have := HRW.out.2.1; omega)
    have HC := Lib.hid (comesBack_any A1 _ Bf cf (nB l) c1 y (stepsG l) w4 (HST.out w4 hk14) hyn (by have := nB_le (l := l); omega) nB_steps nB_len)
    have hyL : y ∉ d := fun h => by have := ((hmem y).1 h).2; rw [hlx] at this; cases this
    have hd2 : (d ++ [y]).Nodup := List.nodup_append.2 ⟨hd, by simp, fun a ha c hc => by rw [List.mem_singleton] at hc; subst hc; exact fun e => hyL (e ▸ ha)⟩
    have hmem2 : ∀ z : Nat, z ∈ d ++ [y] ↔ (lookN met (z : Int)).isSome = true ∧ (left (z : Int) && !decide ((z : Int) = (y : Int))) = false := fun z => by
     rw [List.mem_append, List.mem_singleton, hmem]
     by_cases hzy : z = y
     ·subst hzy; simp [hgx]
     ·have hne : (z : Int) ≠ (y : Int) := by omega
      simp [hzy, hne]
    by_cases hin : y ∈ loopL l
    ·have HCi := Lib.hid ((HLP.out y hyr).1 hin)
     go_wp2_with fail
     refine HC.out.mono ?_
     rintro e w9 ⟨rb, rfl, hrb, k9⟩
     obtain rfl : rb = true := hrb.2 HCi.out
     have hO9 := hO4.keepN k9
     have hR9 := hR4.keep k9 id id
     have hk19 := keepN hk14 k9
     obtain ⟨v', W', hap, hO', hg', hk'⟩ := push_any hO9 hk19 (y : Int) (by omega)
     have hnb := own_map_ne hO9 hR9.omap
     have hnr3 := own_iter_ne hO9 hR9
     have hR5 := (hR9.keep ((Keep.refl NoB _).alloc (.cells #[.int .i64 (y : Int)] 3)) id id).grown hg' (Ne.symm hnb) (Ne.symm hnr3)
     have HN : Hid (L ++ [y] = (d ++ [y]).filter (fun y => decide (y ∈ loopL l)) ∧ (d ++ [y]).Nodup ∧ (∀ z : Nat, z ∈ d ++ [y] ↔ (lookN met (z : Int)).isSome = true ∧ (left (z : Int) && !decide ((z : Int) = (y : Int))) = false)) :=
      ⟨by rw [filter_next, if_pos (decide_eq_true hin), hLd], hd2, hmem2⟩
     have HM : Hid (Own W' 3 1 (Fresh w1) v' (L ++ [y]).length (ivs (nz (L ++ [y]))) ∧ ORng Tryz.prog 3 3 b r met.length (lookN met) (fun z => left z && !decide (z = (y : Int))) cnt4 W' ∧ Keep NoB w1 W') :=
      ⟨by rw [List.length_append, List.length_singleton]; simpa [nz] using hO', hR5, hk'⟩
     have hleq4 := hR5.left_eq
     clear hs4 hO hR hmem hd HI HL hO4 hO' hg' hk' hnb hnr3 hR5 hR4 hR9 hO9 hk19 k9 hnr hg4 hyL hgx hlx hd2 hmem2 hk14 hLd HP hdl hk1
     go_wp2_with (at_builtin; refine wpList_append_run _ rfl _ _ 23 rfl _ _ v' W' rfl rfl hap ?_)
     go_roundw
     case rel => exact ⟨L ++ [y], d ++ [y], _, cnt4, HN, HM⟩
     case measure => rw [hleq4, hleq]; exact hlt
    ·have HCi := Lib.hid (fun h => hin ((HLP.out y hyr).2 h))
     have HN : Hid (L = (d ++ [y]).filter (fun y => decide (y ∈ loopL l)) ∧ (d ++ [y]).Nodup ∧ (∀ z : Nat, z ∈ d ++ [y] ↔ (lookN met (z : Int)).isSome = true ∧ (left (z : Int) && !decide ((z : Int) = (y : Int))) = false)) :=
      ⟨by rw [filter_next, if_neg (by rw [decide_eq_true_iff]; exact hin), List.append_nil, hLd], hd2, hmem2⟩
     go_wp2_with fail
     refine HC.out.mono ?_
     rintro e w9 ⟨rb, rfl, hrb, k9⟩
     obtain rfl : rb = false := by
      cases rb with
      | false => rfl
      | true => exact absurd (hrb.1 rfl) HCi.out
     have hO9 := hO4.keepN k9
     have hR9 := hR4.keep k9 id id
     have hk19 := keepN hk14 k9
     have HM : Hid (Own w9 3 1 (Fresh w1) u4 L.length (ivs (nz L)) ∧ ORng Tryz.prog 3 3 b r met.length (lookN met) (fun z => left z && !decide (z = (y : Int))) cnt4 w9 ∧ Keep NoB w1 w9) := ⟨hO9, hR9, hk19⟩
     have hleq4 := hR9.left_eq
     clear hs4 hO hR hmem hd HI HL hO4 hR4 hR9 hO9 hk19 k9 hnr hg4 hyL hgx hlx hd2 hmem2 hk14 hLd HP hdl hk1
     go_wp2
     go_roundw
     case rel => exact ⟨L, d ++ [y], _, cnt4, HN, HM⟩
     case measure => rw [hleq4, hleq]; exact hlt
end Go.Proofs.YtghdibbooegocaaGreatDoor.G

namespace Go.Proofs.YtghdibbooegocaaGreatDoor.G
open Go.RowKit W

def fc (c : Nat → Nat) : Int → Option Nat := fun h => if 0 ≤ h ∧ 0 < c h.toNat then some (c h.toNat) else none
theorem fc_get (c : Nat → Nat) (y : Nat) : (fc c (y : Int)).getD 0 = c y := by
 unfold fc
 by_cases h : 0 < c y
 ·rw [if_pos ⟨by omega, by simpa using h⟩]; simp
 ·rw [if_neg (fun g => h (by simpa using g.2))]
  show 0 = c y
  omega
theorem fc_some (c : Nat → Nat) (h : Int) : (fc c h).isSome = true ↔ ∃ y : Nat, (y : Int) = h ∧ 0 < c y := by
 unfold fc
 by_cases g : 0 ≤ h ∧ 0 < c h.toNat
 ·rw [if_pos g]
  exact ⟨fun _ => ⟨h.toNat, by omega, g.2⟩, fun _ => rfl⟩
 ·rw [if_neg g]
  refine ⟨(fun h => by cases h), fun ⟨y, e, hy⟩ => absurd ⟨by omega, ?_⟩ g⟩
  rw [show h.toNat = y by omega]; exact hy
def upC (c : Nat → Nat) (y : Nat) : Nat → Nat := fun z => if z = y then c z + 1 else c z
theorem fc_neg {c : Nat → Nat} {h : Int} (h0 : ¬ 0 ≤ h) : fc c h = none := if_neg fun g => h0 g.1
theorem fc_put (c : Nat → Nat) (y : Nat) (h : Int) : fc (upC c y) h = putO (fc c) (y : Int) (c y + 1) h := by
 by_cases e : h = (y : Int)
 ·subst e
  unfold fc putO upC
  rw [if_pos rfl]
  simp
 ·have e2 : putO (fc c) (y : Int) (c y + 1) h = fc c h := if_neg e
  rw [e2]
  by_cases h0 : 0 ≤ h
  ·have : h.toNat ≠ y := by omega
   unfold fc upC
   simp [this]
  ·rw [fc_neg h0, fc_neg h0]
def flN (s : Nat → List Nat) (T : List Nat) (y : Nat) : Nat := (if y = 0 then 1 else 0) + (T.filter fun p => decide (y ∈ s p)).length
theorem flN_next (s : Nat → List Nat) (T : List Nat) (p y : Nat) : flN s (T ++ [p]) y = flN s T y + if y ∈ s p then 1 else 0 := by
 unfold flN
 rw [List.filter_append, List.length_append]
 by_cases h : y ∈ s p <;> simp [h] <;> omega
theorem flN_le (s : Nat → List Nat) (T : List Nat) (y : Nat) : flN s T y ≤ T.length + 1 := by
 unfold flN
 have := List.length_filter_le (fun p => decide (y ∈ s p)) T
 split <;> omega
def flJ (s : Nat → List Nat) (T : List Nat) (p j y : Nat) : Nat := flN s T y + if y ∈ (s p).take j then 1 else 0
theorem flJ_zero (s : Nat → List Nat) (T : List Nat) (p : Nat) : flJ s T p 0 = flN s T := by funext y; unfold flJ; simp
theorem flJ_all (s : Nat → List Nat) (T : List Nat) (p : Nat) : flJ s T p (s p).length = flN s (T ++ [p]) := by funext y; unfold flJ; rw [List.take_length, flN_next]
theorem flJ_next (s : Nat → List Nat) (T : List Nat) (p j : Nat) (hj : j < (s p).length) (hr : (s p).Pairwise (· < ·)) : flJ s T p (j + 1) = upC (flJ s T p j) (s p)[j] := by
 funext y
 unfold flJ upC
 rw [List.take_succ_eq_append_getElem hj]
 by_cases e : y = (s p)[j]
 ·have hn : y ∉ (s p).take j := fun h => by
   obtain ⟨i, hi, he⟩ := List.getElem_of_mem h
   rw [List.getElem_take] at he
   have hij : i < j := by rw [List.length_take] at hi; omega
   have := List.pairwise_iff_getElem.1 hr i j (by omega) hj hij
   omega
  have h1 : y ∈ (s p).take j ++ [(s p)[j]] := List.mem_append_right _ (by rw [e]; exact List.mem_singleton_self _)
  rw [if_pos e]
  show _ + _ = _ + _ + 1
  rw [if_pos h1, if_neg hn]
 ·rw [if_neg e]
  have : y ∈ (s p).take j ++ [(s p)[j]] ↔ y ∈ (s p).take j := by rw [List.mem_append, List.mem_singleton]; exact ⟨fun h => h.elim id fun h => absurd h e, .inl⟩
  simp only [this]
theorem flJ_le (s : Nat → List Nat) (T : List Nat) (p j y : Nat) : flJ s T p j y ≤ T.length + 2 := by
 unfold flJ
 have := flN_le s T y
 split <;> omega
def gD (C : Nat → Nat) (left : Int → Bool) (h : Int) : Option Nat := if left h = false then (if 2 ≤ (fc C h).getD 0 then fc C h else none) else fc C h
theorem gD_same {C : Nat → Nat} {left left' : Int → Bool} {h : Int} (e : left h = left' h) : gD C left h = gD C left' h := by unfold gD; rw [e]
theorem flN_reach {l : List C.I3} {d : List Nat} (hd : d.Nodup) (hmem : ∀ y, y ∈ d ↔ y ∈ reachL l) (y : Nat) : flN (stepsG l) d y = (if y = 0 then 1 else 0) + (aheadL l y).length := by
 unfold flN
 congr 1
 have h1 : (d.filter fun p => decide (y ∈ stepsG l p)).Nodup := hd.filter _
 have h2 : (aheadL l y).Nodup := by
  unfold aheadL
  exact ((rise_filter (b := l)).imp (fun h => Nat.ne_of_lt h)).filter _
 refine (List.perm_ext_iff_of_nodup h1 h2 |>.2 fun p => ?_).length_eq
 rw [List.mem_filter, decide_eq_true_iff, hmem, ahead_mem]
theorem meet_count {l : List C.I3} (y : Nat) : 2 ≤ (if y = 0 then 1 else 0) + (aheadL l y).length ↔ y ∈ meetL l := by
 rw [meet_mem]
 have hre : 0 < (aheadL l y).length → y ∈ reachL l := fun h => by
  obtain ⟨p, hp⟩ := List.exists_mem_of_length_pos h
  obtain ⟨h1, h2⟩ := ahead_mem.1 hp
  have ho : C.okB l = true := nB_pos (l := l) (by have := reach_nB h1; omega)
  exact reach_next ho h1 h2
 by_cases h0 : y = 0
 ·rw [if_pos h0]
  exact ⟨fun h => ⟨hre (by omega), by omega⟩, fun h => by omega⟩
 ·rw [if_neg h0]
  exact ⟨fun h => ⟨hre (by omega), .inl (by omega)⟩, fun h => by omega⟩

set_option maxRecDepth 100000 in
set_option maxHeartbeats 8000000 in
theorem fMeets_any (A : Option Addr) (l : List C.I3) (n c : Nat) (w : World) (hr : Rd w A (C.iis l)) (hn : Hid (l.length = n)) (hm : n ≤ 9223372036854775807) :
  Calls Tryz.prog 19 #[.slice A n c] w (OwnR w (meetL l)) := by
 have HS := Lib.hid (stepsOf_any A l n c w hr hn hm)
 have hmm := @run_makeMap Tryz.prog
 clear hr hn
 go_enter Tryz.func19, Tryz.ntmps19
 go_wp2_with fail
 refine HS.out.mono ?_
 rintro e w1 hS
 obtain ⟨k1, A1, Bf, cf, c1, rfl, hst⟩ := hS.one
 obtain ⟨w2, hins, hM1, hg2⟩ := (OMap.new Tryz.prog 3 3 w1).update (t := 51) Tryz.underlying51 Tryz.underlying3 Tryz.underlying3 (by decide) 0 1 (by decide) (by decide)
 have hins : (Instr.mapUpdate 51 (.map (some w1.heap.size)) (.int .i64 0) (.int .i64 1)).run Tryz.prog (w1.alloc (.map #[] 0)) = .ok () w2 := hins
 have k12 : Keep NoB w1 w2 := ((Keep.refl NoB w1).alloc _).grown hg2 (fun g e hl => by cases e; exact absurd hl (Nat.lt_irrefl _))
 have hM2 : OMap Tryz.prog 3 3 w1.heap.size 1 (fc (flN (stepsG l) [])) w2 := hM1.congr fun h => by
  unfold fc flN putO
  by_cases e : h = 0
  ·subst e; simp
  ·rw [if_neg e]
   by_cases h0 : 0 ≤ h
   ·have : h.toNat ≠ 0 := by omega
    simp [this]
   ·rw [if_neg (fun g => h0 g.1)]
 have HR := Lib.hid (reached_any A1 _ Bf cf (nB l) c1 (stepsG l) w2 (hst.keepN k12) (by have := nB_le (l := l); omega) nB_steps nB_len)
 have HST := Lib.hid (fun W (hk : Keep NoB w1 W) => hst.keepN hk)
 obtain ⟨bm, hbm⟩ : ∃ bm, w1.heap.size = bm := ⟨_, rfl⟩
 rw [hbm] at hM2 hins
 clear HS hS hst hM1 hg2
 go_wp2_with fail
 refine HR.out.mono ?_
 rintro e w3 ⟨met, b, rfl, hM, hb, k3, hall⟩
 have HA := Lib.hid hall
 obtain ⟨w4, cnt, hrun, hR, hg4, hs4⟩ := hM.omap.range (t := 51) Tryz.underlying51 Tryz.underlying3
 obtain ⟨r, hr⟩ : ∃ r, w3.heap.size = r := ⟨_, rfl⟩
 rw [hr] at hrun hR
 have hk14 : Keep NoB w1 w4 := (keepN k12 k3).grown hg4 (fun g e _ => by cases e)
 have hb2 := hM2.lt
 have HRW : Hid (w1.heap.size ≤ r ∧ w1.heap.size ≤ b ∧ w1.heap.size ≤ bm ∧ bm ≠ b ∧ bm ≠ r) := ⟨by rw [← hr]; exact (keepN k12 k3).size, Nat.le_trans k12.size hb, by omega, by omega, by have := k3.size; omega⟩
 have HI : Hid (OMap Tryz.prog 3 3 bm 1 (fc (flN (stepsG l) [])) w4 ∧ ORng Tryz.prog 3 3 b r met.length (lookN met) (fun h => (lookN met h).isSome) cnt w4 ∧ (∀ y : Nat, y ∈ ([] : List Nat) ↔ (lookN met (y : Int)).isSome = true ∧ (lookN met (y : Int)).isSome = false) ∧ Keep NoB w1 w4) := by
  refine ⟨(hM2.keep k3 id).grown hg4 (by simp), hR, fun y => ⟨(fun h => by cases h), fun ⟨h1, h2⟩ => ?_⟩, hk14⟩
  rw [h1] at h2; cases h2
 have HK1 := Lib.hid k1
 clear hM hall hb hR hg4 hs4 k1 k12 k3 hk14 hM2 HR hr hb2 hins hmm
 go_wp2
 try rw [hrun]
 go_wp2
 clear hrun
 have HBM := Lib.hid hbm
 clear hbm
 go_loopw [] (fun wr => ∃ (d : List Nat) (left : Int → Bool) (cnt N : Nat), Hid (d.Nodup ∧ (∀ y : Nat, y ∈ d ↔ (lookN met (y : Int)).isSome = true ∧ left (y : Int) = false)) ∧ Hid (N ≤ 1 + 2 * d.length ∧ OMap Tryz.prog 3 3 bm N (fc (flN (stepsG l) d)) wr ∧ ORng Tryz.prog 3 3 b r met.length (lookN met) left cnt wr ∧ Keep NoB w1 wr)) (fun wr => wr.rangeLeft b r)
 case atStart => exact ⟨[], _, cnt, 1, ⟨List.nodup_nil, HI.out.2.2.1⟩, Nat.le_refl _, HI.out.1, HI.out.2.1, HI.out.2.2.2⟩
 case round =>
  obtain ⟨d, left, cnt, N, HP, HL⟩ := hrel
  obtain ⟨hN, hMf, hR, hk1⟩ := HL.out
  obtain ⟨hd, hmem⟩ := HP.out
  have hdl : d.length ≤ 512 := Nat.le_trans (nodup_len (nB l) d hd fun x hx => reach_nB ((look_reachN HA.out x).1 ((hmem x).1 hx).1)) nB_le
  have hleq := hR.left_eq
  rcases hR.next Tryz.underlying3 Tryz.underlying3 0 with ⟨_, hl, hrun⟩ | ⟨x, v, w5, cnt5, _, _, hlx, hgx, hrun, hR5, hlt, hg5, hs5, hen⟩
  ·have HC : Hid (∀ y, flN (stepsG l) d y = (if y = 0 then 1 else 0) + (aheadL l y).length) := fun y => flN_reach hd (fun z => by
    rw [hmem, hl, look_reachN HA.out]
    exact ⟨fun h => h.1, fun h => ⟨h, rfl⟩⟩) y
   have hCb : Hid (∀ y, flN (stepsG l) d y ≤ 1001) := fun y => by have := flN_le (stepsG l) d y; omega
   generalize flN (stepsG l) d = C at hMf HC hCb
   obtain ⟨w6, cnt6, hrun6, hR6, hg6, hs6⟩ := hMf.range (t := 51) Tryz.underlying51 Tryz.underlying3
   obtain ⟨r2, hr2⟩ : ∃ r2, wr.heap.size = r2 := ⟨_, rfl⟩
   rw [hr2] at hrun6 hR6
   have HR2 : Hid (w1.heap.size ≤ r2) := by show _ ≤ _; rw [← hr2]; exact hk1.size
   have HI2 : Hid (ORng Tryz.prog 3 3 bm r2 N (gD C (fun h => (fc C h).isSome)) (fun h => (fc C h).isSome) cnt6 w6 ∧ Keep NoB w1 w6) := by
    refine ⟨?_, hk1.grown hg6 (fun g e _ => by cases e)⟩
    have hgg : ∀ h, gD C (fun h => (fc C h).isSome) h = fc C h := fun h => by
     by_cases hs : (fc C h).isSome = true
     ·exact if_neg (by show ¬ (fc C h).isSome = false; rw [hs]; decide)
     ·have h1 : fc C h = none := by simpa using hs
      unfold gD
      rw [h1]
      simp
    obtain ⟨D, lf, a1, a2, a3, a4⟩ := hR6
    exact ⟨D, lf, a1, a2, fun x => by rw [hgg]; exact a3 x, a4⟩
   have hNN : N ≤ 2000 := by omega
   clear hMf hR hk1 hd hmem hl HL HP hleq HI hN hdl hR6 hg6 hs6 hr2
   go_wp2
   try rw [hrun6]
   go_wp2
   clear hrun6 hrun
   go_loopw [] (fun wr2 => ∃ (left2 : Int → Bool) (cnt2 : Nat), Hid (ORng Tryz.prog 3 3 bm r2 N (gD C left2) left2 cnt2 wr2 ∧ (∀ h, left2 h = true → (fc C h).isSome = true) ∧ Keep NoB w1 wr2)) (fun wr2 => wr2.rangeLeft bm r2)
   case atStart => exact ⟨_, cnt6, HI2.out.1, fun h hh => hh, HI2.out.2⟩
   case round =>
    obtain ⟨left2, cnt2, HL2⟩ := hrel
    obtain ⟨hR2, hlf, hk2⟩ := HL2.out
    have hleq2 := hR2.left_eq
    rcases hR2.next Tryz.underlying3 Tryz.underlying3 0 with ⟨_, hl2, hrun2⟩ | ⟨x2, v2, w7, cnt7, hwx, hwv, hlx2, hgx2, hrun2, hR7, hlt7, hg7, hs7, hen7⟩
    ·have HG := Lib.hid (rising_any bm N (gD C left2) (meetL l) wr hR2.omap hNN (by unfold meetL; exact List.Pairwise.filter _ rise_filter) (fun y => by
      unfold gD
      rw [if_pos (hl2 y)]
      constructor
      ·intro h
       by_cases h2 : 2 ≤ (fc C y).getD 0
       ·rw [if_pos h2] at h
        obtain ⟨z, rfl, _⟩ := (fc_some C y).1 h
        rw [fc_get, HC.out] at h2
        exact ⟨z, (meet_count z).1 h2, rfl⟩
       ·rw [if_neg h2] at h; cases h
      ·rintro ⟨z, hz, rfl⟩
       have h2 := (meet_count z).2 hz
       rw [if_pos (by rw [fc_get, HC.out]; exact h2)]
       exact (fc_some C z).2 ⟨z, rfl, by rw [HC.out]; omega⟩) (fun x hx => reach_b (meet_mem.1 hx).1))
     have HK2 := Lib.hid hk2
     clear hR2 hlf hk2 HL2 hleq2 hl2 HI2
     go_wp2_with fail
     refine HG.out.mono ?_
     rintro e w8 ⟨B, c3, rfl, hO, k8⟩
     have HF := Lib.hid (And.intro hO k8)
     clear HG hO k8 hrun2
     go_wp2
     go_ret
     have hks := keepN HK1.out HK2.out
     exact ⟨B, c3, rfl, ⟨HF.out.1.1, fun g e => Nat.le_trans hks.size (HF.out.1.2 g e)⟩, keepN hks HF.out.2⟩
    ·have hgf : gD C left2 x2 = fc C x2 := if_neg (by rw [hlx2]; decide)
     rw [hgf] at hgx2
     have hv2 : v2 = (fc C x2).getD 0 := by rw [hgx2]; rfl
     have hlf2 : ∀ h, (left2 h && !decide (h = x2)) = true → (fc C h).isSome = true := fun h hh => hlf h (by
      rw [Bool.and_eq_true] at hh; exact hh.1)
     by_cases hlt2 : v2 < 2
     ·obtain ⟨w8, cnt8, hdel, hR8, hle8, hg8⟩ := hR7.drop (t := 51) Tryz.underlying51 Tryz.underlying3 x2 hwx 0
      have hR9 : ORng Tryz.prog 3 3 bm r2 N (gD C (fun y => (left2 y && !decide (y = x2)) && !decide (y = x2))) (fun y => (left2 y && !decide (y = x2)) && !decide (y = x2)) cnt8 w8 := by
       have hgg : ∀ h, gD C (fun y => (left2 y && !decide (y = x2)) && !decide (y = x2)) h = delO (gD C left2) x2 h := fun h => by
        unfold delO
        by_cases e : h = x2
        ·subst e
         rw [if_pos rfl]
         unfold gD
         rw [if_pos (by simp), if_neg (by rw [← hv2]; omega)]
        ·rw [if_neg e]
         exact gD_same (by simp [e])
       obtain ⟨D, lf, a1, a2, a3, a4⟩ := hR8
       exact ⟨D, lf, a1, a2, fun x => by rw [hgg]; exact a3 x, a4⟩
      have HN : Hid (ORng Tryz.prog 3 3 bm r2 N (gD C (fun y => (left2 y && !decide (y = x2)) && !decide (y = x2))) (fun y => (left2 y && !decide (y = x2)) && !decide (y = x2)) cnt8 w8 ∧ (∀ h, ((left2 h && !decide (h = x2)) && !decide (h = x2)) = true → (fc C h).isSome = true) ∧ Keep NoB w1 w8) :=
       ⟨hR9, fun h hh => hlf2 h (by rw [Bool.and_eq_true] at hh; exact hh.1), (hk2.grown hg7 (fun g e hl => by cases e; have := HR2.out; omega)).grown hg8 (fun g e hl => by cases e; have := HRW.out.2.2.1; omega)⟩
      have hleq8 := hR9.left_eq
      have q1 : (v2 : Int) < 2 := by omega
      clear hs7 hR2 hlf hk2 HL2 HI2 hgf hgx2 hv2 hlf2 hR7 hg7 hR8 hg8 hR9 hlx2 hlt2
      go_wp2
      go_roundw
      case rel => exact ⟨_, cnt8, HN⟩
      case measure => rw [hleq8, hleq2]; omega
     ·have hR9 : ORng Tryz.prog 3 3 bm r2 N (gD C (fun y => (left2 y && !decide (y = x2)))) (fun y => (left2 y && !decide (y = x2))) cnt7 w7 := by
       have hgg : ∀ h, gD C (fun y => (left2 y && !decide (y = x2))) h = gD C left2 h := fun h => by
        by_cases e : h = x2
        ·subst e
         rw [hgf]
         unfold gD
         rw [if_pos (by simp), if_pos (by rw [← hv2]; omega)]
        ·exact gD_same (by simp [e])
       obtain ⟨D, lf, a1, a2, a3, a4⟩ := hR7
       exact ⟨D, lf, a1, a2, fun x => by rw [hgg]; exact a3 x, a4⟩
      have HN : Hid (ORng Tryz.prog 3 3 bm r2 N (gD C (fun y => (left2 y && !decide (y = x2)))) (fun y => (left2 y && !decide (y = x2))) cnt7 w7 ∧ (∀ h, (left2 h && !decide (h = x2)) = true → (fc C h).isSome = true) ∧ Keep NoB w1 w7) :=
       ⟨hR9, hlf2, hk2.grown hg7 (fun g e hl => by cases e; have := HR2.out; omega)⟩
      have hleq8 := hR9.left_eq
      have q1 : ¬ (v2 : Int) < 2 := by omega
      clear hs7 hR2 hlf hk2 HL2 HI2 hgf hgx2 hv2 hlf2 hR7 hg7 hR9 hlx2 hlt2
      go_wp2
      go_roundw
      case rel => exact ⟨_, cnt7, HN⟩
      case measure => rw [hleq8, hleq2]; omega
  ·have hxr := (look_reach HA.out x).1 (by rw [hgx]; rfl)
   obtain ⟨y, hyr, rfl⟩ := hxr
   have hyn := reach_nB hyr
   have hyb := reach_b hyr
   have hk15 : Keep NoB w1 w5 := hk1.grown hg5 (fun g e hl => by cases e; have := HRW.out.1; omega)
   have hMf5 := hMf.grown hg5 (by intro e; injection e with e; exact HRW.out.2.2.2.2 e)
   obtain ⟨gs, rfl, _, cq, _, _⟩ := HST.out w5 hk15 y hyn
   have HRd : Hid (∀ Y, Keep NoB w1 Y → Rd Y (Bf y) (ivs (nz (stepsG l y)))) := fun Y hk => by
    obtain ⟨_, _, _, _, h4, _⟩ := HST.out Y hk y hyn
    exact h4
   have hyL : y ∉ d := fun h => by have := ((hmem y).1 h).2; rw [hlx] at this; cases this
   have HP2 : Hid ((d ++ [y]).Nodup ∧ ∀ z : Nat, z ∈ d ++ [y] ↔ (lookN met (z : Int)).isSome = true ∧ (left (z : Int) && !decide ((z : Int) = (y : Int))) = false) := by
    refine ⟨List.nodup_append.2 ⟨hd, by simp, fun a ha c hc => by rw [List.mem_singleton] at hc; subst hc; exact fun e => hyL (e ▸ ha)⟩, fun z => ?_⟩
    rw [List.mem_append, List.mem_singleton, hmem]
    by_cases hzy : z = y
    ·subst hzy; simp [hgx]
    ·have hne : (z : Int) ≠ (y : Int) := by omega
     simp [hzy, hne]
   have hln : (stepsG l y).length ≤ 2 := nB_len y hyn
   generalize Bf y = By at cq HRd
   generalize cf y = cy at cq
   obtain ⟨ln, hlne⟩ : ∃ ln, (stepsG l y).length = ln := ⟨_, rfl⟩
   rw [hlne] at cq hln
   have HI5 : Hid (N ≤ 1 + 2 * d.length + 0 ∧ OMap Tryz.prog 3 3 bm N (fc (flJ (stepsG l) d y 0)) w5 ∧ ORng Tryz.prog 3 3 b r met.length (lookN met) (fun z => left z && !decide (z = (y : Int))) cnt5 w5 ∧ Keep NoB w1 w5) := ⟨by omega, by rw [flJ_zero]; exact hMf5, hR5, hk15⟩
   clear hs5 hMf hR hk1 hd hmem HL HP HI hR5 hg5 hk15 hMf5 hyL hgx hlx hN
   go_wp2
   clear cq hrun hen
   go_loopw [26] (fun i wr2 => ∃ (j N2 : Nat), j ≤ ln ∧ i = .int .i64 (j : Int) ∧ Hid (N2 ≤ 1 + 2 * d.length + j ∧ OMap Tryz.prog 3 3 bm N2 (fc (flJ (stepsG l) d y j)) wr2 ∧ ORng Tryz.prog 3 3 b r met.length (lookN met) (fun z => left z && !decide (z = (y : Int))) cnt5 wr2 ∧ Keep NoB w1 wr2)) (fun i _ => ln - (intOf i).toNat)
   case atStart => exact ⟨0, N, Nat.zero_le _, rfl, HI5⟩
   case round =>
    obtain ⟨j, N2, hj, rfl, HI6⟩ := hrel
    obtain ⟨hN2, hMf, hR, hk1⟩ := HI6.out
    by_cases hlt' : j < ln
    ·have hjl : j < (stepsG l y).length := by rw [hlne]; exact hlt'
     obtain ⟨gb, ob, rfl, hcb⟩ := rd_steps (HRd.out wr hk1) (by omega)
     have hz := List.getElem?_eq_getElem hjl
     have cz := hcb j _ hz
     have hzn := nB_steps y _ hyn (List.getElem_mem hjl)
     have hnb := nB_le (l := l)
     have hsn := flJ_next (stepsG l) d y j hjl (steps_rise y)
     generalize (stepsG l y)[j] = z at cz hzn hsn
     have hlk := hMf.look (t := 51) Tryz.underlying51 Tryz.underlying3 Tryz.underlying3 (int_zeroG _) (z : Int) (wfN (by omega))
     rw [fc_get] at hlk
     have hvb := flJ_le (stepsG l) d y j z
     obtain ⟨w8, hup, hM8, hg8⟩ := hMf.update (t := 51) Tryz.underlying51 Tryz.underlying3 Tryz.underlying3 (by unfold maxLen; omega) (z : Int) (flJ (stepsG l) d y j z + 1) (wfN (by omega)) (wfN (by omega))
     rw [show ((flJ (stepsG l) d y j z + 1 : Nat) : Int) = (flJ (stepsG l) d y j z : Int) + 1 by omega] at hup
     have HN : Hid (N2 + 1 ≤ 1 + 2 * d.length + (j + 1) ∧ OMap Tryz.prog 3 3 bm (N2 + 1) (fc (flJ (stepsG l) d y (j + 1))) w8 ∧ ORng Tryz.prog 3 3 b r met.length (lookN met) (fun z => left z && !decide (z = (y : Int))) cnt5 w8 ∧ Keep NoB w1 w8) := by
      refine ⟨by omega, ?_, hR.grown hg8 (by intro e; injection e with e; exact HRW.out.2.2.2.1 e.symm) (by intro e; injection e with e; exact HRW.out.2.2.2.2 e.symm), hk1.grown hg8 (fun g e hl => by cases e; have := HRW.out.2.2.1; omega)⟩
      rw [hsn]
      exact hM8.congr fun h => fc_put _ z h
     generalize flJ (stepsG l) d y j z = vz at hlk hup hvb
     have q1 : (vz : Int) ≤ 5000 := by omega
     clear hMf hR hk1 HI6 hz hcb hsn hM8 hg8 HI5
     go_wp2
     go_roundw
     case rel => exact ⟨j + 1, N2 + 1, by omega, by go_num, HN⟩
     case measure => simp [intOf]; omega
    ·obtain rfl : j = ln := by omega
     have HN : Hid (N2 ≤ 1 + 2 * (d ++ [y]).length ∧ OMap Tryz.prog 3 3 bm N2 (fc (flN (stepsG l) (d ++ [y]))) wr ∧ ORng Tryz.prog 3 3 b r met.length (lookN met) (fun z => left z && !decide (z = (y : Int))) cnt5 wr ∧ Keep NoB w1 wr) := by
      refine ⟨by rw [List.length_append, List.length_singleton]; omega, ?_, hR, hk1⟩
      rw [← flJ_all, hlne]; exact hMf
     have hleq5 := hR.left_eq
     clear hMf hR hk1 HI6 HI5
     go_wp2
     go_roundw
     case rel => exact ⟨d ++ [y], _, cnt5, N2, HP2, HN⟩
     case measure => rw [hleq5, hleq]; exact hlt
end Go.Proofs.YtghdibbooegocaaGreatDoor.G

namespace Go.Proofs.YtghdibbooegocaaGreatDoor.O
open Go.RowKit

def CellsAt (W : World) (k : Nat) : Prop := ∃ cs t f, W.heap[k]? = some (.cells cs t f)
theorem CellsAt.lt {W : World} {k : Nat} (h : CellsAt W k) : k < W.heap.size := by obtain ⟨_, _, _, h⟩ := h; exact (Array.getElem?_eq_some_iff.1 h).1
end Go.Proofs.YtghdibbooegocaaGreatDoor.O

namespace Go.Proofs.YtghdibbooegocaaGreatDoor.O
open Go.RowKit Go.Shelf
attribute [local go_sem] Oper.semAt_some

end Go.Proofs.YtghdibbooegocaaGreatDoor.O

namespace Go.Proofs.YtghdibbooegocaaGreatDoor.O
open Go.RowKit

set_option maxHeartbeats 1000000 in
theorem show_any (op a b : Int) (w : World) (ha : I64 a) (hb : I64 b) (hL : LaidO w) :
  Calls Tryz.prog 60 #[instV op a b] w fun e w' => e = .returned (.string (str (showI op a b))) ∧ Keep NoB w w' := by
 cases hok : okI op a b
 ·have hK := (Keep.refl NoB w).alloc (.cells #[.int .i64 op, .int .i64 a, .int .i64 b] 45)
  have HR := Lib.hid (fun w => rowFor_any op a b row0 w (rowR_no hok))
  rw [hok] at HR
  have HX : Hid (showI op a b = []) := by show _ = _; unfold showI; rw [if_neg (by rw [hok]; decide)]
  clear hok ha hb hL
  go_enter Tryz.func60, Tryz.ntmps60
  go_wp2_with fail
  refine (HR.out _).mono ?_
  rintro e w1 ⟨rfl, k1⟩
  go_wp2
  go_ret
  exact ⟨by rw [HX.out]; rfl, (keepN hK k1).alloc _⟩
 ·refine (show_yes op a b w hok ha hb hL).mono ?_
  rintro e w' ⟨d, rfl, hd, hk⟩
  exact ⟨by rw [hd.out]; unfold showI; rw [if_pos hok], hk⟩

end Go.Proofs.YtghdibbooegocaaGreatDoor.O

namespace Go.Proofs.YtghdibbooegocaaGreatDoor.O
open Go.RowKit

end Go.Proofs.YtghdibbooegocaaGreatDoor.O

namespace Go.Proofs.YtghdibbooegocaaGreatDoor.O
open Go.RowKit

/-! ### Decode -/

end Go.Proofs.YtghdibbooegocaaGreatDoor.O

namespace Go.Proofs.YtghdibbooegocaaGreatDoor.O
open Go.RowKit

end Go.Proofs.YtghdibbooegocaaGreatDoor.O

namespace Go.Proofs.YtghdibbooegocaaGreatDoor.O
open Go.RowKit

end Go.Proofs.YtghdibbooegocaaGreatDoor.O

namespace Go.Proofs.YtghdibbooegocaaGreatDoor.W
open Go.RowKit


set_option maxRecDepth 100000 in
set_option maxHeartbeats 4000000 in
theorem types_any (S : ByteArray) (s : List UInt8) (w : World) (hL : LetAt w) (hs : Hid (S.data.toList = s)) (h1 : S.size ≤ 9223372036854775807) :
  Calls Tryz.prog 115 #[.string S] w (TypesR w s) := by
 have HSZ := Lib.hid (size_of hs.out)
 by_cases hlong : 1024 < S.size
 ·have HU : Hid (untxt s = none) := untxt_none (by rw [← HSZ.out]; omega)
  go_enter Tryz.func115, Tryz.ntmps115
  go_wp2
  go_ret2
  exact types_none HU.out (Keep.refl _ _)
 ·obtain ⟨i0, hi, hz0, hz1, hz2⟩ := info_parts int_info
  go_enter Tryz.func115, Tryz.ntmps115
  go_wp2_with (at_make; refine wpList_make_own _ rfl _ _ 23 rfl w.heap.size 3 i0 _ 1 Tryz.underlying23 hi hz0 hz1 _ _ _ S.size rfl rfl rfl (by rw [hz2]; omega) (by unfold maxLen; omega) (Nat.le_refl _) ?_; intro w1 hrow1 hg1)
  have hO1 : Own w1 3 1 (Fresh w) (.slice (some ⟨w.heap.size, 0, none⟩) 0 S.size) 0 (ivs ((s.take 0).map unlet)) := Own.of_row hrow1 (fun _ h => h)
  have hK1 : Keep NoB w w1 := (Keep.refl NoB w).grown hg1 (fun g e _ => by cases e)
  have hsz1 : w.heap.size ≤ w1.heap.size := hK1.size
  clear hrow1 hg1
  have hk0 : (w1.iter S 0).heap[w1.heap.size]? = some (.stringIter S 0) := World.iter_heap w1 S 0
  have hO0 : Own (w1.iter S 0) 3 1 (Fresh w) (.slice (some ⟨w.heap.size, 0, none⟩) 0 S.size) 0 (ivs ((s.take 0).map unlet)) := hO1.keepN ((Keep.refl NoB w1).alloc _)
  have hK0 : Keep NoB w (w1.iter S 0) := hK1.alloc _
  go_loopw [4] (fun v wr => ∃ k : Nat, k ≤ S.size ∧ wr.heap[w1.heap.size]? = some (.stringIter S k) ∧ (∃ B d, v = .slice B k d ∧ Own wr 3 1 (Fresh w) (.slice B k d) k (ivs ((s.take k).map unlet))) ∧ Hid (((s.take k).all fun c => decide (unlet c ≠ 0)) = true) ∧ Keep NoB w wr)
   (fun _ wr => S.size - wr.iterPos w1.heap.size)
  case atStart => exact ⟨0, Nat.zero_le _, hk0, ⟨_, _, rfl, hO0⟩, rfl, hK0⟩
  case round =>
   obtain ⟨k, hk, hit, ⟨B, d, rfl, hO⟩, hall, hK⟩ := hrel
   clear hO0 hK0 hk0 hO1 hK1
   have hmu : Hid (wr.iterPos w1.heap.size = k) := by show _ = _; simp [World.iterPos, hit]
   by_cases hlt : k < S.size
   ·have hks : k < s.length := by rw [← HSZ.out]; exact hlt
    have HT := Lib.hid (show s.take (k + 1) = s.take k ++ [s[k]] from List.take_succ_eq_append_getElem hks)
    have HM := Lib.hid (List.getElem_mem hks)
    have hbt := byte_at hs.out k hlt hks
    by_cases hb : (S[k]'hlt).toNat < 128
    ·have hnext : ∀ ty, (Instr.next (.pointer (some ⟨w1.heap.size, 0, none⟩)) true ty).run Tryz.prog wr = _ := fun ty => Lib.run_next_ascii_at wr w1.heap.size S k ty hit hlt hb
     rw [hbt] at hnext hb
     have HB := Lib.hid (unletZ_byte s[k])
     generalize s[k] = c at hnext hb HT HM HB
     have hO2 := hO.iterAt hit (k + 1)
     have hit2 := Lib.iterAt_heap wr w1.heap.size S k (k + 1) hit
     have hK2 := hK.iterAt hsz1 S (k + 1)
     generalize wr.iterAt w1.heap.size S (k + 1) = w2 at hnext hO2 hit2 hK2
     have hL2 := hL.keep hK2
     clear hbt hO hK hit
     by_cases hc : unlet c = 0
     ·have HU : Hid (untxt s = none) := untxt_none (fun h => by have := (List.all_eq_true.1 h.2) c HM.out; simp [hc] at this)
      have e0 : unletZ (c.toNat : Int) = 0 := HB.out.trans hc
      have HLT : Hid (Calls Tryz.prog 122 #[.int .i32 (c.toNat : Int)] w2 fun e w' => e = .returned (.tuple #[.int .i64 0, .bool false]) ∧ w2 = w') := by
       have := lettered_any (c.toNat : Int) w2 hL2
       rw [e0] at this
       exact this
      clear HB hc e0
      go_wp2_with (go_at_call 122; refine HLT.out.mono ?_; rintro e w' ⟨rfl, rfl⟩)
      go_ret2
      exact types_none HU.out hK2
     ·have e0 : unletZ (c.toNat : Int) = unlet c := HB.out
      have HLT : Hid (Calls Tryz.prog 122 #[.int .i32 (c.toNat : Int)] w2 fun e w' => e = .returned (.tuple #[.int .i64 (unlet c), .bool true]) ∧ w2 = w') := by
       have := lettered_any (c.toNat : Int) w2 hL2
       rw [e0, show decide (unlet c ≠ 0) = true by simpa using hc] at this
       exact this
      have hall2 : Hid (((s.take (k + 1)).all fun c => decide (unlet c ≠ 0)) = true) := by show _ = _; rw [HT.out, List.all_append, hall.out]; simp [hc]
      have HZ : Hid (ivs ((s.take (k + 1)).map unlet) = ivs ((s.take k).map unlet) ++ [.int .i64 (unlet c)]) := by show _ = _; rw [HT.out]; simp
      clear HB hc e0 HT hall HM
      go_wp2_with (first
       | (go_at_call 122; refine HLT.out.mono ?_; rintro e w' ⟨rfl, rfl⟩)
       | (at_builtin; refine wpList_append_rd _ rfl (.tmp 27) (.tmp 29) _ rfl 3 1 8 i0 _ Tryz.underlying23 hi hz0 hz1 hz2 rfl (by decide) _ k _ _ 1 _ [.int .i64 (unlet c)] rfl (hO2.1.alloc _) rfl (rd_made rfl rfl) rfl (by simp [Value.oneCell']) (by unfold maxLen; omega) (by omega) ?_; intro B2 d2 w3 hrow3 hg3 hv3; rw [← HZ.out] at hrow3; have hit3 := (hg3.block w1.heap.size (by have := (Array.getElem?_eq_some_iff.1 hit2).1; simp; omega) (fun e => own_iter hO2 hit2 e.symm)).trans ((Below.heap_alloc w2 _ w1.heap.size (Array.getElem?_eq_some_iff.1 hit2).1).trans hit2); obtain ⟨hO3, hK3⟩ := own_after hO2.2 (hK2.alloc _) hg3 hv3 hrow3; clear hrow3 hg3 hv3))
      go_roundw
      case rel => exact ⟨k + 1, by omega, hit3, ⟨B2, d2, rfl, hO3⟩, hall2, hK3⟩
      case measure =>
       have hmu2 : w3.iterPos w1.heap.size = k + 1 := by simp [World.iterPos, hit3]
       rw [hmu.out, hmu2]
       omega
    ·have hnext : ∀ ty, (Instr.next (.pointer (some ⟨w1.heap.size, 0, none⟩)) true ty).run Tryz.prog wr = _ := fun ty => Lib.run_next_any_at wr w1.heap.size S k ty hit hlt
     have hbig := decode_big S k (by rw [get_at k hlt]; omega)
     have HB : Hid (unletZ ((Utf8.decode S k).1 : Int) = 0) := unletZ_big (by omega)
     have hc : unlet s[k] = 0 := by
      have := unletZ_byte s[k]
      rw [unletZ_big (by rw [← hbt]; omega)] at this
      exact this.symm
     have HU : Hid (untxt s = none) := untxt_none (fun h => by have := (List.all_eq_true.1 h.2) s[k] HM.out; simp [hc] at this)
     have hK2 := hK.iterAt hsz1 S (k + (Utf8.decode S k).2)
     generalize wr.iterAt w1.heap.size S (k + (Utf8.decode S k).2) = w2 at hnext hK2
     generalize (Utf8.decode S k).1 = r at hnext HB hbig
     have hL2 := hL.keep hK2
     have HLT : Hid (Calls Tryz.prog 122 #[.int .i32 (r : Int)] w2 fun e w' => e = .returned (.tuple #[.int .i64 0, .bool false]) ∧ w2 = w') := by
      have := lettered_any (r : Int) w2 hL2
      rw [HB.out] at this
      exact this
     clear hbt hO hK hit HT HM hc hb
     go_wp2_with (go_at_call 122; refine HLT.out.mono ?_; rintro e w' ⟨rfl, rfl⟩)
     go_ret2
     exact types_none HU.out hK2
   ·obtain hkn : k = s.length := by rw [← HSZ.out]; omega
    have hnext : ∀ ty, (Instr.next (.pointer (some ⟨w1.heap.size, 0, none⟩)) true ty).run Tryz.prog wr = _ := fun ty => Lib.run_next_end_at wr w1.heap.size S k ty hit hlt
    subst hkn
    rw [List.take_length] at hO hall
    have HU : Hid (untxt s = some (s.map unlet)) := untxt_some (by rw [← HSZ.out]; omega) hall.out
    go_wp2
    go_ret2
    exact types_some HU.out hO hK

end Go.Proofs.YtghdibbooegocaaGreatDoor.W

namespace Go.Proofs.YtghdibbooegocaaGreatDoor.W
open Go.RowKit

/-! ### guess, Read -/

theorem parse_any (S : ByteArray) (s : List UInt8) (w : World) (hs : S.data.toList = s) (hl : S.size ≤ 281474976710656) (h : Laid w) :
  Calls Tryz.prog 111 #[.string S, .int .i64 10, .int .i64 64] w fun e w' => ∃ er, e = .returned (.tuple #[.int .i64 (pI s), er]) ∧ Keep NoB w w' := by
 have e64 : Lib.parseIntB 64 S.data.toList = Lib.atoiAll s := by rw [Lib.parseIntB_64, hs]
 unfold pI
 rcases ha : Lib.atoiAll s with v | _ | _
 ·rw [ha] at e64
  refine (Tryz.strconv_ParseInt_10_at64_ok S (by omega) v e64 w).mono ?_
  rintro e w' ⟨rfl, hw⟩
  refine ⟨_, rfl, ?_⟩
  rcases hw with rfl | ⟨t, rfl⟩
  ·exact Keep.refl _ _
  ·exact Keep.of_below (Lib.bytesWorld_below _ _ _)
 ·rw [ha] at e64
  obtain ⟨tp, p, hv⟩ := h.syn
  refine (Tryz.strconv_ParseInt_10_at64_syntax_var S hl e64 tp p w hv).mono ?_
  rintro e w' ⟨N, rfl, _, _, hb⟩
  exact ⟨_, rfl, Keep.of_below hb⟩
 ·rw [ha] at e64
  obtain ⟨tp, p, hv⟩ := h.rng
  refine (Tryz.strconv_ParseInt_10_at64_range_var S hl e64 tp p w hv).mono ?_
  rintro e w' ⟨N, rfl, _, _, hb⟩
  rw [Lib.intSat_64, hs]
  exact ⟨_, rfl, Keep.of_below hb⟩

end Go.Proofs.YtghdibbooegocaaGreatDoor.W

namespace Go.Proofs.YtghdibbooegocaaGreatDoor.O
open Go.RowKit

def CutAt (w : World) : Prop := ∃ m, w.cell? ⟨0, 0, none⟩ = some (.int .i64 m)
theorem CutAt.keep {w w' : World} (h : CutAt w) (hk : Keep NoB w w') : CutAt w' := by
 obtain ⟨m, hm⟩ := h
 exact ⟨m, hk.cell hm id⟩
theorem cut_any (S : ByteArray) (s : List UInt8) (w : World) (hs : S.data.toList = s) (hl : S.size ≤ 200000) (h : CutAt w) :
  Calls Tryz.prog 57 #[.string S, .string ⟨#[32]⟩] w fun e w' => ∃ b, e = .returned (.tuple #[.string (str (Lib.cut s [32]).1), .string (str (Lib.cut s [32]).2.1), .bool b]) ∧ Keep NoB w w' := by
 obtain ⟨m, hm⟩ := h
 refine (Tryz.strings_Cut S ⟨#[32]⟩ m w (by omega) hm).mono ?_
 rintro e w' ⟨rfl, n, rfl⟩
 rw [hs]
 exact ⟨_, rfl, (Keep.refl NoB w).drewN n⟩
theorem str_list (s : List UInt8) : (str s).data.toList = s := by simp
theorem str_size (s : List UInt8) : (str s).size = s.length := _root_.Go.Proofs.YtghdibbooegocaaGreatDoor.W.size_of (str_list s)

set_option maxHeartbeats 1000000 in
theorem guess_dig (k : Int) (S : ByteArray) (s : List UInt8) (w : World) (hk : digK k = true) (hs : S.data.toList = s) (hl : S.size ≤ 200000) (h : LaidO w) :
  Calls Tryz.prog 110 #[.string S] w fun e w' => e = .returned (.int .i64 (gK k s)) ∧ Keep NoB w w' := by
 have HX : Hid (gK k s = W.pI s) := by show _ = _; unfold gK; rw [if_pos hk]
 have HF := Lib.hid (W.parse_any S s w hs (by omega) h.lib)
 clear h hk hs hl
 go_enter Tryz.func110, Tryz.ntmps110
 go_wp2_with fail
 refine HF.out.mono ?_
 rintro e w1 ⟨er, rfl, k1⟩
 go_wp2
 go_ret
 exact ⟨by rw [HX.out]; rfl, k1⟩

theorem own_first {w1 w : World} {B : Option Addr} {d : Nat} {x : Int} (h : Own w1 3 1 (Fresh w) (.slice B 1 d) 1 (ivs [x])) : ∃ g, B = some ⟨g, 0, none⟩ ∧ w1.cell? ⟨g, 0, none⟩ = some (.int .i64 x) := by
 obtain ⟨A, c, e, _, _, hr, ha⟩ := h.form
 injection e with e1 _ e2
 subst e1
 obtain ⟨g, off, e3, hc⟩ := hr (by simp)
 have h0 := (ha _ e3).2
 injection h0 with _ h0 _
 subst h0
 exact ⟨g, e3, hc 0 _ (by simp)⟩
def letE (s : List UInt8) : Int := if W.tE s = 0 ∧ W.tN s = 1 then 0 else 40
theorem tE_tN (s : List UInt8) : W.tE s = 0 ∨ (W.tE s = 20 ∧ W.tN s = 0) := by
 unfold W.tE W.tN
 split
 ·exact .inl rfl
 ·exact .inr ⟨rfl, rfl⟩
set_option maxHeartbeats 1000000 in
theorem lettered_any (S : ByteArray) (s : List UInt8) (w : World) (hs : S.data.toList = s) (hl : S.size ≤ 200000) (h : LaidO w) :
  Calls Tryz.prog 97 #[.string S] w fun e w' => e = .returned (.tuple #[.int .i64 (ltrI s), .int .i64 (letE s)]) ∧ Keep NoB w w' := by
 have HF := Lib.hid (W.types_any S s w h.lets hs (by omega))
 have hlen := W.tL_length s
 clear h hs hl
 by_cases h0 : W.tE s = 0
 ·by_cases h1 : W.tN s = 1
  ·have HX : Hid (ltrI s = (W.tL s).getD 0 0 ∧ letE s = 0) := ⟨by unfold ltrI; rw [if_pos ⟨h0, h1⟩], by unfold letE; rw [if_pos ⟨h0, h1⟩]⟩
   obtain ⟨x, hx⟩ : ∃ x, W.tL s = [x] := by
    rw [h1] at hlen
    exact List.length_eq_one_iff.1 hlen
   rw [hx] at HX
   unfold W.TypesR at HF
   rw [h0, h1, hx] at HF
   clear h0 h1 hx hlen
   go_enter Tryz.func97, Tryz.ntmps97
   go_wp2_with fail
   refine HF.out.mono ?_
   rintro e w1 ⟨B, d, rfl, hO, k1⟩
   obtain ⟨ad, rfl, hc⟩ : ∃ ad, B = some ad ∧ w1.cell? ad = some (.int .i64 x) := by
    obtain ⟨g, rfl, hcell⟩ := own_first hO
    exact ⟨_, rfl, hcell⟩
   go_wp2
   go_ret2
   rw [HX.out.1, HX.out.2]
   exact ⟨rfl, k1⟩
  ·have HX : Hid (ltrI s = 0 ∧ letE s = 40) := ⟨by unfold ltrI; rw [if_neg (fun h => h1 h.2)], by unfold letE; rw [if_neg (fun h => h1 h.2)]⟩
   unfold W.TypesR at HF
   rw [h0] at HF
   clear h0 hlen
   have hq : ((W.tN s : Int) != 1) = true := by rw [bne_iff_ne]; omega
   generalize W.tN s = n at HF hq
   clear h1
   go_enter Tryz.func97, Tryz.ntmps97
   go_wp2_with fail
   refine HF.out.mono ?_
   rintro e w1 ⟨B, d, rfl, hO, k1⟩
   go_wp2
   go_ret2
   rw [HX.out.1, HX.out.2]
   exact ⟨rfl, k1⟩
 ·have HX : Hid (ltrI s = 0 ∧ letE s = 40) := ⟨by unfold ltrI; rw [if_neg (fun h => h0 h.1)], by unfold letE; rw [if_neg (fun h => h0 h.1)]⟩
  obtain ⟨h20, hn0⟩ := (tE_tN s).resolve_left h0
  unfold W.TypesR at HF
  rw [h20, hn0] at HF
  clear h0 h20 hn0 hlen
  go_enter Tryz.func97, Tryz.ntmps97
  go_wp2_with fail
  refine HF.out.mono ?_
  rintro e w1 ⟨B, d, rfl, hO, k1⟩
  go_wp2
  go_ret2
  rw [HX.out.1, HX.out.2]
  exact ⟨rfl, k1⟩

set_option maxHeartbeats 1000000 in
theorem guess_word (k : Int) (S : ByteArray) (s : List UInt8) (c : Nat) (w : World) (hk : wordK k = true) (hs : S.data.toList = s) (hl : S.size ≤ 200000) (h : LaidO w) (hc : w.cell? ⟨c, 0, none⟩ = some (fnV (readF k))) :
  Calls Tryz.prog 113 #[.string S, .pointer (some ⟨c, 0, none⟩)] w fun e w' => e = .returned (.int .i64 (gK k s)) ∧ Keep NoB w w' := by
 have hk := of_decide_eq_true hk
 have hkc : k = 8 ∨ k = 9 ∨ (k = 2 ∨ k = 3) := by omega
 clear hk
 rcases hkc with rfl | rfl | hk
 ·have HF := Lib.hid (A.binOf_all S s w h.names hs)
  have HX : Hid (gK 8 s = A.ofI A.binNs s) := rfl
  have hc' : w.cell? ⟨c, 0, none⟩ = some (fnV 99) := hc
  clear h hs hl hc
  go_enter Tryz.func113, Tryz.ntmps113
  go_wp2_with fail
  refine HF.out.mono ?_
  rintro e w1 ⟨rfl, k1⟩
  go_wp2
  go_ret
  exact ⟨by rw [HX.out]; rfl, k1⟩
 ·have HF := Lib.hid (A.unOf_all S s w h.names hs)
  have HX : Hid (gK 9 s = A.ofI A.unNs s) := rfl
  have hc' : w.cell? ⟨c, 0, none⟩ = some (fnV 101) := hc
  clear h hs hl hc
  go_enter Tryz.func113, Tryz.ntmps113
  go_wp2_with fail
  refine HF.out.mono ?_
  rintro e w1 ⟨rfl, k1⟩
  go_wp2
  go_ret
  exact ⟨by rw [HX.out]; rfl, k1⟩
 ·have HF := Lib.hid (lettered_any S s w hs hl h)
  have HX : Hid (gK k s = ltrI s) := by rcases hk with rfl | rfl <;> rfl
  have hc' : w.cell? ⟨c, 0, none⟩ = some (fnV 97) := by rw [hc]; rcases hk with rfl | rfl <;> rfl
  clear h hs hl hc hk
  go_enter Tryz.func113, Tryz.ntmps113
  go_wp2_with fail
  refine HF.out.mono ?_
  rintro e w1 ⟨rfl, k1⟩
  go_wp2
  go_ret
  exact ⟨by rw [HX.out]; rfl, k1⟩

theorem kb_cases (op : Int) : (rowAt op).kb = 0 ∨ (rowAt op).kb = 3 := by
 have := rowAt_all (p := fun r => decide (r.kb = 0 ∨ r.kb = 3)) (by decide) (by decide) op
 simpa using this

theorem run_field_gu (k l m : Int) (sh gu : Value) (w : World) : (Instr.field 105 (.agg #[.int .i64 k, .int .i64 l, .int .i64 m, sh, gu]) 4).run Tryz.prog w = .ok gu w := by kernel_rfl

/-! ### guess -/
theorem dig_word {k : Int} (h : wordK k = true) : ¬ digK k = true := by
 have h := of_decide_eq_true h
 intro h2
 have h2 := of_decide_eq_true h2
 omega
theorem word_dig_no {k : Int} (h : wordK k = true) : ¬ digK k = true := dig_word h

set_option maxRecDepth 100000 in
set_option maxHeartbeats 4000000 in
theorem guess_00 (op ka kb A B : Int) (S : ByteArray) (s : List UInt8) (w : World) (hs : Hid (S.data.toList = s)) (hl : Hid (S.size ≤ 200000)) (_hL : Hid (LaidO w)) (hC : Hid (CutAt w)) (HKn : Hid (∀ w, Calls Tryz.prog 78 #[.int .i64 op] w fun e w' => e = .returned (.tuple #[.int .i64 ka, .int .i64 kb]) ∧ Keep NoB w w'))
  (hA : Hid (A = 0)) (hB : Hid (B = 0)) (h0 : ka = 0) (h1 : kb = 0) :
  Calls Tryz.prog 59 #[.int .i64 op, .string S] w fun e w' => e = .returned (instV op A B) ∧ Keep NoB w w' := by
 have HCt := Lib.hid (fun w hw => cut_any S s w hs.out hl.out hw)
 have hcl := Lib.hid (cut_len s)
 have hsz : Hid (S.size = s.length) := Lib.hid (_root_.Go.Proofs.YtghdibbooegocaaGreatDoor.W.size_of hs.out)
 subst h0
 subst h1
 have gK := ((Keep.refl NoB w).alloc (.cells #[.int .i64 0, .int .i64 0, .int .i64 0] 45)).alloc (.cells #[.int .i64 op, .int .i64 0, .int .i64 0] 45)
 have bo := (Blk.new w 45 #[.int .i64 0, .int .i64 0, .int .i64 0]).alloc (.cells #[.int .i64 op, .int .i64 0, .int .i64 0] 45)
 have bx := Blk.new (w.alloc (.cells #[.int .i64 0, .int .i64 0, .int .i64 0] 45)) 45 #[.int .i64 op, .int .i64 0, .int .i64 0]
 rw [World.size_alloc] at bx
 generalize (Lib.cut s [32]).1 = s1 at *
 generalize (Lib.cut s [32]).2.1 = s2 at *
 go_enter Tryz.func59, Tryz.ntmps59
 go_wp2_with fail
 refine (HCt.out _ (hC.out.keep gK)).mono ?_
 rintro e w1 ⟨bb, rfl, k1⟩
 replace bo := bo.keep k1 id
 replace bx := bx.keep k1 id
 replace gK := keepN gK k1
 clear k1
 go_wp2_with fail
 refine (HKn.out _).mono ?_
 rintro e w2 ⟨rfl, k1⟩
 replace bo := bo.keep k1 id
 replace bx := bx.keep k1 id
 replace gK := keepN gK k1
 clear k1
 have hz := bx.lt
 have hzo := bo.lt
 have fx := fun i => bx.frozen i
 have fo := fun i => bo.frozen i
 obtain ⟨c0, c1, c2⟩ := blk_inst bx
 obtain ⟨o0, o1, o2⟩ := blk_inst bo
 go_wp2
 refine bodyPost_ret (v := instV op 0 0) (by simp [results, Tryz.results59, go_sem, o0, o1, o2]) rfl ⟨by rw [hA.out, hB.out], ?_⟩
 repeat' first | exact gK | refine Keep.setCell ?_ (fun h => absurd h (by simp)) _


set_option maxRecDepth 100000 in
set_option maxHeartbeats 4000000 in
theorem guess_d0 (op ka kb A B : Int) (S : ByteArray) (s : List UInt8) (w : World) (hs : Hid (S.data.toList = s)) (hl : Hid (S.size ≤ 200000)) (hL : Hid (LaidO w)) (hC : Hid (CutAt w)) (HKn : Hid (∀ w, Calls Tryz.prog 78 #[.int .i64 op] w fun e w' => e = .returned (.tuple #[.int .i64 ka, .int .i64 kb]) ∧ Keep NoB w w'))
  (hA : Hid (A = gK ka (Lib.cut s [32]).1)) (hB : Hid (B = 0)) (h0 : ka ≠ 0) (h1 : kb = 0) (hk0 : Hid (digK ka = true ∧ 0 ≤ ka ∧ ka ≤ 10)) :
  Calls Tryz.prog 59 #[.int .i64 op, .string S] w fun e w' => e = .returned (instV op A B) ∧ Keep NoB w w' := by
 have HCt := Lib.hid (fun w hw => cut_any S s w hs.out hl.out hw)
 have hcl := Lib.hid (cut_len s)
 have hsz : Hid (S.size = s.length) := Lib.hid (_root_.Go.Proofs.YtghdibbooegocaaGreatDoor.W.size_of hs.out)
 have q0 : (ka != 0) = true := by rw [bne_iff_ne]; exact h0
 subst h1
 have gK := ((Keep.refl NoB w).alloc (.cells #[.int .i64 0, .int .i64 0, .int .i64 0] 45)).alloc (.cells #[.int .i64 op, .int .i64 0, .int .i64 0] 45)
 have bo := (Blk.new w 45 #[.int .i64 0, .int .i64 0, .int .i64 0]).alloc (.cells #[.int .i64 op, .int .i64 0, .int .i64 0] 45)
 have bx := Blk.new (w.alloc (.cells #[.int .i64 0, .int .i64 0, .int .i64 0] 45)) 45 #[.int .i64 op, .int .i64 0, .int .i64 0]
 rw [World.size_alloc] at bx
 generalize (Lib.cut s [32]).1 = s1 at *
 generalize (Lib.cut s [32]).2.1 = s2 at *
 go_enter Tryz.func59, Tryz.ntmps59
 go_wp2_with fail
 refine (HCt.out _ (hC.out.keep gK)).mono ?_
 rintro e w1 ⟨bb, rfl, k1⟩
 replace bo := bo.keep k1 id
 replace bx := bx.keep k1 id
 replace gK := keepN gK k1
 clear k1
 go_wp2_with fail
 refine (HKn.out _).mono ?_
 rintro e w2 ⟨rfl, k1⟩
 replace bo := bo.keep k1 id
 replace bx := bx.keep k1 id
 replace gK := keepN gK k1
 clear k1
 have HO := Lib.hid (fun w => operandOf_any ka ⟨hk0.out.2.1, hk0.out.2.2⟩ w)
 go_wp2_with fail
 refine (HO.out _).mono ?_
 rintro e w3 ⟨sh, gu, rfl, hF, k1⟩
 replace bo := bo.keep k1 id
 replace bx := bx.keep k1 id
 replace gK := keepN gK k1
 clear k1
 obtain ⟨rfl, rfl⟩ : sh = fnV 108 ∧ gu = fnV 110 := by
  rcases hF with ⟨h, _⟩ | ⟨_, h⟩ | ⟨h, _⟩
  ·exact absurd h h0
  ·exact h
  ·exact absurd hk0.out.1 (dig_word h)
 clear hF
 dsimp only [opV]
 have hfd := fun w => run_field_gu ka (lo ka) (hi ka) (fnV 108) (fnV 110) w
 go_wp2_with fail
 refine (guess_dig ka (str s1) s1 _ hk0.out.1 (str_list _) (by rw [str_size]; have := hcl.out; have := hsz.out; have := hl.out; omega) (hL.out.keep gK)).mono ?_
 rintro e w4 ⟨rfl, k1⟩
 replace bo := bo.keep k1 id
 replace bx := bx.keep k1 id
 replace gK := keepN gK k1
 clear k1
 clear hfd
 rw [← hA.out]
 have hz := bx.lt
 have hzo := bo.lt
 have fx := fun i => bx.frozen i
 have fo := fun i => bo.frozen i
 obtain ⟨c0, c1, c2⟩ := blk_inst bx
 obtain ⟨o0, o1, o2⟩ := blk_inst bo
 go_wp2
 refine bodyPost_ret (v := instV op A 0) (by simp [results, Tryz.results59, go_sem, o0, o1, o2]) rfl ⟨by rw [hB.out], ?_⟩
 repeat' first | exact gK | refine Keep.setCell ?_ (fun h => absurd h (by simp)) _


set_option maxRecDepth 100000 in
set_option maxHeartbeats 4000000 in
theorem guess_w0 (op ka kb A B : Int) (S : ByteArray) (s : List UInt8) (w : World) (hs : Hid (S.data.toList = s)) (hl : Hid (S.size ≤ 200000)) (hL : Hid (LaidO w)) (hC : Hid (CutAt w)) (HKn : Hid (∀ w, Calls Tryz.prog 78 #[.int .i64 op] w fun e w' => e = .returned (.tuple #[.int .i64 ka, .int .i64 kb]) ∧ Keep NoB w w'))
  (hA : Hid (A = gK ka (Lib.cut s [32]).1)) (hB : Hid (B = 0)) (h0 : ka ≠ 0) (h1 : kb = 0) (hk0 : Hid (wordK ka = true ∧ 0 ≤ ka ∧ ka ≤ 10)) :
  Calls Tryz.prog 59 #[.int .i64 op, .string S] w fun e w' => e = .returned (instV op A B) ∧ Keep NoB w w' := by
 have HCt := Lib.hid (fun w hw => cut_any S s w hs.out hl.out hw)
 have hcl := Lib.hid (cut_len s)
 have hsz : Hid (S.size = s.length) := Lib.hid (_root_.Go.Proofs.YtghdibbooegocaaGreatDoor.W.size_of hs.out)
 have q0 : (ka != 0) = true := by rw [bne_iff_ne]; exact h0
 subst h1
 have gK := ((Keep.refl NoB w).alloc (.cells #[.int .i64 0, .int .i64 0, .int .i64 0] 45)).alloc (.cells #[.int .i64 op, .int .i64 0, .int .i64 0] 45)
 have bo := (Blk.new w 45 #[.int .i64 0, .int .i64 0, .int .i64 0]).alloc (.cells #[.int .i64 op, .int .i64 0, .int .i64 0] 45)
 have bx := Blk.new (w.alloc (.cells #[.int .i64 0, .int .i64 0, .int .i64 0] 45)) 45 #[.int .i64 op, .int .i64 0, .int .i64 0]
 rw [World.size_alloc] at bx
 generalize (Lib.cut s [32]).1 = s1 at *
 generalize (Lib.cut s [32]).2.1 = s2 at *
 go_enter Tryz.func59, Tryz.ntmps59
 go_wp2_with fail
 refine (HCt.out _ (hC.out.keep gK)).mono ?_
 rintro e w1 ⟨bb, rfl, k1⟩
 replace bo := bo.keep k1 id
 replace bx := bx.keep k1 id
 replace gK := keepN gK k1
 clear k1
 go_wp2_with fail
 refine (HKn.out _).mono ?_
 rintro e w2 ⟨rfl, k1⟩
 replace bo := bo.keep k1 id
 replace bx := bx.keep k1 id
 replace gK := keepN gK k1
 clear k1
 have HO := Lib.hid (fun w => operandOf_any ka ⟨hk0.out.2.1, hk0.out.2.2⟩ w)
 go_wp2_with fail
 refine (HO.out _).mono ?_
 rintro e w3 ⟨sh, gu, rfl, hF, k1⟩
 replace bo := bo.keep k1 id
 replace bx := bx.keep k1 id
 replace gK := keepN gK k1
 clear k1
 obtain ⟨bb, cc, rfl, rfl, hcc⟩ : ∃ b c, sh = boxV 112 b ∧ gu = boxV 113 c ∧ w3.cell? ⟨c, 0, none⟩ = some (fnV (readF ka)) := by
  rcases hF with ⟨h, _⟩ | ⟨h, _⟩ | ⟨_, b, c, h1, h2, _, h4⟩
  ·exact absurd h h0
  ·exact absurd h (word_dig_no hk0.out.1)
  ·exact ⟨b, c, h1, h2, h4⟩
 have hcc := Lib.hid hcc
 clear hF
 dsimp only [opV]
 have hfd := fun w => run_field_gu ka (lo ka) (hi ka) (boxV 112 bb) (boxV 113 cc) w
 go_wp2_with fail
 refine (guess_word ka (str s1) s1 cc _ hk0.out.1 (str_list _) (by rw [str_size]; have := hcl.out; have := hsz.out; have := hl.out; omega) (hL.out.keep gK) hcc.out).mono ?_
 rintro e w4 ⟨rfl, k1⟩
 replace bo := bo.keep k1 id
 replace bx := bx.keep k1 id
 replace gK := keepN gK k1
 clear k1
 clear hfd
 rw [← hA.out]
 have hz := bx.lt
 have hzo := bo.lt
 have fx := fun i => bx.frozen i
 have fo := fun i => bo.frozen i
 obtain ⟨c0, c1, c2⟩ := blk_inst bx
 obtain ⟨o0, o1, o2⟩ := blk_inst bo
 go_wp2
 refine bodyPost_ret (v := instV op A 0) (by simp [results, Tryz.results59, go_sem, o0, o1, o2]) rfl ⟨by rw [hB.out], ?_⟩
 repeat' first | exact gK | refine Keep.setCell ?_ (fun h => absurd h (by simp)) _


set_option maxRecDepth 100000 in
set_option maxHeartbeats 4000000 in
theorem guess_dw (op ka kb A B : Int) (S : ByteArray) (s : List UInt8) (w : World) (hs : Hid (S.data.toList = s)) (hl : Hid (S.size ≤ 200000)) (hL : Hid (LaidO w)) (hC : Hid (CutAt w)) (HKn : Hid (∀ w, Calls Tryz.prog 78 #[.int .i64 op] w fun e w' => e = .returned (.tuple #[.int .i64 ka, .int .i64 kb]) ∧ Keep NoB w w'))
  (hA : Hid (A = gK ka (Lib.cut s [32]).1)) (hB : Hid (B = gK kb (Lib.cut s [32]).2.1)) (h0 : ka ≠ 0) (h1 : kb ≠ 0) (hk0 : Hid (digK ka = true ∧ 0 ≤ ka ∧ ka ≤ 10)) (hk1 : Hid (wordK kb = true ∧ 0 ≤ kb ∧ kb ≤ 10)) :
  Calls Tryz.prog 59 #[.int .i64 op, .string S] w fun e w' => e = .returned (instV op A B) ∧ Keep NoB w w' := by
 have HCt := Lib.hid (fun w hw => cut_any S s w hs.out hl.out hw)
 have hcl := Lib.hid (cut_len s)
 have hsz : Hid (S.size = s.length) := Lib.hid (_root_.Go.Proofs.YtghdibbooegocaaGreatDoor.W.size_of hs.out)
 have q0 : (ka != 0) = true := by rw [bne_iff_ne]; exact h0
 have q1 : (kb != 0) = true := by rw [bne_iff_ne]; exact h1
 have gK := ((Keep.refl NoB w).alloc (.cells #[.int .i64 0, .int .i64 0, .int .i64 0] 45)).alloc (.cells #[.int .i64 op, .int .i64 0, .int .i64 0] 45)
 have bo := (Blk.new w 45 #[.int .i64 0, .int .i64 0, .int .i64 0]).alloc (.cells #[.int .i64 op, .int .i64 0, .int .i64 0] 45)
 have bx := Blk.new (w.alloc (.cells #[.int .i64 0, .int .i64 0, .int .i64 0] 45)) 45 #[.int .i64 op, .int .i64 0, .int .i64 0]
 rw [World.size_alloc] at bx
 generalize (Lib.cut s [32]).1 = s1 at *
 generalize (Lib.cut s [32]).2.1 = s2 at *
 go_enter Tryz.func59, Tryz.ntmps59
 go_wp2_with fail
 refine (HCt.out _ (hC.out.keep gK)).mono ?_
 rintro e w1 ⟨bb, rfl, k1⟩
 replace bo := bo.keep k1 id
 replace bx := bx.keep k1 id
 replace gK := keepN gK k1
 clear k1
 go_wp2_with fail
 refine (HKn.out _).mono ?_
 rintro e w2 ⟨rfl, k1⟩
 replace bo := bo.keep k1 id
 replace bx := bx.keep k1 id
 replace gK := keepN gK k1
 clear k1
 have HO := Lib.hid (fun w => operandOf_any ka ⟨hk0.out.2.1, hk0.out.2.2⟩ w)
 go_wp2_with fail
 refine (HO.out _).mono ?_
 rintro e w3 ⟨sh, gu, rfl, hF, k1⟩
 replace bo := bo.keep k1 id
 replace bx := bx.keep k1 id
 replace gK := keepN gK k1
 clear k1
 obtain ⟨rfl, rfl⟩ : sh = fnV 108 ∧ gu = fnV 110 := by
  rcases hF with ⟨h, _⟩ | ⟨_, h⟩ | ⟨h, _⟩
  ·exact absurd h h0
  ·exact h
  ·exact absurd hk0.out.1 (dig_word h)
 clear hF
 dsimp only [opV]
 have hfd := fun w => run_field_gu ka (lo ka) (hi ka) (fnV 108) (fnV 110) w
 go_wp2_with fail
 refine (guess_dig ka (str s1) s1 _ hk0.out.1 (str_list _) (by rw [str_size]; have := hcl.out; have := hsz.out; have := hl.out; omega) (hL.out.keep gK)).mono ?_
 rintro e w4 ⟨rfl, k1⟩
 replace bo := bo.keep k1 id
 replace bx := bx.keep k1 id
 replace gK := keepN gK k1
 clear k1
 clear hfd
 rw [← hA.out]
 have bo2 := bo
 have hz := bx.lt
 have fx := fun i => bx.frozen i
 have c0 := bx.cell 0
 have c1 := bx.cell 1
 have c2 := bx.cell 2
 have bx2 := bx.put 1 (.int .i64 A)
 have bo3 := bo.far (p := ⟨w.heap.size + 1, 1, none⟩) (by simp) (.int .i64 A)
 have gK2 : Keep NoB w (w4.setCell ⟨w.heap.size + 1, 1, none⟩ (.int .i64 A)) := gK.setCell (fun h => by have : w.heap.size + 1 < w.heap.size := h; omega) _
 have HO := Lib.hid (fun w => operandOf_any kb ⟨hk1.out.2.1, hk1.out.2.2⟩ w)
 go_wp2_with fail
 refine (HO.out _).mono ?_
 rintro e w5 ⟨sh, gu, rfl, hF, k1⟩
 clear bx bo gK hz fx c0 c1 c2 bo2
 have bx := bx2.keep k1 id
 have bo := bo3.keep k1 id
 have gK := keepN gK2 k1
 clear k1 bx2 bo3 gK2
 obtain ⟨bb, cc, rfl, rfl, hcc⟩ : ∃ b c, sh = boxV 112 b ∧ gu = boxV 113 c ∧ w5.cell? ⟨c, 0, none⟩ = some (fnV (readF kb)) := by
  rcases hF with ⟨h, _⟩ | ⟨h, _⟩ | ⟨_, b, c, h1, h2, _, h4⟩
  ·exact absurd h h1
  ·exact absurd h (word_dig_no hk1.out.1)
  ·exact ⟨b, c, h1, h2, h4⟩
 have hcc := Lib.hid hcc
 clear hF
 dsimp only [opV]
 have hfd := fun w => run_field_gu kb (lo kb) (hi kb) (boxV 112 bb) (boxV 113 cc) w
 go_wp2_with fail
 refine (guess_word kb (str s2) s2 cc _ hk1.out.1 (str_list _) (by rw [str_size]; have := hcl.out; have := hsz.out; have := hl.out; omega) (hL.out.keep gK) hcc.out).mono ?_
 rintro e w6 ⟨rfl, k1⟩
 replace bo := bo.keep k1 id
 replace bx := bx.keep k1 id
 replace gK := keepN gK k1
 clear k1
 rw [← hB.out]
 have hz := bx.lt
 have hzo := bo.lt
 have fx := fun i => bx.frozen i
 have fo := fun i => bo.frozen i
 obtain ⟨c0, c1, c2⟩ := blk_inst bx
 obtain ⟨o0, o1, o2⟩ := blk_inst bo
 go_wp2
 refine bodyPost_ret (v := instV op A B) (by simp [results, Tryz.results59, go_sem, o0, o1, o2]) rfl ⟨rfl, ?_⟩
 repeat' first | exact gK | refine Keep.setCell ?_ (fun h => absurd h (by simp)) _

end Go.Proofs.YtghdibbooegocaaGreatDoor.O

namespace Go.Proofs.YtghdibbooegocaaGreatDoor.O
open Go.RowKit Go.Shelf

abbrev Rn := { k : Nat // k < 30 }
abbrev rowE (x : Rn) : Array Value := #[.int .i64 (x.1 : Int), rowV (rowAt (x.1 : Int))]
theorem rn_op (x : Rn) : isOp (x.1 : Int) = true := decide_eq_true (by have := x.2; omega)

set_option maxRecDepth 100000 in
set_option maxHeartbeats 1000000 in
theorem rows1_in (m l : Nat) (hm : 1 ≤ m) (J Jx : List Rn → World → Prop) (hJk : ∀ pre W W', J pre W → Keep NoB W W' → J pre W')
  (hY : ∀ pre x W, J pre W → pre.length < 30 → YieldAt Fence.wide (m - 1) Tryz.prog l (rowE x) W fun e W' =>
   (e = .returned (.bool true) ∧ J (pre ++ [x]) W' ∧ True) ∨ (e = .returned (.bool false) ∧ Jx (pre ++ [x]) W'))
  (W : World) (h0 : J [] W) :
  CallsIn Fence.wide m Tryz.prog 92 #[.func (.yield l) #[] #[]] W fun e W' => (∃ v, e = .returned v) ∧
   ((∃ ys : List Rn, ys.map (·.1) = List.range 30 ∧ J ys W') ∨ (∃ pre, True ∧ Jx pre W')) := by
 refine callsIn_of_wp Tryz.func92 rfl trivial ?_ rfl
 simp only [Tryz.ntmps92, List.size_toArray, List.length_cons, List.length_nil, Nat.reduceAdd, Nat.reduceSub, Array.replicate_succ, Array.replicate_zero, List.push_toArray, List.append_toArray, List.nil_append, List.cons_append]
 gi_wp2_with (refine ⟨trivial, ?_⟩; (try refine ⟨fun _ => hm, ?_⟩); gi_at_call 93; refine (callsIn_wide.2 (table_any _)).mono ?_; rintro e w1 ⟨rfl, k1⟩; have hJ1 := hJk _ _ _ h0 k1)
 gi_loopw [5] (fun p wr => ∃ (j : Nat) (pre : List Rn), j ≤ 30 ∧ p = .int .i64 (j : Int) ∧ Hid (pre.map (·.1) = List.range j) ∧ J pre wr)
  (fun p _ => 30 - (intOf p).toNat)
 case atStart => exact ⟨0, [], by omega, rfl, rfl, hJ1⟩
 case round =>
  obtain ⟨j, pre, hj, rfl, HP, hJ⟩ := hrel
  by_cases hlt : j < 30
  ·have hlen : pre.length < 30 := by
    have := congrArg List.length HP.out
    simp at this
    omega
   have ho : isOp (j : Int) = true := decide_eq_true (by omega)
   have hix : ∀ w, (Instr.index 121 (.agg tableC) (.int .i64 (j : Int))).run Tryz.prog w = .ok (rowV (rowAt (j : Int))) w := fun w => run_index_row (j : Int) ho w
   have HJ2 := Lib.hid (fun W' hk => hJk pre wr W' hJ hk)
   have HY := Lib.hid (hY pre ⟨j, hlt⟩ _ (HJ2.out _ ((Keep.refl NoB wr).alloc (.cells (cells9 (rowAt (j : Int))) 82))) hlen)
   have hdn : Hid ((pre ++ [(⟨j, hlt⟩ : Rn)]).map (·.1) = List.range (j + 1)) := by
    show _ = _
    rw [List.map_append, HP.out, List.range_succ]
    rfl
   obtain ⟨r, hr⟩ : ∃ r, rowAt (j : Int) = r := ⟨_, rfl⟩
   rw [hr] at hix
   dsimp only [rowE] at HY
   rw [hr] at HY
   clear hr
   obtain ⟨fn, tmps, assign, body, hy, hR⟩ := HY.out
   clear hY ho HY HJ2
   gi_wp2
   refine hR.mono ?_
   rintro e W3 (⟨rfl, hJ3, _⟩ | ⟨rfl, hJx3⟩)
   ·gi_wp2
    go_roundw
    case rel => exact ⟨j + 1, _, by omega, by go_num, hdn, hJ3⟩
    case measure => simp [intOf]; omega
   ·gi_wp2
    refine bodyPost_ret (results_none rfl _ _ _) rfl ?_
    exact ⟨⟨_, rfl⟩, .inr ⟨_, trivial, hJx3⟩⟩
  ·obtain rfl : j = 30 := by omega
   gi_wp2
   go_end0
   exact ⟨⟨_, rfl⟩, .inl ⟨pre, HP.out, hJ⟩⟩

end Go.Proofs.YtghdibbooegocaaGreatDoor.O
