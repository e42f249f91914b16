/-
  Part 9 of the proofs of GAsksRow: what is laid, and what the functions that the law runs answer. Conditions: each theorem names its own.
-/
import Derived.Test.YtghdibbooegocaaGreatDoorQB8
namespace Go.Proofs.YtghdibbooegocaaGreatDoor.G
open Go.RowKit W

def nB (l : List C.I3) : Nat := if C.okB l = true then l.length else 0
section
variable {l : List C.I3}
theorem nB_ok (h : C.okB l = true) : nB l = l.length := if_pos h
theorem nB_no (h : C.okB l = false) : nB l = 0 := if_neg (by rw [h]; decide)
theorem nB_le : nB l ≤ 512 := by
 cases h : C.okB l with
 | false => rw [nB_no h]; omega
 | true => rw [nB_ok h]; exact (C.okB_parts h).2.1
theorem nB_pos (h : nB l ≠ 0) : C.okB l = true := by
 cases ho : C.okB l with
 | false => exact absurd (nB_no ho) h
 | true => rfl
theorem nB_steps : ∀ i a, i < nB l → a ∈ stepsG l i → a < nB l := by
 intro i a hi ha
 have ho := nB_pos (l := l) (by omega)
 rw [nB_ok ho] at hi ⊢
 exact steps_lt ho i a hi ha
theorem stepsX_len (x : C.I3) (i : Nat) : (stepsX x i).length ≤ 2 := by
 unfold stepsX
 split
 ·simp
 ·split
  ·simp
  ·split
   ·simp
   ·split <;> simp
theorem nB_len : ∀ i, i < nB l → (stepsG l i).length ≤ 2 := by
 intro i _
 unfold stepsG
 split
 ·exact stepsX_len _ _
 ·simp
theorem steps_rise (i : Nat) : (stepsG l i).Pairwise (· < ·) := by
 unfold stepsG
 split
 ·exact stepsX_rise _ _
 ·exact List.Pairwise.nil
theorem reach_keys {met : List (Nat × Nat)} (h : (nB l = 0 ∧ met = []) ∨ (nB l ≠ 0 ∧ AllN (stepsG l) (fun _ => true) 0 met)) (y : Nat) : y ∈ keysN met ↔ y ∈ reachL l := by
 rcases h with ⟨h, rfl⟩ | ⟨h, hall⟩
 ·cases ho : C.okB l with
  | false => unfold reachL; rw [if_neg (by rw [ho]; decide)]; simp [keysN]
  | true => have := (C.okB_parts ho).1; rw [nB_ok ho] at h; omega
 ·rw [reach_iff (nB_pos h)]
  exact hall.all
theorem look_reach {met : List (Nat × Nat)} (h : (nB l = 0 ∧ met = []) ∨ (nB l ≠ 0 ∧ AllN (stepsG l) (fun _ => true) 0 met)) (y : Int) : (lookN met y).isSome = true ↔ ∃ x ∈ reachL l, (x : Int) = y := by
 constructor
 ·intro hs
  obtain ⟨v, hv⟩ := Option.isSome_iff_exists.1 hs
  obtain ⟨i, e, hi, he, _⟩ := look_some hv
  exact ⟨e.1, (reach_keys h _).1 (mem_keys_iff.2 ⟨i, e, hi, rfl⟩), he⟩
 ·rintro ⟨x, hx, rfl⟩
  cases hl : lookN met (x : Int) with
  | some _ => rfl
  | none => exact absurd ((reach_keys h x).2 hx) (look_nat.1 hl)
theorem look_reachN {met : List (Nat × Nat)} (h : (nB l = 0 ∧ met = []) ∨ (nB l ≠ 0 ∧ AllN (stepsG l) (fun _ => true) 0 met)) (y : Nat) : (lookN met (y : Int)).isSome = true ↔ y ∈ reachL l := by
 rw [look_reach h]
 exact ⟨fun ⟨x, hx, e⟩ => by rw [show y = x by omega]; exact hx, fun hy => ⟨y, hy, rfl⟩⟩
theorem reach_nB {x : Nat} (h : x ∈ reachL l) : x < nB l := by
 cases ho : C.okB l with
 | false => unfold reachL at h; rw [if_neg (by rw [ho]; decide)] at h; cases h
 | true => rw [nB_ok ho]; exact reach_lt ho h
theorem reach_b {x : Nat} (h : x ∈ reachL l) : x < 1000 := by
 have := reach_nB h
 have := nB_le (l := l)
 omega
theorem met_len {met : List (Nat × Nat)} (h : (nB l = 0 ∧ met = []) ∨ (nB l ≠ 0 ∧ AllN (stepsG l) (fun _ => true) 0 met)) : met.length ≤ 512 := by
 rcases h with ⟨_, rfl⟩ | ⟨h, hall⟩
 ·simp
 ·exact Nat.le_trans (hall.len (by omega) nB_steps) nB_le
theorem StepsR.one {w : World} {e : Ending} {w' : World} (h : StepsR l w e w') : Keep NoB w w' ∧ ∃ A Bf cf c, e = .returned (.slice A (nB l) c) ∧ StAt (Fresh w) A Bf cf (nB l) (stepsG l) w' := by
 obtain ⟨hk, ⟨ho, rfl⟩ | ⟨ho, g, Bf, cf, rfl, hs⟩⟩ := h
 ·exact ⟨hk, none, fun _ => none, fun _ => 0, 0, by rw [nB_no ho], fun i hi => by rw [nB_no ho] at hi; omega⟩
 ·exact ⟨hk, _, Bf, cf, l.length, by rw [nB_ok ho], by rw [nB_ok ho]; exact hs⟩
end

set_option maxRecDepth 100000 in
set_option maxHeartbeats 4000000 in
theorem fReached_any (A : Option Addr) (l : List C.I3) (n c : Nat) (w : World) (hr : Rd w A (C.iis l)) (hn : Hid (l.length = n)) (hm : n ≤ 9223372036854775807) :
  Calls Tryz.prog 17 #[.slice A n c] w (OwnR w (reachL l)) := by
 have HS := Lib.hid (stepsOf_any A l n c w hr hn hm)
 clear hr hn
 go_enter Tryz.func17, Tryz.ntmps17
 go_wp2_with fail
 refine HS.out.mono ?_
 rintro e w1 hS
 obtain ⟨k1, A1, Bf, cf, c1, rfl, hst⟩ := hS.one
 have HR := Lib.hid (reached_any A1 _ Bf cf (nB l) c1 (stepsG l) w1 hst (by have := nB_le (l := l); omega) nB_steps nB_len)
 clear HS hS hst
 go_wp2_with fail
 refine HR.out.mono ?_
 rintro e w2 ⟨met, b, rfl, hM, hb, k2, hall⟩
 have HG := Lib.hid (rising_any b met.length (lookN met) (reachL l) w2 hM.omap (by have := met_len hall; omega) rise_filter (look_reach hall) (fun x hx => reach_b hx))
 have k12 := keepN k1 k2
 clear HR hM hall k1 k2
 go_wp2_with fail
 refine HG.out.mono ?_
 rintro e w3 ⟨B, c3, rfl, hO, k3⟩
 have HF := Lib.hid (And.intro hO k3)
 clear HG hO k3
 go_wp2
 go_ret
 exact ⟨B, c3, rfl, ⟨HF.out.1.1, fun g e => Nat.le_trans k12.size (HF.out.1.2 g e)⟩, keepN k12 HF.out.2⟩
end Go.Proofs.YtghdibbooegocaaGreatDoor.G

namespace Go.Proofs.YtghdibbooegocaaGreatDoor.G
open Go.RowKit W

def atN (l : List C.I3) (a0 : Int) : Option Nat := if 0 ≤ a0 ∧ a0.toNat ∈ reachL l then some a0.toNat else none
theorem atN_some {l : List C.I3} {a0 : Int} {a : Nat} (h : atN l a0 = some a) : a0 = (a : Int) ∧ a ∈ reachL l := by
 unfold atN at h
 split at h
 ·rename_i hc
  injection h with h
  subst h
  exact ⟨by omega, hc.2⟩
 ·cases h
theorem atN_of {l : List C.I3} {a : Nat} (h : a ∈ reachL l) : atN l (a : Int) = some a := by
 unfold atN
 rw [if_pos ⟨by omega, by simpa using h⟩]
 simp
theorem atN_none {l : List C.I3} {a0 : Int} (h : atN l a0 = none) : ¬ ∃ x ∈ reachL l, (x : Int) = a0 := by
 rintro ⟨x, hx, rfl⟩
 rw [atN_of hx] at h
 cases h
def errI (l : List C.I3) (a0 : Int) : Int := if (atN l a0).isSome = true then 0 else 110
def aheadI (l : List C.I3) (a0 : Int) : List Nat := match atN l a0 with
 | some a => aheadL l a
 | none => []
def distI (l : List C.I3) (a0 : Int) : Int := match atN l a0 with
 | some a => distL l a
 | none => 0
def mustI (l : List C.I3) (a0 : Int) : List Nat := match atN l a0 with
 | some a => mustL l a
 | none => []
def TupR (w : World) (L : List Nat) (E : Int) (e : Ending) (w' : World) : Prop := ∃ B c, e = .returned (.tuple #[.slice B L.length c, .int .i64 E]) ∧ Rd w' B (ivs (nz L)) ∧ Keep NoB w w'
theorem filter_next {d : List Nat} {P : Nat → Bool} {y : Nat} : (d ++ [y]).filter P = d.filter P ++ (if P y = true then [y] else []) := by
 rw [List.filter_append]
 congr 1
 by_cases h : P y = true
 ·rw [if_pos h]; simp [h]
 ·rw [if_neg h]; simp [h]
theorem contains_dec (l : List Nat) (a : Nat) : (nz l).contains (a : Int) = decide (a ∈ l) := by
 rw [Bool.eq_iff_iff, List.contains_iff_mem, decide_eq_true_iff, List.mem_map]
 exact ⟨fun ⟨x, hx, e⟩ => by rw [show a = x by omega]; exact hx, fun h => ⟨a, h, rfl⟩⟩

set_option maxRecDepth 100000 in
set_option maxHeartbeats 8000000 in
theorem fAhead_any (A : Option Addr) (l : List C.I3) (n c : Nat) (a0 : Int) (w : World) (hr : Rd w A (C.iis l)) (hn : Hid (l.length = n)) (hm : n ≤ 9223372036854775807) (ha0 : (Lit.int .i64 a0).wf = true) :
  Calls Tryz.prog 10 #[.slice A n c, .int .i64 a0] w (TupR w (aheadI l a0) (errI l a0)) := by
 have HS := Lib.hid (stepsOf_any A l n c w hr hn hm)
 clear hr hn
 go_enter Tryz.func10, Tryz.ntmps10
 go_wp2_with fail
 refine HS.out.mono ?_
 rintro e w1 hS
 obtain ⟨k1, A1, Bf, cf, c1, rfl, hst⟩ := hS.one
 have HR := Lib.hid (reached_any A1 _ Bf cf (nB l) c1 (stepsG l) w1 hst (by have := nB_le (l := l); omega) nB_steps nB_len)
 have HST := Lib.hid (fun W (hk : Keep NoB w1 W) => hst.keepN hk)
 clear HS hS hst
 go_wp2_with fail
 refine HR.out.mono ?_
 rintro e w2 ⟨met, b, rfl, hM, hb, k2, hall⟩
 have HA := Lib.hid hall
 have hlk := hM.omap.look2 (t := 51) Tryz.underlying51 Tryz.underlying3 Tryz.underlying3 (int_zeroG _) a0 ha0
 have k12 := keepN k1 k2
 clear HR
 cases hat : atN l a0 with
 | none =>
  have h1 : (lookN met a0).isSome = false := by
   cases h : (lookN met a0).isSome with
   | false => rfl
   | true => exact absurd ((look_reach hall a0).1 h) (atN_none hat)
  have HE : Hid (aheadI l a0 = [] ∧ errI l a0 = 110) := ⟨by unfold aheadI; rw [hat], by unfold errI; rw [hat]; rfl⟩
  rw [h1] at hlk
  generalize (lookN met a0).getD 0 = u0 at hlk
  clear hM hall HST h1 hat hb
  go_wp2
  go_ret2
  rw [HE.out.1, HE.out.2]
  exact ⟨none, 0, rfl, Rd.none_ _ _, k12⟩
 | some a =>
  obtain ⟨rfl, har⟩ := atN_some hat
  have h1 : (lookN met (a : Int)).isSome = true := (look_reachN hall a).2 har
  have HE : Hid (aheadI l (a : Int) = aheadL l a ∧ errI l (a : Int) = 0) := ⟨by unfold aheadI; rw [hat], by unfold errI; rw [hat]; rfl⟩
  rw [h1] at hlk
  generalize (lookN met (a : Int)).getD 0 = u0 at hlk
  obtain ⟨w3, cnt, hrun, hR, hg3, hs3⟩ := hM.omap.range (t := 51) Tryz.underlying51 Tryz.underlying3
  obtain ⟨r, hr⟩ : ∃ r, w2.heap.size = r := ⟨_, rfl⟩
  rw [hr] at hrun hR
  have hk13 : Keep NoB w1 w3 := k2.grown hg3 (fun g e _ => by cases e)
  have HRW : Hid (w.heap.size ≤ r ∧ w1.heap.size ≤ r ∧ w1.heap.size ≤ b) := ⟨by rw [← hr]; exact k12.size, by rw [← hr]; exact k2.size, hb⟩
  have HI : Hid (Own w3 3 1 (Fresh w1) (.slice none 0 0) ([] : List Nat).length (ivs (nz [])) ∧ ORng Tryz.prog 3 3 b r met.length (lookN met) (fun h => (lookN met h).isSome) cnt w3 ∧ (∀ y : Nat, y ∈ ([] : List Nat) ↔ (lookN met (y : Int)).isSome = true ∧ (lookN met (y : Int)).isSome = false) ∧ Keep NoB w1 w3) := by
   refine ⟨Own.nil _ _ _ _, hR, fun y => ⟨(fun h => by cases h), fun ⟨h1, h2⟩ => ?_⟩, hk13⟩
   rw [h1] at h2; cases h2
  have HK1 := Lib.hid k1
  clear hM hall h1 hat hb hR hg3 hs3 k1 k2 k12 hk13
  go_wp2
  try rw [hrun]
  go_wp2
  clear hrun hlk
  go_loopw [10] (fun u wr => ∃ (L d : List Nat) (left : Int → Bool) (cnt : Nat), Hid (L = d.filter (fun y => decide (a ∈ stepsG l y)) ∧ d.Nodup ∧ (∀ y : Nat, y ∈ d ↔ (lookN met (y : Int)).isSome = true ∧ left (y : Int) = false)) ∧ Hid (Own wr 3 1 (Fresh w1) u L.length (ivs (nz L)) ∧ ORng Tryz.prog 3 3 b r met.length (lookN met) left cnt wr ∧ Keep NoB w1 wr)) (fun _ wr => wr.rangeLeft b r)
  case atStart => exact ⟨[], [], _, cnt, ⟨rfl, List.nodup_nil, HI.out.2.2.1⟩, HI.out.1, HI.out.2.1, HI.out.2.2.2⟩
  case round =>
   obtain ⟨L, d, left, cnt, HP, HL⟩ := hrel
   obtain ⟨hO, hR, hk1⟩ := HL.out
   obtain ⟨hLd, hd, hmem⟩ := HP.out
   have hdl : d.length ≤ 1000 := nodup_len 1000 d hd fun x hx => reach_b ((look_reachN HA.out x).1 ((hmem x).1 hx).1)
   have hLl : L.length ≤ 1000 := by rw [hLd]; exact Nat.le_trans (List.length_filter_le _ _) hdl
   have hleq := hR.left_eq
   rcases hR.next Tryz.underlying3 Tryz.underlying3 0 with ⟨_, hl, hrun⟩ | ⟨x, v, w4, cnt4, _, _, hlx, hgx, hrun, hR4, hlt, hg4, hs4, hen⟩
   ·have HSo := Lib.hid (sort_any (zs := nz L) (by rw [nz_len]; exact hO) hk1 (by rw [nz_len]; omega))
    have HX : Hid (sortL (nz L) = nz (aheadL l a) ∧ L.length = (aheadL l a).length) := by
     have h1 := nz_sort (l := L) (t := aheadL l a) (by rw [hLd]; exact hd.filter _) (List.Pairwise.filter _ rise_filter) fun y => by
      rw [hLd, List.mem_filter, hmem, hl, ahead_mem, decide_eq_true_iff, look_reachN HA.out]
      exact ⟨fun ⟨⟨h1, _⟩, h2⟩ => ⟨h1, h2⟩, fun ⟨h1, h2⟩ => ⟨⟨h1, rfl⟩, h2⟩⟩
     refine ⟨h1, ?_⟩
     have := congrArg List.length h1
     rw [List.length_mergeSort, nz_len, nz_len] at this
     exact this
    obtain ⟨B, cB, rfl⟩ := own_form hO.1
    clear hO hR hmem hd hl HI HL hleq hLd hdl hk1 HP
    go_wp2_with fail
    refine HSo.out.mono ?_
    rintro e w5 ⟨rfl, hO5, k5⟩
    have HF := Lib.hid (And.intro hO5 k5)
    clear hO5 k5 hrun
    go_wp2
    go_ret2
    obtain ⟨hO5, k5⟩ := HF.out
    rw [HX.out.1] at hO5
    rw [HE.out.1, HE.out.2]
    obtain ⟨A5, c5, he5, _, _, hrd, _⟩ := hO5.form
    injection he5 with e1 e2 e3
    subst e1
    exact ⟨B, cB, by rw [← HX.out.2]; rfl, hrd, keepN HK1.out k5⟩
   ·have hxr := (look_reach HA.out x).1 (by rw [hgx]; rfl)
    obtain ⟨y, hyr, rfl⟩ := hxr
    have hyn := reach_nB hyr
    have hyb := reach_b hyr
    have hnr := own_iter_ne hO hR
    have hO4 : Own w4 3 1 (Fresh w1) u10 L.length (ivs (nz L)) := ⟨hO.1.kept hg4 (.inr hnr), hO.2⟩
    have hk14 : Keep NoB w1 w4 := hk1.grown hg4 (fun g e hl => by cases e; have := HRW.out.2.1; omega)
    obtain ⟨gs, rfl, _, cq, hrd, _⟩ := HST.out w4 hk14 y hyn
    have hln : (stepsG l y).length ≤ 2 := nB_len y hyn
    have HC := Lib.hid (contains_any (Bf y) (cf y) (stepsG l y) (a : Int) w4 hrd (by omega))
    rw [contains_dec] at HC
    have hyL : y ∉ d := fun h => by have := ((hmem y).1 h).2; rw [hlx] at this; cases this
    have hd2 : (d ++ [y]).Nodup := List.nodup_append.2 ⟨hd, by simp, fun a ha c hc => by rw [List.mem_singleton] at hc; subst hc; exact fun e => hyL (e ▸ ha)⟩
    have hmem2 : ∀ z : Nat, z ∈ d ++ [y] ↔ (lookN met (z : Int)).isSome = true ∧ (left (z : Int) && !decide ((z : Int) = (y : Int))) = false := fun z => by
     rw [List.mem_append, List.mem_singleton, hmem]
     by_cases hzy : z = y
     ·subst hzy; simp [hgx]
     ·have hne : (z : Int) ≠ (y : Int) := by omega
      simp [hzy, hne]
    generalize Bf y = By at cq hrd HC
    generalize cf y = cy at cq HC
    obtain ⟨ln, hlne⟩ : ∃ ln, (stepsG l y).length = ln := ⟨_, rfl⟩
    rw [hlne] at cq HC hln
    by_cases hin : a ∈ stepsG l y
    ·rw [decide_eq_true hin] at HC
     obtain ⟨v', W', hap, hO', hg', hk'⟩ := push_any hO4 hk14 (y : Int) (by omega)
     have hnb := own_map_ne hO4 hR4.omap
     have hnr3 := own_iter_ne hO4 hR4
     have hR5 := (hR4.keep ((Keep.refl NoB _).alloc (.cells #[.int .i64 (y : Int)] 3)) id id).grown hg' (Ne.symm hnb) (Ne.symm hnr3)
     have HN : Hid (L ++ [y] = (d ++ [y]).filter (fun y => decide (a ∈ stepsG l y)) ∧ (d ++ [y]).Nodup ∧ (∀ z : Nat, z ∈ d ++ [y] ↔ (lookN met (z : Int)).isSome = true ∧ (left (z : Int) && !decide ((z : Int) = (y : Int))) = false)) :=
      ⟨by rw [filter_next, if_pos (decide_eq_true hin), hLd], hd2, hmem2⟩
     have HM : Hid (Own W' 3 1 (Fresh w1) v' (L ++ [y]).length (ivs (nz (L ++ [y]))) ∧ ORng Tryz.prog 3 3 b r met.length (lookN met) (fun z => left z && !decide (z = (y : Int))) cnt4 W' ∧ Keep NoB w1 W') :=
      ⟨by rw [List.length_append, List.length_singleton]; simpa [nz] using hO', hR5, hk'⟩
     have hleq4 := hR5.left_eq
     clear hs4 hO hR hmem hd HI HL hO4 hO' hg' hk' hnb hnr3 hR5 hR4 hnr hg4 hyL hgx hlx hd2 hmem2 hrd hk14 hLd HP hdl hk1
     go_wp2_with fail
     refine HC.out.mono ?_
     rintro e w9 ⟨rfl, rfl⟩
     go_wp2_with (at_builtin; refine wpList_append_run _ rfl _ _ 23 rfl _ _ v' W' rfl rfl hap ?_)
     go_roundw
     case rel => exact ⟨L ++ [y], d ++ [y], _, cnt4, HN, HM⟩
     case measure => rw [hleq4, hleq]; exact hlt
    ·rw [decide_eq_false hin] at HC
     have HN : Hid (L = (d ++ [y]).filter (fun y => decide (a ∈ stepsG l y)) ∧ (d ++ [y]).Nodup ∧ (∀ z : Nat, z ∈ d ++ [y] ↔ (lookN met (z : Int)).isSome = true ∧ (left (z : Int) && !decide ((z : Int) = (y : Int))) = false)) :=
      ⟨by rw [filter_next, if_neg (by rw [decide_eq_true_iff]; exact hin), List.append_nil, hLd], hd2, hmem2⟩
     have HM : Hid (Own w4 3 1 (Fresh w1) u10 L.length (ivs (nz L)) ∧ ORng Tryz.prog 3 3 b r met.length (lookN met) (fun z => left z && !decide (z = (y : Int))) cnt4 w4 ∧ Keep NoB w1 w4) := ⟨hO4, hR4, hk14⟩
     have hleq4 := hR4.left_eq
     clear hs4 hO hR hmem hd HI HL hO4 hR4 hnr hg4 hyL hgx hlx hd2 hmem2 hrd hk14 hLd HP hdl hk1
     go_wp2_with fail
     refine HC.out.mono ?_
     rintro e w9 ⟨rfl, rfl⟩
     go_wp2
     go_roundw
     case rel => exact ⟨L, d ++ [y], _, cnt4, HN, HM⟩
     case measure => rw [hleq4, hleq]; exact hlt
end Go.Proofs.YtghdibbooegocaaGreatDoor.G

namespace Go.Proofs.YtghdibbooegocaaGreatDoor.G
open Go.RowKit W

theorem loop_reach {l : List C.I3} {y : Nat} (h : y ∈ loopL l) : y ∈ reachL l := by unfold loopL at h; exact (List.mem_filter.1 h).1
theorem loop_back {l : List C.I3} : ∀ y ∈ reachL l, y ∈ loopL l ↔ ∃ p t, Way (stepsG l) [y] p t ∧ y ∈ stepsG l p := by
 intro y hy
 have ho : C.okB l = true := nB_pos (l := l) (by have := reach_nB hy; omega)
 have key : ∀ (a : Nat) (t : List Nat), Way (stepsG l) (stepsG l y) a t → ∃ p t, Way (stepsG l) [y] p t ∧ a ∈ stepsG l p := by
  intro a t h
  induction h with
  | start hs => exact ⟨y, [y], .start (by simp), hs⟩
  | @step a b t _ hb ih =>
   obtain ⟨p, u, hw, ha⟩ := ih
   exact ⟨a, _, .step hw ha, hb⟩
 have key2 : ∀ (p : Nat) (t : List Nat), Way (stepsG l) [y] p t → ∀ a ∈ stepsG l p, ∃ u, Way (stepsG l) (stepsG l y) a u := by
  intro p t h
  induction h with
  | start hs => rw [List.mem_singleton] at hs; subst hs; exact fun a ha => ⟨[a], .start ha⟩
  | @step a b t _ hb ih =>
   intro z hz
   obtain ⟨u, hu⟩ := ih b hb
   exact ⟨_, .step hu hz⟩
 rw [loop_mem ho]
 constructor
 ·rintro ⟨_, t, hw⟩
  exact key y t hw
 ·rintro ⟨p, t, hw, hp⟩
  exact ⟨hy, key2 p t hw y hp⟩

set_option maxRecDepth 100000 in
set_option maxHeartbeats 8000000 in
theorem fLoops_any (A : Option Addr) (l : List C.I3) (n c : Nat) (w : World) (hr : Rd w A (C.iis l)) (hn : Hid (l.length = n)) (hm : n ≤ 9223372036854775807) :
  Calls Tryz.prog 21 #[.slice A n c] w (OwnR w (loopL l)) := by
 have HLP : Hid (∀ y ∈ reachL l, y ∈ loopL l ↔ ∃ p t, Way (stepsG l) [y] p t ∧ y ∈ stepsG l p) := loop_back
 have HS := Lib.hid (stepsOf_any A l n c w hr hn hm)
 clear hr hn
 go_enter Tryz.func21, Tryz.ntmps21
 go_wp2_with fail
 refine HS.out.mono ?_
 rintro e w1 hS
 obtain ⟨k1, A1, Bf, cf, c1, rfl, hst⟩ := hS.one
 have HR := Lib.hid (reached_any A1 _ Bf cf (nB l) c1 (stepsG l) w1 hst (by have := nB_le (l := l); omega) nB_steps nB_len)
 have HST := Lib.hid (fun W (hk : Keep NoB w1 W) => hst.keepN hk)
 clear HS hS hst
 go_wp2_with fail
 refine HR.out.mono ?_
 rintro e w2 ⟨met, b, rfl, hM, hb, k2, hall⟩
 have HA := Lib.hid hall
 have k12 := keepN k1 k2
 clear HR
 ·obtain ⟨w3, cnt, hrun, hR, hg3, hs3⟩ := hM.omap.range (t := 51) Tryz.underlying51 Tryz.underlying3
  obtain ⟨r, hr⟩ : ∃ r, w2.heap.size = r := ⟨_, rfl⟩
  rw [hr] at hrun hR
  have hk13 : Keep NoB w1 w3 := k2.grown hg3 (fun g e _ => by cases e)
  have HRW : Hid (w.heap.size ≤ r ∧ w1.heap.size ≤ r ∧ w1.heap.size ≤ b) := ⟨by rw [← hr]; exact k12.size, by rw [← hr]; exact k2.size, hb⟩
  have HI : Hid (Own w3 3 1 (Fresh w1) (.slice none 0 0) ([] : List Nat).length (ivs (nz [])) ∧ ORng Tryz.prog 3 3 b r met.length (lookN met) (fun h => (lookN met h).isSome) cnt w3 ∧ (∀ y : Nat, y ∈ ([] : List Nat) ↔ (lookN met (y : Int)).isSome = true ∧ (lookN met (y : Int)).isSome = false) ∧ Keep NoB w1 w3) := by
   refine ⟨Own.nil _ _ _ _, hR, fun y => ⟨(fun h => by cases h), fun ⟨h1, h2⟩ => ?_⟩, hk13⟩
   rw [h1] at h2; cases h2
  have HK1 := Lib.hid k1
  clear hM hall hb hR hg3 hs3 k1 k2 k12 hk13
  go_wp2
  try rw [hrun]
  go_wp2
  clear hrun
  go_loopw [4] (fun u wr => ∃ (L d : List Nat) (left : Int → Bool) (cnt : Nat), Hid (L = d.filter (fun y => decide (y ∈ loopL l)) ∧ d.Nodup ∧ (∀ y : Nat, y ∈ d ↔ (lookN met (y : Int)).isSome = true ∧ left (y : Int) = false)) ∧ Hid (Own wr 3 1 (Fresh w1) u L.length (ivs (nz L)) ∧ ORng Tryz.prog 3 3 b r met.length (lookN met) left cnt wr ∧ Keep NoB w1 wr)) (fun _ wr => wr.rangeLeft b r)
  case atStart => exact ⟨[], [], _, cnt, ⟨rfl, List.nodup_nil, HI.out.2.2.1⟩, HI.out.1, HI.out.2.1, HI.out.2.2.2⟩
  case round =>
   obtain ⟨L, d, left, cnt, HP, HL⟩ := hrel
   obtain ⟨hO, hR, hk1⟩ := HL.out
   obtain ⟨hLd, hd, hmem⟩ := HP.out
   have hdl : d.length ≤ 1000 := nodup_len 1000 d hd fun x hx => reach_b ((look_reachN HA.out x).1 ((hmem x).1 hx).1)
   have hLl : L.length ≤ 1000 := by rw [hLd]; exact Nat.le_trans (List.length_filter_le _ _) hdl
   have hleq := hR.left_eq
   rcases hR.next Tryz.underlying3 Tryz.underlying3 0 with ⟨_, hl, hrun⟩ | ⟨x, v, w4, cnt4, _, _, hlx, hgx, hrun, hR4, hlt, hg4, hs4, hen⟩
   ·have HSo := Lib.hid (sort_any (zs := nz L) (by rw [nz_len]; exact hO) hk1 (by rw [nz_len]; omega))
    have HX : Hid (sortL (nz L) = nz (loopL l) ∧ L.length = (loopL l).length) := by
     have h1 := nz_sort (l := L) (t := loopL l) (by rw [hLd]; exact hd.filter _) (by unfold loopL; exact List.Pairwise.filter _ rise_filter) fun y => by
      rw [hLd, List.mem_filter, hmem, hl, decide_eq_true_iff, look_reachN HA.out]
      exact ⟨fun ⟨_, h2⟩ => h2, fun h2 => ⟨⟨loop_reach h2, rfl⟩, h2⟩⟩
     refine ⟨h1, ?_⟩
     have := congrArg List.length h1
     rw [List.length_mergeSort, nz_len, nz_len] at this
     exact this
    obtain ⟨B, cB, rfl⟩ := own_form hO.1
    clear hO hR hmem hd hl HI HL hleq hLd hdl hk1 HP
    go_wp2_with fail
    refine HSo.out.mono ?_
    rintro e w5 ⟨rfl, hO5, k5⟩
    have HF := Lib.hid (And.intro hO5 k5)
    clear hO5 k5 hrun
    go_wp2
    go_ret
    obtain ⟨hO5, k5⟩ := HF.out
    rw [HX.out.1] at hO5
    rw [nz_len, HX.out.2] at hO5
    exact ⟨B, cB, by rw [← HX.out.2]; rfl, ⟨hO5.1, fun g e => Nat.le_trans HK1.out.size (hO5.2 g e)⟩, keepN HK1.out k5⟩
   ·have hxr := (look_reach HA.out x).1 (by rw [hgx]; rfl)
    obtain ⟨y, hyr, rfl⟩ := hxr
    have hyn := reach_nB hyr
    have hyb := reach_b hyr
    have hnr := own_iter_ne hO hR
    have hO4 : Own w4 3 1 (Fresh w1) u4 L.length (ivs (nz L)) := ⟨hO.1.kept hg4 (.inr hnr), hO.2⟩
    have hk14 : Keep NoB w1 w4 := hk1.grown hg4 (fun g e hl => by cases e; have := HRW.out.2.1; omega)
    have HC := Lib.hid (comesBack_any A1 _ Bf cf (nB l) c1 y (stepsG l) w4 (HST.out w4 hk14) hyn (by have := nB_le (l := l); omega) nB_steps nB_len)
    have hyL : y ∉ d := fun h => by have := ((hmem y).1 h).2; rw [hlx] at this; cases this
    have hd2 : (d ++ [y]).Nodup := List.nodup_append.2 ⟨hd, by simp, fun a ha c hc => by rw [List.mem_singleton] at hc; subst hc; exact fun e => hyL (e ▸ ha)⟩
    have hmem2 : ∀ z : Nat, z ∈ d ++ [y] ↔ (lookN met (z : Int)).isSome = true ∧ (left (z : Int) && !decide ((z : Int) = (y : Int))) = false := fun z => by
     rw [List.mem_append, List.mem_singleton, hmem]
     by_cases hzy : z = y
     ·subst hzy; simp [hgx]
     ·have hne : (z : Int) ≠ (y : Int) := by omega
      simp [hzy, hne]
    by_cases hin : y ∈ loopL l
    ·have HCi := Lib.hid ((HLP.out y hyr).1 hin)
     go_wp2_with fail
     refine HC.out.mono ?_
     rintro e w9 ⟨rb, rfl, hrb, k9⟩
     obtain rfl : rb = true := hrb.2 HCi.out
     have hO9 := hO4.keepN k9
     have hR9 := hR4.keep k9 id id
     have hk19 := keepN hk14 k9
     obtain ⟨v', W', hap, hO', hg', hk'⟩ := push_any hO9 hk19 (y : Int) (by omega)
     have hnb := own_map_ne hO9 hR9.omap
     have hnr3 := own_iter_ne hO9 hR9
     have hR5 := (hR9.keep ((Keep.refl NoB _).alloc (.cells #[.int .i64 (y : Int)] 3)) id id).grown hg' (Ne.symm hnb) (Ne.symm hnr3)
     have HN : Hid (L ++ [y] = (d ++ [y]).filter (fun y => decide (y ∈ loopL l)) ∧ (d ++ [y]).Nodup ∧ (∀ z : Nat, z ∈ d ++ [y] ↔ (lookN met (z : Int)).isSome = true ∧ (left (z : Int) && !decide ((z : Int) = (y : Int))) = false)) :=
      ⟨by rw [filter_next, if_pos (decide_eq_true hin), hLd], hd2, hmem2⟩
     have HM : Hid (Own W' 3 1 (Fresh w1) v' (L ++ [y]).length (ivs (nz (L ++ [y]))) ∧ ORng Tryz.prog 3 3 b r met.length (lookN met) (fun z => left z && !decide (z = (y : Int))) cnt4 W' ∧ Keep NoB w1 W') :=
      ⟨by rw [List.length_append, List.length_singleton]; simpa [nz] using hO', hR5, hk'⟩
     have hleq4 := hR5.left_eq
     clear hs4 hO hR hmem hd HI HL hO4 hO' hg' hk' hnb hnr3 hR5 hR4 hR9 hO9 hk19 k9 hnr hg4 hyL hgx hlx hd2 hmem2 hk14 hLd HP hdl hk1
     go_wp2_with (at_builtin; refine wpList_append_run _ rfl _ _ 23 rfl _ _ v' W' rfl rfl hap ?_)
     go_roundw
     case rel => exact ⟨L ++ [y], d ++ [y], _, cnt4, HN, HM⟩
     case measure => rw [hleq4, hleq]; exact hlt
    ·have HCi := Lib.hid (fun h => hin ((HLP.out y hyr).2 h))
     have HN : Hid (L = (d ++ [y]).filter (fun y => decide (y ∈ loopL l)) ∧ (d ++ [y]).Nodup ∧ (∀ z : Nat, z ∈ d ++ [y] ↔ (lookN met (z : Int)).isSome = true ∧ (left (z : Int) && !decide ((z : Int) = (y : Int))) = false)) :=
      ⟨by rw [filter_next, if_neg (by rw [decide_eq_true_iff]; exact hin), List.append_nil, hLd], hd2, hmem2⟩
     go_wp2_with fail
     refine HC.out.mono ?_
     rintro e w9 ⟨rb, rfl, hrb, k9⟩
     obtain rfl : rb = false := by
      cases rb with
      | false => rfl
      | true => exact absurd (hrb.1 rfl) HCi.out
     have hO9 := hO4.keepN k9
     have hR9 := hR4.keep k9 id id
     have hk19 := keepN hk14 k9
     have HM : Hid (Own w9 3 1 (Fresh w1) u4 L.length (ivs (nz L)) ∧ ORng Tryz.prog 3 3 b r met.length (lookN met) (fun z => left z && !decide (z = (y : Int))) cnt4 w9 ∧ Keep NoB w1 w9) := ⟨hO9, hR9, hk19⟩
     have hleq4 := hR9.left_eq
     clear hs4 hO hR hmem hd HI HL hO4 hR4 hR9 hO9 hk19 k9 hnr hg4 hyL hgx hlx hd2 hmem2 hk14 hLd HP hdl hk1
     go_wp2
     go_roundw
     case rel => exact ⟨L, d ++ [y], _, cnt4, HN, HM⟩
     case measure => rw [hleq4, hleq]; exact hlt
end Go.Proofs.YtghdibbooegocaaGreatDoor.G

namespace Go.Proofs.YtghdibbooegocaaGreatDoor.G
open Go.RowKit W

def fc (c : Nat → Nat) : Int → Option Nat := fun h => if 0 ≤ h ∧ 0 < c h.toNat then some (c h.toNat) else none
theorem fc_get (c : Nat → Nat) (y : Nat) : (fc c (y : Int)).getD 0 = c y := by
 unfold fc
 by_cases h : 0 < c y
 ·rw [if_pos ⟨by omega, by simpa using h⟩]; simp
 ·rw [if_neg (fun g => h (by simpa using g.2))]
  show 0 = c y
  omega
theorem fc_some (c : Nat → Nat) (h : Int) : (fc c h).isSome = true ↔ ∃ y : Nat, (y : Int) = h ∧ 0 < c y := by
 unfold fc
 by_cases g : 0 ≤ h ∧ 0 < c h.toNat
 ·rw [if_pos g]
  exact ⟨fun _ => ⟨h.toNat, by omega, g.2⟩, fun _ => rfl⟩
 ·rw [if_neg g]
  refine ⟨(fun h => by cases h), fun ⟨y, e, hy⟩ => absurd ⟨by omega, ?_⟩ g⟩
  rw [show h.toNat = y by omega]; exact hy
def upC (c : Nat → Nat) (y : Nat) : Nat → Nat := fun z => if z = y then c z + 1 else c z
theorem fc_neg {c : Nat → Nat} {h : Int} (h0 : ¬ 0 ≤ h) : fc c h = none := if_neg fun g => h0 g.1
theorem fc_put (c : Nat → Nat) (y : Nat) (h : Int) : fc (upC c y) h = putO (fc c) (y : Int) (c y + 1) h := by
 by_cases e : h = (y : Int)
 ·subst e
  unfold fc putO upC
  rw [if_pos rfl]
  simp
 ·have e2 : putO (fc c) (y : Int) (c y + 1) h = fc c h := if_neg e
  rw [e2]
  by_cases h0 : 0 ≤ h
  ·have : h.toNat ≠ y := by omega
   unfold fc upC
   simp [this]
  ·rw [fc_neg h0, fc_neg h0]
def flN (s : Nat → List Nat) (T : List Nat) (y : Nat) : Nat := (if y = 0 then 1 else 0) + (T.filter fun p => decide (y ∈ s p)).length
theorem flN_next (s : Nat → List Nat) (T : List Nat) (p y : Nat) : flN s (T ++ [p]) y = flN s T y + if y ∈ s p then 1 else 0 := by
 unfold flN
 rw [List.filter_append, List.length_append]
 by_cases h : y ∈ s p <;> simp [h] <;> omega
theorem flN_le (s : Nat → List Nat) (T : List Nat) (y : Nat) : flN s T y ≤ T.length + 1 := by
 unfold flN
 have := List.length_filter_le (fun p => decide (y ∈ s p)) T
 split <;> omega
def flJ (s : Nat → List Nat) (T : List Nat) (p j y : Nat) : Nat := flN s T y + if y ∈ (s p).take j then 1 else 0
theorem flJ_zero (s : Nat → List Nat) (T : List Nat) (p : Nat) : flJ s T p 0 = flN s T := by funext y; unfold flJ; simp
theorem flJ_all (s : Nat → List Nat) (T : List Nat) (p : Nat) : flJ s T p (s p).length = flN s (T ++ [p]) := by funext y; unfold flJ; rw [List.take_length, flN_next]
theorem flJ_next (s : Nat → List Nat) (T : List Nat) (p j : Nat) (hj : j < (s p).length) (hr : (s p).Pairwise (· < ·)) : flJ s T p (j + 1) = upC (flJ s T p j) (s p)[j] := by
 funext y
 unfold flJ upC
 rw [List.take_succ_eq_append_getElem hj]
 by_cases e : y = (s p)[j]
 ·have hn : y ∉ (s p).take j := fun h => by
   obtain ⟨i, hi, he⟩ := List.getElem_of_mem h
   rw [List.getElem_take] at he
   have hij : i < j := by rw [List.length_take] at hi; omega
   have := List.pairwise_iff_getElem.1 hr i j (by omega) hj hij
   omega
  have h1 : y ∈ (s p).take j ++ [(s p)[j]] := List.mem_append_right _ (by rw [e]; exact List.mem_singleton_self _)
  rw [if_pos e]
  show _ + _ = _ + _ + 1
  rw [if_pos h1, if_neg hn]
 ·rw [if_neg e]
  have : y ∈ (s p).take j ++ [(s p)[j]] ↔ y ∈ (s p).take j := by rw [List.mem_append, List.mem_singleton]; exact ⟨fun h => h.elim id fun h => absurd h e, .inl⟩
  simp only [this]
theorem flJ_le (s : Nat → List Nat) (T : List Nat) (p j y : Nat) : flJ s T p j y ≤ T.length + 2 := by
 unfold flJ
 have := flN_le s T y
 split <;> omega
def gD (C : Nat → Nat) (left : Int → Bool) (h : Int) : Option Nat := if left h = false then (if 2 ≤ (fc C h).getD 0 then fc C h else none) else fc C h
theorem gD_same {C : Nat → Nat} {left left' : Int → Bool} {h : Int} (e : left h = left' h) : gD C left h = gD C left' h := by unfold gD; rw [e]
theorem flN_reach {l : List C.I3} {d : List Nat} (hd : d.Nodup) (hmem : ∀ y, y ∈ d ↔ y ∈ reachL l) (y : Nat) : flN (stepsG l) d y = (if y = 0 then 1 else 0) + (aheadL l y).length := by
 unfold flN
 congr 1
 have h1 : (d.filter fun p => decide (y ∈ stepsG l p)).Nodup := hd.filter _
 have h2 : (aheadL l y).Nodup := by
  unfold aheadL
  exact ((rise_filter (b := l)).imp (fun h => Nat.ne_of_lt h)).filter _
 refine (List.perm_ext_iff_of_nodup h1 h2 |>.2 fun p => ?_).length_eq
 rw [List.mem_filter, decide_eq_true_iff, hmem, ahead_mem]
theorem meet_count {l : List C.I3} (y : Nat) : 2 ≤ (if y = 0 then 1 else 0) + (aheadL l y).length ↔ y ∈ meetL l := by
 rw [meet_mem]
 have hre : 0 < (aheadL l y).length → y ∈ reachL l := fun h => by
  obtain ⟨p, hp⟩ := List.exists_mem_of_length_pos h
  obtain ⟨h1, h2⟩ := ahead_mem.1 hp
  have ho : C.okB l = true := nB_pos (l := l) (by have := reach_nB h1; omega)
  exact reach_next ho h1 h2
 by_cases h0 : y = 0
 ·rw [if_pos h0]
  exact ⟨fun h => ⟨hre (by omega), by omega⟩, fun h => by omega⟩
 ·rw [if_neg h0]
  exact ⟨fun h => ⟨hre (by omega), .inl (by omega)⟩, fun h => by omega⟩

set_option maxRecDepth 100000 in
set_option maxHeartbeats 8000000 in
theorem fMeets_any (A : Option Addr) (l : List C.I3) (n c : Nat) (w : World) (hr : Rd w A (C.iis l)) (hn : Hid (l.length = n)) (hm : n ≤ 9223372036854775807) :
  Calls Tryz.prog 19 #[.slice A n c] w (OwnR w (meetL l)) := by
 have HS := Lib.hid (stepsOf_any A l n c w hr hn hm)
 have hmm := @run_makeMap Tryz.prog
 clear hr hn
 go_enter Tryz.func19, Tryz.ntmps19
 go_wp2_with fail
 refine HS.out.mono ?_
 rintro e w1 hS
 obtain ⟨k1, A1, Bf, cf, c1, rfl, hst⟩ := hS.one
 obtain ⟨w2, hins, hM1, hg2⟩ := (OMap.new Tryz.prog 3 3 w1).update (t := 51) Tryz.underlying51 Tryz.underlying3 Tryz.underlying3 (by decide) 0 1 (by decide) (by decide)
 have hins : (Instr.mapUpdate 51 (.map (some w1.heap.size)) (.int .i64 0) (.int .i64 1)).run Tryz.prog (w1.alloc (.map #[] 0)) = .ok () w2 := hins
 have k12 : Keep NoB w1 w2 := ((Keep.refl NoB w1).alloc _).grown hg2 (fun g e hl => by cases e; exact absurd hl (Nat.lt_irrefl _))
 have hM2 : OMap Tryz.prog 3 3 w1.heap.size 1 (fc (flN (stepsG l) [])) w2 := hM1.congr fun h => by
  unfold fc flN putO
  by_cases e : h = 0
  ·subst e; simp
  ·rw [if_neg e]
   by_cases h0 : 0 ≤ h
   ·have : h.toNat ≠ 0 := by omega
    simp [this]
   ·rw [if_neg (fun g => h0 g.1)]
 have HR := Lib.hid (reached_any A1 _ Bf cf (nB l) c1 (stepsG l) w2 (hst.keepN k12) (by have := nB_le (l := l); omega) nB_steps nB_len)
 have HST := Lib.hid (fun W (hk : Keep NoB w1 W) => hst.keepN hk)
 obtain ⟨bm, hbm⟩ : ∃ bm, w1.heap.size = bm := ⟨_, rfl⟩
 rw [hbm] at hM2 hins
 clear HS hS hst hM1 hg2
 go_wp2_with fail
 refine HR.out.mono ?_
 rintro e w3 ⟨met, b, rfl, hM, hb, k3, hall⟩
 have HA := Lib.hid hall
 obtain ⟨w4, cnt, hrun, hR, hg4, hs4⟩ := hM.omap.range (t := 51) Tryz.underlying51 Tryz.underlying3
 obtain ⟨r, hr⟩ : ∃ r, w3.heap.size = r := ⟨_, rfl⟩
 rw [hr] at hrun hR
 have hk14 : Keep NoB w1 w4 := (keepN k12 k3).grown hg4 (fun g e _ => by cases e)
 have hb2 := hM2.lt
 have HRW : Hid (w1.heap.size ≤ r ∧ w1.heap.size ≤ b ∧ w1.heap.size ≤ bm ∧ bm ≠ b ∧ bm ≠ r) := ⟨by rw [← hr]; exact (keepN k12 k3).size, Nat.le_trans k12.size hb, by omega, by omega, by have := k3.size; omega⟩
 have HI : Hid (OMap Tryz.prog 3 3 bm 1 (fc (flN (stepsG l) [])) w4 ∧ ORng Tryz.prog 3 3 b r met.length (lookN met) (fun h => (lookN met h).isSome) cnt w4 ∧ (∀ y : Nat, y ∈ ([] : List Nat) ↔ (lookN met (y : Int)).isSome = true ∧ (lookN met (y : Int)).isSome = false) ∧ Keep NoB w1 w4) := by
  refine ⟨(hM2.keep k3 id).grown hg4 (by simp), hR, fun y => ⟨(fun h => by cases h), fun ⟨h1, h2⟩ => ?_⟩, hk14⟩
  rw [h1] at h2; cases h2
 have HK1 := Lib.hid k1
 clear hM hall hb hR hg4 hs4 k1 k12 k3 hk14 hM2 HR hr hb2 hins hmm
 go_wp2
 try rw [hrun]
 go_wp2
 clear hrun
 have HBM := Lib.hid hbm
 clear hbm
 go_loopw [] (fun wr => ∃ (d : List Nat) (left : Int → Bool) (cnt N : Nat), Hid (d.Nodup ∧ (∀ y : Nat, y ∈ d ↔ (lookN met (y : Int)).isSome = true ∧ left (y : Int) = false)) ∧ Hid (N ≤ 1 + 2 * d.length ∧ OMap Tryz.prog 3 3 bm N (fc (flN (stepsG l) d)) wr ∧ ORng Tryz.prog 3 3 b r met.length (lookN met) left cnt wr ∧ Keep NoB w1 wr)) (fun wr => wr.rangeLeft b r)
 case atStart => exact ⟨[], _, cnt, 1, ⟨List.nodup_nil, HI.out.2.2.1⟩, Nat.le_refl _, HI.out.1, HI.out.2.1, HI.out.2.2.2⟩
 case round =>
  obtain ⟨d, left, cnt, N, HP, HL⟩ := hrel
  obtain ⟨hN, hMf, hR, hk1⟩ := HL.out
  obtain ⟨hd, hmem⟩ := HP.out
  have hdl : d.length ≤ 512 := Nat.le_trans (nodup_len (nB l) d hd fun x hx => reach_nB ((look_reachN HA.out x).1 ((hmem x).1 hx).1)) nB_le
  have hleq := hR.left_eq
  rcases hR.next Tryz.underlying3 Tryz.underlying3 0 with ⟨_, hl, hrun⟩ | ⟨x, v, w5, cnt5, _, _, hlx, hgx, hrun, hR5, hlt, hg5, hs5, hen⟩
  ·have HC : Hid (∀ y, flN (stepsG l) d y = (if y = 0 then 1 else 0) + (aheadL l y).length) := fun y => flN_reach hd (fun z => by
    rw [hmem, hl, look_reachN HA.out]
    exact ⟨fun h => h.1, fun h => ⟨h, rfl⟩⟩) y
   have hCb : Hid (∀ y, flN (stepsG l) d y ≤ 1001) := fun y => by have := flN_le (stepsG l) d y; omega
   generalize flN (stepsG l) d = C at hMf HC hCb
   obtain ⟨w6, cnt6, hrun6, hR6, hg6, hs6⟩ := hMf.range (t := 51) Tryz.underlying51 Tryz.underlying3
   obtain ⟨r2, hr2⟩ : ∃ r2, wr.heap.size = r2 := ⟨_, rfl⟩
   rw [hr2] at hrun6 hR6
   have HR2 : Hid (w1.heap.size ≤ r2) := by show _ ≤ _; rw [← hr2]; exact hk1.size
   have HI2 : Hid (ORng Tryz.prog 3 3 bm r2 N (gD C (fun h => (fc C h).isSome)) (fun h => (fc C h).isSome) cnt6 w6 ∧ Keep NoB w1 w6) := by
    refine ⟨?_, hk1.grown hg6 (fun g e _ => by cases e)⟩
    have hgg : ∀ h, gD C (fun h => (fc C h).isSome) h = fc C h := fun h => by
     by_cases hs : (fc C h).isSome = true
     ·exact if_neg (by show ¬ (fc C h).isSome = false; rw [hs]; decide)
     ·have h1 : fc C h = none := by simpa using hs
      unfold gD
      rw [h1]
      simp
    obtain ⟨D, lf, a1, a2, a3, a4⟩ := hR6
    exact ⟨D, lf, a1, a2, fun x => by rw [hgg]; exact a3 x, a4⟩
   have hNN : N ≤ 2000 := by omega
   clear hMf hR hk1 hd hmem hl HL HP hleq HI hN hdl hR6 hg6 hs6 hr2
   go_wp2
   try rw [hrun6]
   go_wp2
   clear hrun6 hrun
   go_loopw [] (fun wr2 => ∃ (left2 : Int → Bool) (cnt2 : Nat), Hid (ORng Tryz.prog 3 3 bm r2 N (gD C left2) left2 cnt2 wr2 ∧ (∀ h, left2 h = true → (fc C h).isSome = true) ∧ Keep NoB w1 wr2)) (fun wr2 => wr2.rangeLeft bm r2)
   case atStart => exact ⟨_, cnt6, HI2.out.1, fun h hh => hh, HI2.out.2⟩
   case round =>
    obtain ⟨left2, cnt2, HL2⟩ := hrel
    obtain ⟨hR2, hlf, hk2⟩ := HL2.out
    have hleq2 := hR2.left_eq
    rcases hR2.next Tryz.underlying3 Tryz.underlying3 0 with ⟨_, hl2, hrun2⟩ | ⟨x2, v2, w7, cnt7, hwx, hwv, hlx2, hgx2, hrun2, hR7, hlt7, hg7, hs7, hen7⟩
    ·have HG := Lib.hid (rising_any bm N (gD C left2) (meetL l) wr hR2.omap hNN (by unfold meetL; exact List.Pairwise.filter _ rise_filter) (fun y => by
      unfold gD
      rw [if_pos (hl2 y)]
      constructor
      ·intro h
       by_cases h2 : 2 ≤ (fc C y).getD 0
       ·rw [if_pos h2] at h
        obtain ⟨z, rfl, _⟩ := (fc_some C y).1 h
        rw [fc_get, HC.out] at h2
        exact ⟨z, (meet_count z).1 h2, rfl⟩
       ·rw [if_neg h2] at h; cases h
      ·rintro ⟨z, hz, rfl⟩
       have h2 := (meet_count z).2 hz
       rw [if_pos (by rw [fc_get, HC.out]; exact h2)]
       exact (fc_some C z).2 ⟨z, rfl, by rw [HC.out]; omega⟩) (fun x hx => reach_b (meet_mem.1 hx).1))
     have HK2 := Lib.hid hk2
     clear hR2 hlf hk2 HL2 hleq2 hl2 HI2
     go_wp2_with fail
     refine HG.out.mono ?_
     rintro e w8 ⟨B, c3, rfl, hO, k8⟩
     have HF := Lib.hid (And.intro hO k8)
     clear HG hO k8 hrun2
     go_wp2
     go_ret
     have hks := keepN HK1.out HK2.out
     exact ⟨B, c3, rfl, ⟨HF.out.1.1, fun g e => Nat.le_trans hks.size (HF.out.1.2 g e)⟩, keepN hks HF.out.2⟩
    ·have hgf : gD C left2 x2 = fc C x2 := if_neg (by rw [hlx2]; decide)
     rw [hgf] at hgx2
     have hv2 : v2 = (fc C x2).getD 0 := by rw [hgx2]; rfl
     have hlf2 : ∀ h, (left2 h && !decide (h = x2)) = true → (fc C h).isSome = true := fun h hh => hlf h (by
      rw [Bool.and_eq_true] at hh; exact hh.1)
     by_cases hlt2 : v2 < 2
     ·obtain ⟨w8, cnt8, hdel, hR8, hle8, hg8⟩ := hR7.drop (t := 51) Tryz.underlying51 Tryz.underlying3 x2 hwx 0
      have hR9 : ORng Tryz.prog 3 3 bm r2 N (gD C (fun y => (left2 y && !decide (y = x2)) && !decide (y = x2))) (fun y => (left2 y && !decide (y = x2)) && !decide (y = x2)) cnt8 w8 := by
       have hgg : ∀ h, gD C (fun y => (left2 y && !decide (y = x2)) && !decide (y = x2)) h = delO (gD C left2) x2 h := fun h => by
        unfold delO
        by_cases e : h = x2
        ·subst e
         rw [if_pos rfl]
         unfold gD
         rw [if_pos (by simp), if_neg (by rw [← hv2]; omega)]
        ·rw [if_neg e]
         exact gD_same (by simp [e])
       obtain ⟨D, lf, a1, a2, a3, a4⟩ := hR8
       exact ⟨D, lf, a1, a2, fun x => by rw [hgg]; exact a3 x, a4⟩
      have HN : Hid (ORng Tryz.prog 3 3 bm r2 N (gD C (fun y => (left2 y && !decide (y = x2)) && !decide (y = x2))) (fun y => (left2 y && !decide (y = x2)) && !decide (y = x2)) cnt8 w8 ∧ (∀ h, ((left2 h && !decide (h = x2)) && !decide (h = x2)) = true → (fc C h).isSome = true) ∧ Keep NoB w1 w8) :=
       ⟨hR9, fun h hh => hlf2 h (by rw [Bool.and_eq_true] at hh; exact hh.1), (hk2.grown hg7 (fun g e hl => by cases e; have := HR2.out; omega)).grown hg8 (fun g e hl => by cases e; have := HRW.out.2.2.1; omega)⟩
      have hleq8 := hR9.left_eq
      have q1 : (v2 : Int) < 2 := by omega
      clear hs7 hR2 hlf hk2 HL2 HI2 hgf hgx2 hv2 hlf2 hR7 hg7 hR8 hg8 hR9 hlx2 hlt2
      go_wp2
      go_roundw
      case rel => exact ⟨_, cnt8, HN⟩
      case measure => rw [hleq8, hleq2]; omega
     ·have hR9 : ORng Tryz.prog 3 3 bm r2 N (gD C (fun y => (left2 y && !decide (y = x2)))) (fun y => (left2 y && !decide (y = x2))) cnt7 w7 := by
       have hgg : ∀ h, gD C (fun y => (left2 y && !decide (y = x2))) h = gD C left2 h := fun h => by
        by_cases e : h = x2
        ·subst e
         rw [hgf]
         unfold gD
         rw [if_pos (by simp), if_pos (by rw [← hv2]; omega)]
        ·exact gD_same (by simp [e])
       obtain ⟨D, lf, a1, a2, a3, a4⟩ := hR7
       exact ⟨D, lf, a1, a2, fun x => by rw [hgg]; exact a3 x, a4⟩
      have HN : Hid (ORng Tryz.prog 3 3 bm r2 N (gD C (fun y => (left2 y && !decide (y = x2)))) (fun y => (left2 y && !decide (y = x2))) cnt7 w7 ∧ (∀ h, (left2 h && !decide (h = x2)) = true → (fc C h).isSome = true) ∧ Keep NoB w1 w7) :=
       ⟨hR9, hlf2, hk2.grown hg7 (fun g e hl => by cases e; have := HR2.out; omega)⟩
      have hleq8 := hR9.left_eq
      have q1 : ¬ (v2 : Int) < 2 := by omega
      clear hs7 hR2 hlf hk2 HL2 HI2 hgf hgx2 hv2 hlf2 hR7 hg7 hR9 hlx2 hlt2
      go_wp2
      go_roundw
      case rel => exact ⟨_, cnt7, HN⟩
      case measure => rw [hleq8, hleq2]; omega
  ·have hxr := (look_reach HA.out x).1 (by rw [hgx]; rfl)
   obtain ⟨y, hyr, rfl⟩ := hxr
   have hyn := reach_nB hyr
   have hyb := reach_b hyr
   have hk15 : Keep NoB w1 w5 := hk1.grown hg5 (fun g e hl => by cases e; have := HRW.out.1; omega)
   have hMf5 := hMf.grown hg5 (by intro e; injection e with e; exact HRW.out.2.2.2.2 e)
   obtain ⟨gs, rfl, _, cq, _, _⟩ := HST.out w5 hk15 y hyn
   have HRd : Hid (∀ Y, Keep NoB w1 Y → Rd Y (Bf y) (ivs (nz (stepsG l y)))) := fun Y hk => by
    obtain ⟨_, _, _, _, h4, _⟩ := HST.out Y hk y hyn
    exact h4
   have hyL : y ∉ d := fun h => by have := ((hmem y).1 h).2; rw [hlx] at this; cases this
   have HP2 : Hid ((d ++ [y]).Nodup ∧ ∀ z : Nat, z ∈ d ++ [y] ↔ (lookN met (z : Int)).isSome = true ∧ (left (z : Int) && !decide ((z : Int) = (y : Int))) = false) := by
    refine ⟨List.nodup_append.2 ⟨hd, by simp, fun a ha c hc => by rw [List.mem_singleton] at hc; subst hc; exact fun e => hyL (e ▸ ha)⟩, fun z => ?_⟩
    rw [List.mem_append, List.mem_singleton, hmem]
    by_cases hzy : z = y
    ·subst hzy; simp [hgx]
    ·have hne : (z : Int) ≠ (y : Int) := by omega
     simp [hzy, hne]
   have hln : (stepsG l y).length ≤ 2 := nB_len y hyn
   generalize Bf y = By at cq HRd
   generalize cf y = cy at cq
   obtain ⟨ln, hlne⟩ : ∃ ln, (stepsG l y).length = ln := ⟨_, rfl⟩
   rw [hlne] at cq hln
   have HI5 : Hid (N ≤ 1 + 2 * d.length + 0 ∧ OMap Tryz.prog 3 3 bm N (fc (flJ (stepsG l) d y 0)) w5 ∧ ORng Tryz.prog 3 3 b r met.length (lookN met) (fun z => left z && !decide (z = (y : Int))) cnt5 w5 ∧ Keep NoB w1 w5) := ⟨by omega, by rw [flJ_zero]; exact hMf5, hR5, hk15⟩
   clear hs5 hMf hR hk1 hd hmem HL HP HI hR5 hg5 hk15 hMf5 hyL hgx hlx hN
   go_wp2
   clear cq hrun hen
   go_loopw [26] (fun i wr2 => ∃ (j N2 : Nat), j ≤ ln ∧ i = .int .i64 (j : Int) ∧ Hid (N2 ≤ 1 + 2 * d.length + j ∧ OMap Tryz.prog 3 3 bm N2 (fc (flJ (stepsG l) d y j)) wr2 ∧ ORng Tryz.prog 3 3 b r met.length (lookN met) (fun z => left z && !decide (z = (y : Int))) cnt5 wr2 ∧ Keep NoB w1 wr2)) (fun i _ => ln - (intOf i).toNat)
   case atStart => exact ⟨0, N, Nat.zero_le _, rfl, HI5⟩
   case round =>
    obtain ⟨j, N2, hj, rfl, HI6⟩ := hrel
    obtain ⟨hN2, hMf, hR, hk1⟩ := HI6.out
    by_cases hlt' : j < ln
    ·have hjl : j < (stepsG l y).length := by rw [hlne]; exact hlt'
     obtain ⟨gb, ob, rfl, hcb⟩ := rd_steps (HRd.out wr hk1) (by omega)
     have hz := List.getElem?_eq_getElem hjl
     have cz := hcb j _ hz
     have hzn := nB_steps y _ hyn (List.getElem_mem hjl)
     have hnb := nB_le (l := l)
     have hsn := flJ_next (stepsG l) d y j hjl (steps_rise y)
     generalize (stepsG l y)[j] = z at cz hzn hsn
     have hlk := hMf.look (t := 51) Tryz.underlying51 Tryz.underlying3 Tryz.underlying3 (int_zeroG _) (z : Int) (wfN (by omega))
     rw [fc_get] at hlk
     have hvb := flJ_le (stepsG l) d y j z
     obtain ⟨w8, hup, hM8, hg8⟩ := hMf.update (t := 51) Tryz.underlying51 Tryz.underlying3 Tryz.underlying3 (by unfold maxLen; omega) (z : Int) (flJ (stepsG l) d y j z + 1) (wfN (by omega)) (wfN (by omega))
     rw [show ((flJ (stepsG l) d y j z + 1 : Nat) : Int) = (flJ (stepsG l) d y j z : Int) + 1 by omega] at hup
     have HN : Hid (N2 + 1 ≤ 1 + 2 * d.length + (j + 1) ∧ OMap Tryz.prog 3 3 bm (N2 + 1) (fc (flJ (stepsG l) d y (j + 1))) w8 ∧ ORng Tryz.prog 3 3 b r met.length (lookN met) (fun z => left z && !decide (z = (y : Int))) cnt5 w8 ∧ Keep NoB w1 w8) := by
      refine ⟨by omega, ?_, hR.grown hg8 (by intro e; injection e with e; exact HRW.out.2.2.2.1 e.symm) (by intro e; injection e with e; exact HRW.out.2.2.2.2 e.symm), hk1.grown hg8 (fun g e hl => by cases e; have := HRW.out.2.2.1; omega)⟩
      rw [hsn]
      exact hM8.congr fun h => fc_put _ z h
     generalize flJ (stepsG l) d y j z = vz at hlk hup hvb
     have q1 : (vz : Int) ≤ 5000 := by omega
     clear hMf hR hk1 HI6 hz hcb hsn hM8 hg8 HI5
     go_wp2
     go_roundw
     case rel => exact ⟨j + 1, N2 + 1, by omega, by go_num, HN⟩
     case measure => simp [intOf]; omega
    ·obtain rfl : j = ln := by omega
     have HN : Hid (N2 ≤ 1 + 2 * (d ++ [y]).length ∧ OMap Tryz.prog 3 3 bm N2 (fc (flN (stepsG l) (d ++ [y]))) wr ∧ ORng Tryz.prog 3 3 b r met.length (lookN met) (fun z => left z && !decide (z = (y : Int))) cnt5 wr ∧ Keep NoB w1 wr) := by
      refine ⟨by rw [List.length_append, List.length_singleton]; omega, ?_, hR, hk1⟩
      rw [← flJ_all, hlne]; exact hMf
     have hleq5 := hR.left_eq
     clear hMf hR hk1 HI6 HI5
     go_wp2
     go_roundw
     case rel => exact ⟨d ++ [y], _, cnt5, N2, HP2, HN⟩
     case measure => rw [hleq5, hleq]; exact hlt
end Go.Proofs.YtghdibbooegocaaGreatDoor.G

namespace Go.Proofs.YtghdibbooegocaaGreatDoor.G
open Go.RowKit W

section
variable {l : List C.I3}
theorem way_none {a0 : Int} (h : ¬ ∃ a : Nat, (a : Int) = a0 ∧ nB l ≠ 0 ∧ ∃ t, Way (stepsG l) [0] a t) : atN l a0 = none := by
 cases hat : atN l a0 with
 | none => rfl
 | some a =>
  obtain ⟨rfl, ha⟩ := atN_some hat
  have h0 : nB l ≠ 0 := by have := reach_nB ha; omega
  exact absurd ⟨a, rfl, h0, (reach_iff (nB_pos h0)).1 ha⟩ h
theorem way_reach {a : Nat} {t : List Nat} (h0 : nB l ≠ 0) (hw : Way (stepsG l) [0] a t) : a ∈ reachL l := (reach_iff (nB_pos h0)).2 ⟨t, hw⟩
theorem way_ok {a : Nat} {t : List Nat} (h0 : nB l ≠ 0) (hw : Way (stepsG l) [0] a t) : ∀ y ∈ t, OkN l.length (-1) y := fun y hy => ⟨way_lt (nB_pos h0) (zero_src (nB_pos h0)) hw y hy, by omega⟩
theorem way_dist {a : Nat} {t : List Nat} (h0 : nB l ≠ 0) (hw : Way (stepsG l) [0] a t) (hm : ∀ u, Way (stepsG l) [0] a u → t.length ≤ u.length) : distL l a = ((t.length - 1 : Nat) : Int) := by
 have hp := hw.pos
 have hal := reach_lt (nB_pos h0) (way_reach h0 hw)
 rw [dist_iff (nB_pos h0) hal]
 exact ⟨⟨t, hw, by omega, way_ok h0 hw⟩, fun u hu _ => by have := hm u hu; omega⟩
theorem way_nodup {a : Nat} {t : List Nat} (hw : Way (stepsG l) [0] a t) (hm : ∀ u, Way (stepsG l) [0] a u → t.length ≤ u.length) : t.Nodup :=
 dist_nodup (ok := fun _ => True) t hw (fun _ _ => trivial) fun u hu _ => hm u hu
end

set_option maxRecDepth 100000 in
set_option maxHeartbeats 4000000 in
theorem fDistance_any (A : Option Addr) (l : List C.I3) (n c : Nat) (a0 : Int) (w : World) (hr : Rd w A (C.iis l)) (hn : Hid (l.length = n)) (hm : n ≤ 9223372036854775807) (ha0 : (Lit.int .i64 a0).wf = true) :
  Calls Tryz.prog 12 #[.slice A n c, .int .i64 a0] w fun e w' => e = .returned (.tuple #[.int .i64 (distI l a0), .int .i64 (errI l a0)]) ∧ Keep NoB w w' := by
 have HS := Lib.hid (stepsOf_any A l n c w hr hn hm)
 clear hr hn
 go_enter Tryz.func12, Tryz.ntmps12
 go_wp2_with fail
 refine HS.out.mono ?_
 rintro e w1 hS
 obtain ⟨k1, A1, Bf, cf, c1, rfl, hst⟩ := hS.one
 have HW := Lib.hid (way_any A1 _ Bf cf (nB l) c1 (stepsG l) a0 w1 hst ha0 (by have := nB_le (l := l); omega) nB_steps nB_len)
 clear HS hS hst
 go_wp2_with fail
 refine HW.out.mono ?_
 rintro e w2 ⟨k2, ⟨hno, rfl⟩ | ⟨a, wl, B, cB, rfl, h0, rfl, hrd, hw, hmin⟩⟩
 ·have hat := way_none hno
  have HE : Hid (distI l a0 = 0 ∧ errI l a0 = 110) := ⟨by unfold distI; rw [hat], by unfold errI; rw [hat]; rfl⟩
  have k12 := keepN k1 k2
  clear HW hno hat k1 k2
  go_wp2
  go_ret2
  rw [HE.out.1, HE.out.2]
  exact ⟨rfl, k12⟩
 ·have hat := atN_of (way_reach h0 hw)
  have hd := way_dist h0 hw (fun u hu => by rw [List.length_reverse]; exact hmin u hu)
  rw [List.length_reverse] at hd
  have hp := hw.pos
  rw [List.length_reverse] at hp
  have HE : Hid (distI l (a : Int) = ((wl.length - 1 : Nat) : Int) ∧ errI l (a : Int) = 0) := ⟨by unfold distI; rw [hat]; exact hd, by unfold errI; rw [hat]; rfl⟩
  have hwn : wl.length ≤ nB l := by
   have hnd := way_nodup hw (fun u hu => by rw [List.length_reverse]; exact hmin u hu)
   have := nodup_len (nB l) wl.reverse hnd fun x hx => by
    have := (way_ok h0 hw x hx).1
    rw [nB_ok (nB_pos h0)]; exact this
   rwa [List.length_reverse] at this
  have hnb := nB_le (l := l)
  have k12 := keepN k1 k2
  obtain ⟨ln, hln⟩ : ∃ ln, wl.length = ln := ⟨_, rfl⟩
  rw [hln] at HE hp hwn ⊢
  have q1 : ((ln : Int) == 0) = false := by rw [beq_eq_false_iff_ne]; omega
  clear HW hat hd hw hmin hrd hln k1 k2 h0
  go_wp2
  go_ret2
  rw [HE.out.1, HE.out.2]
  refine ⟨?_, k12⟩
  rw [show ((ln - 1 : Nat) : Int) = (ln : Int) - 1 by omega]
  try rfl

set_option maxRecDepth 100000 in
set_option maxHeartbeats 4000000 in
theorem fMust_any (A : Option Addr) (l : List C.I3) (n c : Nat) (a0 : Int) (w : World) (hr : Rd w A (C.iis l)) (hn : Hid (l.length = n)) (hm : n ≤ 9223372036854775807) (ha0 : (Lit.int .i64 a0).wf = true) :
  Calls Tryz.prog 14 #[.slice A n c, .int .i64 a0] w (TupR w (mustI l a0) (errI l a0)) := by
 have HS := Lib.hid (stepsOf_any A l n c w hr hn hm)
 clear hr hn
 go_enter Tryz.func14, Tryz.ntmps14
 go_wp2_with fail
 refine HS.out.mono ?_
 rintro e w1 hS
 obtain ⟨k1, A1, Bf, cf, c1, rfl, hst⟩ := hS.one
 have HW := Lib.hid (way_any A1 _ Bf cf (nB l) c1 (stepsG l) a0 w1 hst ha0 (by have := nB_le (l := l); omega) nB_steps nB_len)
 have HST := Lib.hid hst
 clear HS hS hst
 go_wp2_with fail
 refine HW.out.mono ?_
 rintro e w2 ⟨k2, ⟨hno, rfl⟩ | ⟨a, wl, B, cB, rfl, h0, rfl, hrd, hw, hmin⟩⟩
 ·have hat := way_none hno
  have HE : Hid (mustI l a0 = [] ∧ errI l a0 = 110) := ⟨by unfold mustI; rw [hat], by unfold errI; rw [hat]; rfl⟩
  have k12 := keepN k1 k2
  clear HW hno hat k1 k2 HST
  go_wp2
  go_ret2
  rw [HE.out.1, HE.out.2]
  exact ⟨none, 0, rfl, Rd.none_ _ _, k12⟩
 ·have har := way_reach h0 hw
  have hat := atN_of har
  have HE : Hid (mustI l (a : Int) = mustL l a ∧ errI l (a : Int) = 0) := ⟨by unfold mustI; rw [hat], by unfold errI; rw [hat]; rfl⟩
  have hnd := way_nodup hw (fun u hu => by rw [List.length_reverse]; exact hmin u hu)
  have hpath : Path (stepsG l) wl 0 a := by have := path_of hw hnd; rwa [List.reverse_reverse] at this
  have hwl : ∀ y ∈ wl, y < nB l := fun y hy => by
   have := (way_ok h0 hw y (List.mem_reverse.2 hy)).1
   rw [nB_ok (nB_pos h0)]; exact this
  have hwn : wl.length ≤ nB l := nodup_len (nB l) wl hpath.nodup hwl
  have hnb := nB_le (l := l)
  have hp := hpath.pos
  have hmu : ∀ y, decide (y ∈ mustL l a) = true ↔ Must (stepsG l) [0] a y := fun y => by rw [decide_eq_true_iff]; exact must_mem (nB_pos h0) har
  have HN := Lib.hid (narrows_any A1 _ Bf cf (nB l) c1 (stepsG l) B wl.length cB a wl (fun y => decide (y ∈ mustL l a)) w2 (HST.out.keepN k2) hrd rfl hpath hwl (by omega) nB_steps nB_len hmu)
  have HX : Hid (sortL (nz (wl.filter fun y => decide (y ∈ mustL l a))) = nz (mustL l a) ∧ (wl.filter fun y => decide (y ∈ mustL l a)).length = (mustL l a).length) := by
   have h1 := nz_sort (l := wl.filter fun y => decide (y ∈ mustL l a)) (t := mustL l a) (hpath.nodup.filter _) (by unfold mustL; exact List.Pairwise.filter _ rise_filter) fun y => by
    rw [List.mem_filter, decide_eq_true_iff]
    exact ⟨fun h => h.2, fun h => ⟨by have := (must_mem (nB_pos h0) har).1 h _ hw; exact List.mem_reverse.1 this, h⟩⟩
   refine ⟨h1, ?_⟩
   have := congrArg List.length h1
   rw [List.length_mergeSort, nz_len, nz_len] at this
   exact this
  have k12 := keepN k1 k2
  have hfl : (wl.filter fun y => decide (y ∈ mustL l a)).length ≤ wl.length := List.length_filter_le _ _
  obtain ⟨ln, hln⟩ : ∃ ln, wl.length = ln := ⟨_, rfl⟩
  rw [hln] at HN hp hwn hfl ⊢
  generalize (wl.filter fun y => decide (y ∈ mustL l a)) = F at HN HX hfl
  have q1 : ((ln : Int) == 0) = false := by rw [beq_eq_false_iff_ne]; omega
  clear HW hat hw hmin hrd hln k1 k2 h0 hnd hpath hwl hmu har HST
  go_wp2_with fail
  refine HN.out.mono ?_
  rintro e w3 ⟨v, rfl, hO, k3⟩
  have HSo := Lib.hid (sort_any (w := w2) (zs := nz F) (by rw [nz_len]; exact hO) k3 (by rw [nz_len]; omega))
  obtain ⟨B3, c3, rfl⟩ := own_form hO.1
  clear HN hO k3
  go_wp2_with fail
  refine HSo.out.mono ?_
  rintro e w5 ⟨rfl, hO5, k5⟩
  have HF := Lib.hid (And.intro hO5 (keepN k12 k5))
  clear hO5 k5 HSo
  go_wp2
  go_ret2
  obtain ⟨hO5, k5⟩ := HF.out
  rw [HX.out.1] at hO5
  rw [HE.out.1, HE.out.2]
  obtain ⟨A5, c5, he5, _, _, hrd, _⟩ := hO5.form
  injection he5 with e1 e2 e3
  subst e1
  exact ⟨B3, c3, by rw [← HX.out.2]; rfl, hrd, k5⟩
end Go.Proofs.YtghdibbooegocaaGreatDoor.G

namespace Go.Proofs.YtghdibbooegocaaGreatDoor.G
open Go.RowKit W

def inN (l : List C.I3) (a0 : Int) : Option Nat := if 0 ≤ a0 ∧ a0 < (l.length : Int) ∧ C.okB l = true then some a0.toNat else none
def behI (l : List C.I3) (a0 : Int) : List Nat := match inN l a0 with
 | some a => stepsG l a
 | none => []
def errB (l : List C.I3) (a0 : Int) : Int := if (inN l a0).isSome = true then 0 else 110
theorem inN_none {l : List C.I3} {a0 : Int} (h : ¬ (0 ≤ a0 ∧ a0 < (l.length : Int) ∧ C.okB l = true)) : behI l a0 = [] ∧ errB l a0 = 110 := by
 have : inN l a0 = none := if_neg h
 exact ⟨by unfold behI; rw [this], by unfold errB; rw [this]; rfl⟩
theorem inN_some {l : List C.I3} {a : Nat} (h : a < l.length) (ho : C.okB l = true) : behI l (a : Int) = stepsG l a ∧ errB l (a : Int) = 0 := by
 have : inN l (a : Int) = some a := by
  unfold inN
  rw [if_pos ⟨by omega, by omega, ho⟩]
  simp
 exact ⟨by unfold behI; rw [this], by unfold errB; rw [this]; rfl⟩

set_option maxRecDepth 100000 in
set_option maxHeartbeats 4000000 in
theorem fBehind_any (A : Option Addr) (l : List C.I3) (n c : Nat) (a0 : Int) (w : World) (hr : Rd w A (C.iis l)) (hn : Hid (l.length = n)) (hm : n ≤ 9223372036854775807) :
  Calls Tryz.prog 8 #[.slice A n c, .int .i64 a0] w (TupR w (behI l a0) (errB l a0)) := by
 by_cases h0 : a0 < 0
 ·have HE := Lib.hid (inN_none (l := l) (a0 := a0) (fun h => by omega))
  clear hr hn
  go_enter Tryz.func8, Tryz.ntmps8
  go_wp2_with fail
  go_ret2
  rw [HE.out.1, HE.out.2]
  exact ⟨none, 0, rfl, Rd.none_ _ _, Keep.refl _ _⟩
 by_cases h1 : (n : Int) ≤ a0
 ·have HE := Lib.hid (inN_none (l := l) (a0 := a0) (fun h => by rw [hn.out] at h; omega))
  clear hr hn
  go_enter Tryz.func8, Tryz.ntmps8
  go_wp2_with fail
  go_ret2
  rw [HE.out.1, HE.out.2]
  exact ⟨none, 0, rfl, Rd.none_ _ _, Keep.refl _ _⟩
 cases ho : C.okB l with
 | false =>
  have HE := Lib.hid (inN_none (l := l) (a0 := a0) (fun h => by rw [ho] at h; cases h.2.2))
  have HC := Lib.hid (C.cchk_any A l n c w hr hn hm 50 (C.chkB_no ho))
  clear hr hn ho
  go_enter Tryz.func8, Tryz.ntmps8
  go_wp2_with fail
  refine HC.out.mono ?_
  rintro e w1 ⟨rfl, k1⟩
  go_wp2
  go_ret2
  rw [HE.out.1, HE.out.2]
  exact ⟨none, 0, rfl, Rd.none_ _ _, k1⟩
 | true =>
  obtain ⟨a, rfl⟩ : ∃ a : Nat, a0 = (a : Int) := ⟨a0.toNat, by omega⟩
  have hal : a < l.length := by rw [hn.out]; omega
  have HE := Lib.hid (inN_some hal ho)
  have hle := (C.okB_parts ho).2.1
  obtain ⟨g0, off, rfl, hc⟩ := C.rdJ_at hr (by omega)
  have HC := Lib.hid (C.cchk_any _ l n c w hr hn hm 0 (C.chkB_ok ho))
  obtain ⟨d0, d1, d2⟩ := hc a hal
  have HX := Lib.hid (steps_at (List.getElem?_eq_getElem hal))
  clear hc hr
  generalize l[a] = x at d0 d1 d2 HX
  obtain ⟨op, y, z⟩ := x
  dsimp only at d0 d1 d2
  have HBe := Lib.hid (fun w => behind_any (op, y, z) a w (by omega))
  dsimp only at HBe
  have han : a < n := by rw [← hn.out]; exact hal
  clear ho hle hal hn
  go_enter Tryz.func8, Tryz.ntmps8
  go_wp2_with fail
  refine HC.out.mono ?_
  rintro e w1 ⟨rfl, k1⟩
  have c0 := k1.cell d0 id
  have c1 := k1.cell d1 id
  have c2 := k1.cell d2 id
  clear d0 d1 d2 HC
  go_wp2_with fail
  refine (HBe.out _).mono ?_
  rintro e w2 ⟨B, cB, rfl, hrd, _, k2⟩
  have HF := Lib.hid (And.intro hrd (keepN k1 k2))
  clear hrd k1 k2 c0 c1 c2 HBe
  go_wp2
  go_ret2
  rw [HE.out.1, HE.out.2, HX.out]
  exact ⟨B, cB, rfl, HF.out.1, HF.out.2⟩
end Go.Proofs.YtghdibbooegocaaGreatDoor.G

namespace Go.Proofs.YtghdibbooegocaaGreatDoor.G
open Go.RowKit W

set_option maxRecDepth 100000 in
set_option maxHeartbeats 1000000 in
theorem rsteps_tt (g off n c : Nat) (op a b : Int) (i : Nat) (w : World) (hi : i < n) (_h1 : n ≤ 1000) (hia : O.I64 a) (hib : O.I64 b) (c0 : w.cell? ⟨g, off + i * 3, none⟩ = some (.int .i64 op)) (c1 : w.cell? ⟨g, off + i * 3 + 1, none⟩ = some (.int .i64 a)) (c2 : w.cell? ⟨g, off + i * 3 + 2, none⟩ = some (.int .i64 b)) (hg : C.gB (op, a, b) = true) (he : C.eB (op, a, b) = true) (t : Nat) (ha : a = (t : Int)) (_ht : t ≤ 511) :
  Calls Tryz.prog 32 #[.slice (some ⟨g, off, none⟩) n c, .int .i64 (i : Int)] w (IntR w (stepsX (op, a, b) i)) := by
 subst ha
 have HS := Lib.hid (show stepsX (op, (t : Int), b) i = [t] from by unfold stepsX; rw [if_pos ⟨hg, he⟩]; simp)
 have HG := Lib.hid (fun w => O.rgoes_any op (t : Int) b w hia hib)
 have HE := Lib.hid (fun w => O.rends_any op (t : Int) b w hia hib)
 have hgn : O.goesN op (t : Int) b = (t : Int) := by have := C.gN_yes hg; exact this
 have hgi : O.goesI op (t : Int) b = true := hg
 have hei : O.endsI op (t : Int) b = true := he
 simp only [hgn, hgi] at HG
 simp only [hei] at HE
 clear hg he hgn hgi hei hia hib
 go_enter Tryz.func32, Tryz.ntmps32
 go_wp2_with fail
 refine (HG.out _).mono ?_
 rintro e1 w2 ⟨rfl, k2⟩
 have d0 := k2.cell c0 id
 have d1 := k2.cell c1 id
 have d2 := k2.cell c2 id
 clear c0 c1 c2
 go_wp2_with fail
 refine (HE.out _).mono ?_
 rintro e1 w3 ⟨rfl, k4⟩
 have k5 := keepN k2 k4
 clear k2 k4 d0 d1 d2 HG HE
 go_wp2
 go_ret
 rw [HS.out]
 have := intR_new (l := [t]) k5
 simpa [nz] using this

set_option maxRecDepth 100000 in
set_option maxHeartbeats 1000000 in
theorem rsteps_ft (g off n c : Nat) (op a b : Int) (i : Nat) (w : World) (hi : i < n) (_h1 : n ≤ 1000) (hia : O.I64 a) (hib : O.I64 b) (c0 : w.cell? ⟨g, off + i * 3, none⟩ = some (.int .i64 op)) (c1 : w.cell? ⟨g, off + i * 3 + 1, none⟩ = some (.int .i64 a)) (c2 : w.cell? ⟨g, off + i * 3 + 2, none⟩ = some (.int .i64 b)) (hg : C.gB (op, a, b) = false) (he : C.eB (op, a, b) = true) :
  Calls Tryz.prog 32 #[.slice (some ⟨g, off, none⟩) n c, .int .i64 (i : Int)] w (IntR w (stepsX (op, a, b) i)) := by
 have HS := Lib.hid (show stepsX (op, a, b) i = [] from by unfold stepsX; rw [if_neg (by rw [hg]; simp), if_pos he])
 have HG := Lib.hid (fun w => O.rgoes_any op a b w hia hib)
 have HE := Lib.hid (fun w => O.rends_any op a b w hia hib)
 have hgn : O.goesN op a b = 0 := by have := C.gN_no hg; exact this
 have hgi : O.goesI op a b = false := hg
 have hei : O.endsI op a b = true := he
 simp only [hgn, hgi] at HG
 simp only [hei] at HE
 clear hg he hgn hgi hei hia hib
 go_enter Tryz.func32, Tryz.ntmps32
 go_wp2_with fail
 refine (HG.out _).mono ?_
 rintro e1 w2 ⟨rfl, k2⟩
 have d0 := k2.cell c0 id
 have d1 := k2.cell c1 id
 have d2 := k2.cell c2 id
 clear c0 c1 c2
 go_wp2_with fail
 refine (HE.out _).mono ?_
 rintro e1 w3 ⟨rfl, k4⟩
 have k5 := keepN k2 k4
 clear k2 k4 d0 d1 d2 HG HE
 go_wp2
 go_ret
 rw [HS.out]
 exact intR_nil k5

set_option maxRecDepth 100000 in
set_option maxHeartbeats 1000000 in
theorem rsteps_ff (g off n c : Nat) (op a b : Int) (i : Nat) (w : World) (hi : i < n) (_h1 : n ≤ 1000) (hia : O.I64 a) (hib : O.I64 b) (c0 : w.cell? ⟨g, off + i * 3, none⟩ = some (.int .i64 op)) (c1 : w.cell? ⟨g, off + i * 3 + 1, none⟩ = some (.int .i64 a)) (c2 : w.cell? ⟨g, off + i * 3 + 2, none⟩ = some (.int .i64 b)) (hg : C.gB (op, a, b) = false) (he : C.eB (op, a, b) = false) :
  Calls Tryz.prog 32 #[.slice (some ⟨g, off, none⟩) n c, .int .i64 (i : Int)] w (IntR w (stepsX (op, a, b) i)) := by
 have HS := Lib.hid (show stepsX (op, a, b) i = [i + 1] from by unfold stepsX; rw [if_neg (by rw [hg]; simp), if_neg (by rw [he]; decide), if_pos (.inl hg)])
 have HG := Lib.hid (fun w => O.rgoes_any op a b w hia hib)
 have HE := Lib.hid (fun w => O.rends_any op a b w hia hib)
 have hgn : O.goesN op a b = 0 := by have := C.gN_no hg; exact this
 have hgi : O.goesI op a b = false := hg
 have hei : O.endsI op a b = false := he
 simp only [hgn, hgi] at HG
 simp only [hei] at HE
 clear hg he hgn hgi hei hia hib
 go_enter Tryz.func32, Tryz.ntmps32
 go_wp2_with fail
 refine (HG.out _).mono ?_
 rintro e1 w2 ⟨rfl, k2⟩
 have d0 := k2.cell c0 id
 have d1 := k2.cell c1 id
 have d2 := k2.cell c2 id
 clear c0 c1 c2
 go_wp2_with fail
 refine (HE.out _).mono ?_
 rintro e1 w3 ⟨rfl, k4⟩
 have k5 := keepN k2 k4
 clear k2 k4 d0 d1 d2 HG HE
 go_wp2
 go_ret
 rw [HS.out]
 have := intR_new (l := [i + 1]) k5
 simpa [nz] using this

set_option maxRecDepth 100000 in
set_option maxHeartbeats 1000000 in
theorem rsteps_tf_eq (g off n c : Nat) (op a b : Int) (i : Nat) (w : World) (hi : i < n) (_h1 : n ≤ 1000) (hia : O.I64 a) (hib : O.I64 b) (c0 : w.cell? ⟨g, off + i * 3, none⟩ = some (.int .i64 op)) (c1 : w.cell? ⟨g, off + i * 3 + 1, none⟩ = some (.int .i64 a)) (c2 : w.cell? ⟨g, off + i * 3 + 2, none⟩ = some (.int .i64 b)) (hg : C.gB (op, a, b) = true) (he : C.eB (op, a, b) = false) (t : Nat) (ha : a = (t : Int)) (_ht : t ≤ 511) (hc : t = i + 1) :
  Calls Tryz.prog 32 #[.slice (some ⟨g, off, none⟩) n c, .int .i64 (i : Int)] w (IntR w (stepsX (op, a, b) i)) := by
 subst ha
 have HS := Lib.hid (show stepsX (op, (t : Int), b) i = [i + 1] from by unfold stepsX; rw [if_neg (by rw [he]; simp), if_neg (by rw [he]; decide), if_pos (.inr (by show (t : Int).toNat = _; omega))])
 have HG := Lib.hid (fun w => O.rgoes_any op (t : Int) b w hia hib)
 have HE := Lib.hid (fun w => O.rends_any op (t : Int) b w hia hib)
 have hgn : O.goesN op (t : Int) b = (t : Int) := by have := C.gN_yes hg; exact this
 have hgi : O.goesI op (t : Int) b = true := hg
 have hei : O.endsI op (t : Int) b = false := he
 simp only [hgn, hgi] at HG
 simp only [hei] at HE
 clear hg he hgn hgi hei hia hib
 have q1 : ((t : Int) == (i : Int) + 1) = true := by rw [beq_iff_eq]; omega
 clear hc
 go_enter Tryz.func32, Tryz.ntmps32
 go_wp2_with fail
 refine (HG.out _).mono ?_
 rintro e1 w2 ⟨rfl, k2⟩
 have d0 := k2.cell c0 id
 have d1 := k2.cell c1 id
 have d2 := k2.cell c2 id
 clear c0 c1 c2
 go_wp2_with fail
 refine (HE.out _).mono ?_
 rintro e1 w3 ⟨rfl, k4⟩
 have k5 := keepN k2 k4
 clear k2 k4 d0 d1 d2 HG HE
 go_wp2
 go_ret
 rw [HS.out]
 have := intR_new (l := [i + 1]) k5
 simpa [nz] using this

set_option maxRecDepth 100000 in
set_option maxHeartbeats 1000000 in
theorem rsteps_tf_lt (g off n c : Nat) (op a b : Int) (i : Nat) (w : World) (hi : i < n) (_h1 : n ≤ 1000) (hia : O.I64 a) (hib : O.I64 b) (c0 : w.cell? ⟨g, off + i * 3, none⟩ = some (.int .i64 op)) (c1 : w.cell? ⟨g, off + i * 3 + 1, none⟩ = some (.int .i64 a)) (c2 : w.cell? ⟨g, off + i * 3 + 2, none⟩ = some (.int .i64 b)) (hg : C.gB (op, a, b) = true) (he : C.eB (op, a, b) = false) (t : Nat) (ha : a = (t : Int)) (_ht : t ≤ 511) (hc : t < i + 1) :
  Calls Tryz.prog 32 #[.slice (some ⟨g, off, none⟩) n c, .int .i64 (i : Int)] w (IntR w (stepsX (op, a, b) i)) := by
 subst ha
 have HS := Lib.hid (show stepsX (op, (t : Int), b) i = [t, i + 1] from by unfold stepsX; rw [if_neg (by rw [he]; simp), if_neg (by rw [he]; decide), if_neg (by rw [hg]; simp; omega), if_pos (by show (t : Int).toNat < _; omega), show (op, (t : Int), b).2.1.toNat = t by show (t : Int).toNat = t; omega])
 have HG := Lib.hid (fun w => O.rgoes_any op (t : Int) b w hia hib)
 have HE := Lib.hid (fun w => O.rends_any op (t : Int) b w hia hib)
 have hgn : O.goesN op (t : Int) b = (t : Int) := by have := C.gN_yes hg; exact this
 have hgi : O.goesI op (t : Int) b = true := hg
 have hei : O.endsI op (t : Int) b = false := he
 simp only [hgn, hgi] at HG
 simp only [hei] at HE
 clear hg he hgn hgi hei hia hib
 have q1 : ((t : Int) == (i : Int) + 1) = false := by rw [beq_eq_false_iff_ne]; omega
 have q2 : (t : Int) < (i : Int) + 1 := by omega
 go_enter Tryz.func32, Tryz.ntmps32
 go_wp2_with fail
 refine (HG.out _).mono ?_
 rintro e1 w2 ⟨rfl, k2⟩
 have d0 := k2.cell c0 id
 have d1 := k2.cell c1 id
 have d2 := k2.cell c2 id
 clear c0 c1 c2
 go_wp2_with fail
 refine (HE.out _).mono ?_
 rintro e1 w3 ⟨rfl, k4⟩
 have k5 := keepN k2 k4
 clear k2 k4 d0 d1 d2 HG HE
 go_wp2
 go_ret
 rw [HS.out]
 have := intR_new (l := [t, i + 1]) k5
 simpa [nz] using this

set_option maxRecDepth 100000 in
set_option maxHeartbeats 1000000 in
theorem rsteps_tf_gt (g off n c : Nat) (op a b : Int) (i : Nat) (w : World) (hi : i < n) (_h1 : n ≤ 1000) (hia : O.I64 a) (hib : O.I64 b) (c0 : w.cell? ⟨g, off + i * 3, none⟩ = some (.int .i64 op)) (c1 : w.cell? ⟨g, off + i * 3 + 1, none⟩ = some (.int .i64 a)) (c2 : w.cell? ⟨g, off + i * 3 + 2, none⟩ = some (.int .i64 b)) (hg : C.gB (op, a, b) = true) (he : C.eB (op, a, b) = false) (t : Nat) (ha : a = (t : Int)) (_ht : t ≤ 511) (hc : i + 1 < t) :
  Calls Tryz.prog 32 #[.slice (some ⟨g, off, none⟩) n c, .int .i64 (i : Int)] w (IntR w (stepsX (op, a, b) i)) := by
 subst ha
 have HS := Lib.hid (show stepsX (op, (t : Int), b) i = [i + 1, t] from by unfold stepsX; rw [if_neg (by rw [he]; simp), if_neg (by rw [he]; decide), if_neg (by rw [hg]; simp; omega), if_neg (by show ¬ (t : Int).toNat < _; omega), show (op, (t : Int), b).2.1.toNat = t by show (t : Int).toNat = t; omega])
 have HG := Lib.hid (fun w => O.rgoes_any op (t : Int) b w hia hib)
 have HE := Lib.hid (fun w => O.rends_any op (t : Int) b w hia hib)
 have hgn : O.goesN op (t : Int) b = (t : Int) := by have := C.gN_yes hg; exact this
 have hgi : O.goesI op (t : Int) b = true := hg
 have hei : O.endsI op (t : Int) b = false := he
 simp only [hgn, hgi] at HG
 simp only [hei] at HE
 clear hg he hgn hgi hei hia hib
 have q1 : ((t : Int) == (i : Int) + 1) = false := by rw [beq_eq_false_iff_ne]; omega
 have q2 : ¬ (t : Int) < (i : Int) + 1 := by omega
 go_enter Tryz.func32, Tryz.ntmps32
 go_wp2_with fail
 refine (HG.out _).mono ?_
 rintro e1 w2 ⟨rfl, k2⟩
 have d0 := k2.cell c0 id
 have d1 := k2.cell c1 id
 have d2 := k2.cell c2 id
 clear c0 c1 c2
 go_wp2_with fail
 refine (HE.out _).mono ?_
 rintro e1 w3 ⟨rfl, k4⟩
 have k5 := keepN k2 k4
 clear k2 k4 d0 d1 d2 HG HE
 go_wp2
 go_ret
 rw [HS.out]
 have := intR_new (l := [i + 1, t]) k5
 simpa [nz] using this

theorem rsteps_any (A : Option Addr) (l : List C.I3) (n c : Nat) (w : World) (hr : Rd w A (C.iis l)) (hn : Hid (l.length = n)) (hI : Hid (C.AllI l)) (i : Nat) (hi : i < n) (h1 : n ≤ 1000) :
  Calls Tryz.prog 32 #[.slice A n c, .int .i64 (i : Int)] w (IntR w (stepsG l i)) := by
 have hil : i < l.length := by rw [hn.out]; exact hi
 obtain ⟨g0, off, rfl, hc⟩ := C.rdJ_at hr (by omega)
 obtain ⟨c0, c1, c2⟩ := hc i hil
 have hx := hI.out _ (List.getElem_mem hil)
 rw [steps_at (List.getElem?_eq_getElem hil)]
 generalize l[i] = x at c0 c1 c2 hx
 obtain ⟨op, a, b⟩ := x
 dsimp only at c0 c1 c2 hx
 obtain ⟨hia, hib⟩ := hx
 cases hg : C.gB (op, a, b) with
 | false =>
  cases he : C.eB (op, a, b) with
  | true => exact rsteps_ft g0 off n c op a b i w hi h1 hia hib c0 c1 c2 hg he
  | false => exact rsteps_ff g0 off n c op a b i w hi h1 hia hib c0 c1 c2 hg he
 | true =>
  have hin := C.gB_in hg
  have ha : a = (a.toNat : Int) := by have h := hin.1; show a = _; dsimp only at h; omega
  have ht : a.toNat ≤ 511 := by have h := hin.2; dsimp only at h; omega
  cases he : C.eB (op, a, b) with
  | true => exact rsteps_tt g0 off n c op a b i w hi h1 hia hib c0 c1 c2 hg he _ ha ht
  | false =>
   rcases Nat.lt_trichotomy a.toNat (i + 1) with h | h | h
   ·exact rsteps_tf_lt g0 off n c op a b i w hi h1 hia hib c0 c1 c2 hg he _ ha ht h
   ·exact rsteps_tf_eq g0 off n c op a b i w hi h1 hia hib c0 c1 c2 hg he _ ha ht h
   ·exact rsteps_tf_gt g0 off n c op a b i w hi h1 hia hib c0 c1 c2 hg he _ ha ht h
end Go.Proofs.YtghdibbooegocaaGreatDoor.G

namespace Go.Proofs.YtghdibbooegocaaGreatDoor.G
open Go.RowKit W

theorem nz_at {l : List Nat} {j x : Nat} (h : l[j]? = some x) : (nz l)[j]? = some (x : Int) := by rw [List.getElem?_map, h]; rfl
theorem not_in {l : List Nat} {x : Int} (h : ∀ j, j < l.length → (nz l)[j]? ≠ some x) : (nz l).contains x = false := by
 rw [Bool.eq_false_iff]
 intro hc
 rw [List.contains_iff_mem] at hc
 obtain ⟨j, hj⟩ := List.getElem?_of_mem hc
 exact h j (by have := (List.getElem?_eq_some_iff.1 hj).1; rwa [nz_len] at this) hj
theorem is_in {l : List Nat} {x : Int} {j : Nat} (h : (nz l)[j]? = some x) : (nz l).contains x = true := by rw [List.contains_iff_mem]; exact List.mem_of_getElem? h
set_option maxRecDepth 100000 in
set_option maxHeartbeats 4000000 in
theorem rhas_any (B : Option Addr) (c : Nat) (l : List Nat) (x : Int) (w : World) (hr : Rd w B (ivs (nz l))) (hn : l.length ≤ 1000000) :
  Calls Tryz.prog 37 #[.slice B l.length c, .int .i64 x] w fun e w' => e = .returned (.bool ((nz l).contains x)) ∧ w' = w := by
 obtain ⟨n, hnl⟩ : ∃ n, l.length = n := ⟨_, rfl⟩
 rw [hnl] at hn ⊢
 have HR := Lib.hid hr
 clear hr
 go_enter Tryz.func37, Tryz.ntmps37
 go_wp2
 go_loopw [5] (fun i wr => ∃ k : Nat, k ≤ n ∧ i = .int .i64 (k : Int) ∧ wr = w ∧ Hid (∀ j, j < k → (nz l)[j]? ≠ some x)) (fun i _ => n - (intOf i).toNat)
 case atStart => exact ⟨0, Nat.zero_le _, rfl, rfl, fun j hj => absurd hj (Nat.not_lt_zero _)⟩
 case round =>
  obtain ⟨k, hk, rfl, rfl, HN⟩ := hrel
  by_cases hlt : k < n
  ·have hkl : k < l.length := by rw [hnl]; exact hlt
   obtain ⟨g, o, rfl, hc⟩ := rd_steps HR.out (by omega)
   have hz := List.getElem?_eq_getElem hkl
   have cz := hc k _ hz
   have HZ := Lib.hid (nz_at hz)
   generalize l[k] = z at cz HZ
   by_cases hzx : (z : Int) = x
   ·have q1 : ((z : Int) == x) = true := by rw [beq_iff_eq]; exact hzx
    have HI : Hid ((nz l).contains x = true) := is_in (by rw [← hzx]; exact HZ.out)
    clear hz hc hzx HN
    go_wp2
    go_ret
    rw [HI.out]
    exact ⟨rfl, rfl⟩
   ·have q1 : ((z : Int) == x) = false := by rw [beq_eq_false_iff_ne]; exact hzx
    have HN2 : Hid (∀ j, j < k + 1 → (nz l)[j]? ≠ some x) := fun j hj e => by
     rcases Nat.lt_or_eq_of_le (Nat.le_of_lt_succ hj) with h | rfl
     ·exact HN.out j h e
     ·rw [HZ.out] at e; injection e with e; exact hzx e
    clear hz hc hzx HN
    go_wp2
    go_roundw
    case rel => exact ⟨k + 1, by omega, by go_num, trivial, HN2⟩
    case measure => simp [intOf]; omega
  ·obtain rfl : k = n := by omega
   have HI : Hid ((nz l).contains x = false) := not_in (fun j hj => HN.out j (by omega))
   clear HN
   go_wp2
   go_ret
   rw [HI.out]
   exact ⟨rfl, rfl⟩
set_option maxRecDepth 100000 in
set_option maxHeartbeats 4000000 in
theorem rBehind_any (A : Option Addr) (l : List C.I3) (n c : Nat) (a0 : Int) (w : World) (hr : Rd w A (C.iis l)) (hn : Hid (l.length = n)) (hI : Hid (C.AllI l)) (hm : n ≤ 9223372036854775807) :
  Calls Tryz.prog 9 #[.slice A n c, .int .i64 a0] w (TupR w (behI l a0) (errB l a0)) := by
 cases ho : C.okB l with
 | false =>
  have HE := Lib.hid (inN_none (l := l) (a0 := a0) (fun h => by rw [ho] at h; cases h.2.2))
  have HC := Lib.hid (C.rcchk_any A l n c w hr hn hI hm 50 (C.chkB_no ho))
  clear hr hn ho hI
  go_enter Tryz.func9, Tryz.ntmps9
  go_wp2_with fail
  refine HC.out.mono ?_
  rintro e w1 ⟨rfl, k1⟩
  go_wp2
  go_ret2
  rw [HE.out.1, HE.out.2]
  exact ⟨none, 0, rfl, Rd.none_ _ _, k1⟩
 | true =>
  have HC := Lib.hid (C.rcchk_any A l n c w hr hn hI hm 0 (C.chkB_ok ho))
  by_cases h0 : a0 < 0
  ·have HE := Lib.hid (inN_none (l := l) (a0 := a0) (fun h => by omega))
   clear hr hn ho hI
   go_enter Tryz.func9, Tryz.ntmps9
   go_wp2_with fail
   refine HC.out.mono ?_
   rintro e w1 ⟨rfl, k1⟩
   go_wp2
   go_ret2
   rw [HE.out.1, HE.out.2]
   exact ⟨none, 0, rfl, Rd.none_ _ _, k1⟩
  by_cases h1 : (n : Int) ≤ a0
  ·have HE := Lib.hid (inN_none (l := l) (a0 := a0) (fun h => by rw [hn.out] at h; omega))
   clear hr hn ho hI
   go_enter Tryz.func9, Tryz.ntmps9
   go_wp2_with fail
   refine HC.out.mono ?_
   rintro e w1 ⟨rfl, k1⟩
   go_wp2
   go_ret2
   rw [HE.out.1, HE.out.2]
   exact ⟨none, 0, rfl, Rd.none_ _ _, k1⟩
  obtain ⟨a, rfl⟩ : ∃ a : Nat, a0 = (a : Int) := ⟨a0.toNat, by omega⟩
  have hal : a < l.length := by rw [hn.out]; omega
  have HE := Lib.hid (inN_some hal ho)
  have hle := (C.okB_parts ho).2.1
  rw [hn.out] at hle hal
  have HSt := Lib.hid (fun w hr => rsteps_any A l n c w hr hn hI a hal (by omega))
  have HR := Lib.hid hr
  clear hr hn ho hI
  go_enter Tryz.func9, Tryz.ntmps9
  go_wp2_with fail
  refine HC.out.mono ?_
  rintro e w1 ⟨rfl, k1⟩
  clear HC
  go_wp2_with fail
  refine (HSt.out _ (HR.out.keepN k1)).mono ?_
  rintro e w2 ⟨B, cB, rfl, hrd, _, k2⟩
  have HF := Lib.hid (And.intro hrd (keepN k1 k2))
  clear hrd k1 k2 HSt
  go_wp2
  go_ret2
  rw [HE.out.1, HE.out.2]
  exact ⟨B, cB, rfl, HF.out.1, HF.out.2⟩
end Go.Proofs.YtghdibbooegocaaGreatDoor.G
