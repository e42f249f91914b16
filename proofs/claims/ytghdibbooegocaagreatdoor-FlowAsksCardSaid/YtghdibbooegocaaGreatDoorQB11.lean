/-
  Part 11 of the proofs of GAsksRow: what is laid, and what the functions that the law runs answer. Conditions: each theorem names its own.
-/
import Derived.ChangeSame
import Derived.Deep.Fields
import Derived.Deep.Slices
import Derived.Deep.Strs
import Derived.HandedShaped
import Derived.Lib.LaidTab
import Derived.ProofKit
import Derived.Shelf.Vars
import Derived.SizedLaws
import Derived.Stop.LaidErr
import Derived.Test.YtghdibbooegocaaGreatDoorQB10
import Derived.Test.YtghdibbooegocaaGreatDoorRows
namespace Go.Proofs.YtghdibbooegocaaGreatDoor.G
open Go.RowKit W

theorem far_at (A : Option Addr) (l : List C.I3) (n c : Nat) (S : Option Addr) (src : List Nat) (cs : Nat) (x : Nat) (z : Int) (w : World) (hr : Rd w A (C.iis l)) (hn : Hid (l.length = n)) (hI : Hid (C.AllI l)) (ho : Hid (C.okB l = true)) (hrs : Rd w S (ivs (nz src))) (hs1 : src.length ≤ 5000) (hsn : ∀ x ∈ src, x < n) (hx : x < n) (hz : (farB l (-1) src).getD x (-1) = z) :
  Calls Tryz.prog 39 #[.slice A n c, .slice S src.length cs, .int .i64 (-1)] w fun e w' => ∃ g o cB, e = .returned (.slice (some ⟨g, o, none⟩) n cB) ∧ w'.cell? ⟨g, o + x, none⟩ = some (.int .i64 z) ∧ Keep NoB w w' := by
 refine (rFar_any A l n c S src src.length cs (-1) w hr hn hI ho hrs rfl hs1 hsn).mono ?_
 rintro e w' ⟨B, cB, rfl, hO, k⟩
 obtain ⟨A3, c3, hv3, -, -, r3, -⟩ := hO.form
 injection hv3 with e1 e2 e3
 subst e1
 have hFl : (farB l (-1) src).length = n := by
  have h := far_len (succ := stepsG l) (w := -1) (n := l.length) (src := src) (fun x hx => by rw [hn.out]; exact hsn x hx) (steps_lt ho.out)
  rw [← hn.out]
  exact h
 obtain ⟨g, o, rfl, hc⟩ := rd_ints r3 (by omega)
 refine ⟨g, o, cB, rfl, hc x z ?_, k⟩
 rw [List.getD_eq_getElem?_getD] at hz
 cases h : (farB l (-1) src)[x]? with
 | none => rw [List.getElem?_eq_none_iff] at h; omega
 | some y => rw [h] at hz; exact congrArg some hz

def SLo (A : Option Addr) (n c : Nat) (RV : Value) (g o k x : Nat) (z : Int) (src : List Nat) : Nat → Value → World → Prop
 | 0 => fun u _ => u = .slice A n c
 | 1 => fun u _ => u = .slice A n c
 | 2 => fun u _ => u = RV
 | 3 => fun u _ => u = .int .i64 (k : Int)
 | 4 => fun u _ => u = .pointer (some ⟨g, o + k, none⟩)
 | 5 => fun u _ => u = .int .i64 (x : Int)
 | 6 => fun u W => ∃ B c6, u = .slice B src.length c6 ∧ Rd W B (ivs (nz src))
 | 7 => fun u W => ∃ g o cF, u = .slice (some ⟨g, o, none⟩) n cF ∧ W.cell? ⟨g, o + x, none⟩ = some (.int .i64 z)
 | 8 => fun u _ => u = RV
 | 9 => fun u _ => u = .int .i64 (k : Int)
 | 10 => fun u _ => u = .pointer (some ⟨g, o + k, none⟩)
 | 11 => fun u _ => u = .int .i64 (x : Int)
 | 12 => fun u W => ∃ g o, u = .pointer (some ⟨g, o + x, none⟩) ∧ W.cell? ⟨g, o + x, none⟩ = some (.int .i64 z)
 | 13 => fun u _ => u = .int .i64 z
 | 14 => fun u _ => u = .bool (decide (0 ≤ z))
 | _ => fun _ _ => True
theorem SLo_stable (A : Option Addr) (n c : Nat) (RV : Value) (g o k x : Nat) (z : Int) (src : List Nat) : ∀ i u W W', SLo A n c RV g o k x z src i u W → Keep NoB W W' → SLo A n c RV g o k x z src i u W'
 | 0, _, _, _, h, _ | 1, _, _, _, h, _ | 2, _, _, _, h, _ | 3, _, _, _, h, _ | 4, _, _, _, h, _ | 5, _, _, _, h, _ | 8, _, _, _, h, _ | 9, _, _, _, h, _ | 10, _, _, _, h, _ | 11, _, _, _, h, _ | 13, _, _, _, h, _ | 14, _, _, _, h, _ => h
 | 6, _, _, _, ⟨B, c6, e, hr⟩, hk => ⟨B, c6, e, hr.keepN hk⟩
 | 7, _, _, _, ⟨g, o, cF, e, h⟩, hk => ⟨g, o, cF, e, hk.cell h id⟩
 | 12, _, _, _, ⟨g, o, e, h⟩, hk => ⟨g, o, e, hk.cell h id⟩
 | _ + 15, _, _, _, h, _ => h

set_option maxRecDepth 100000 in
set_option maxHeartbeats 8000000 in
theorem rLoops_any (A : Option Addr) (l : List C.I3) (n c : Nat) (w : World) (hr : Rd w A (C.iis l)) (hn : Hid (l.length = n)) (hI : Hid (C.AllI l)) (hm : n ≤ 9223372036854775807) :
  Calls Tryz.prog 22 #[.slice A n c] w (LisR w (loopL l)) := by
 have HRe := Lib.hid (rReached_any A l n c w hr hn hI hm)
 have HRd := Lib.hid (fun W (k : Keep NoB w W) => hr.keepN k)
 clear hr
 go_enter Tryz.func22, Tryz.ntmps22
 go_wp2_with fail
 refine HRe.out.mono ?_
 rintro e w1 ⟨B1, c1, rfl, r1, k1⟩
 have hrb := reach_len l
 obtain ⟨re, hre⟩ : ∃ re, (reachL l).length = re := ⟨_, rfl⟩
 have HRl := Lib.hid hre
 rw [hre] at hrb
 rw [hre]
 have HK1 := Lib.hid k1
 have HR1 := Lib.hid (fun W (k : Keep NoB w1 W) => r1.keepN k)
 clear HRe hre r1 k1
 go_wp2_with fail
 go_loopw [4, 5] (fun v i wr => ∃ k : Nat, k ≤ re ∧ i = .int .i64 (k : Int) ∧ Hid (Own wr 3 1 (Fresh w1) v (((reachL l).take k).filter fun (x : Nat) => decide (0 ≤ (farB l (-1) (stepsG l x)).getD x (-1))).length (ivs (nz (((reachL l).take k).filter fun (x : Nat) => decide (0 ≤ (farB l (-1) (stepsG l x)).getD x (-1))))) ∧ Keep NoB w1 wr)) (fun _ i _ => re - (intOf i).toNat)
 case atStart => exact ⟨0, Nat.zero_le _, rfl, Own.nil _ _ _ _, Keep.refl _ _⟩
 case round =>
  obtain ⟨k, hk, rfl, HI2⟩ := hrel
  obtain ⟨hO, hK⟩ := HI2.out
  by_cases hlt : k < re
  ·have hkl : k < (reachL l).length := by rw [HRl.out]; exact hlt
   obtain ⟨g, o, rfl, hc⟩ := rd_steps (HR1.out w1 (Keep.refl _ _)) (by omega)
   have hz := List.getElem?_eq_getElem hkl
   have HCz := Lib.hid (fun W (k : Keep NoB w1 W) => k.cell (hc _ _ hz) id)
   have hnx := take_filter (P := fun (x : Nat) => decide (0 ≤ (farB l (-1) (stepsG l x)).getD x (-1))) hkl
   have hll : (((reachL l).take k).filter fun (x : Nat) => decide (0 ≤ (farB l (-1) (stepsG l x)).getD x (-1))).length ≤ 1000 := filt_len (reach_len l)
   have hxr : (reachL l)[k] ∈ reachL l := List.getElem_mem hkl
   generalize (reachL l)[k] = x at hxr hnx HCz
   generalize hL2e : (((reachL l).take (k + 1)).filter fun (x : Nat) => decide (0 ≤ (farB l (-1) (stepsG l x)).getD x (-1))) = L2 at hnx
   have HE2 := Lib.hid hL2e
   generalize (((reachL l).take k).filter fun (x : Nat) => decide (0 ≤ (farB l (-1) (stepsG l x)).getD x (-1))) = L at hO hnx hll HI2
   try dsimp only at hnx
   have HXr := Lib.hid hxr
   have hox := reach_ok hxr
   have hn5x : n ≤ 512 := by rw [← hn.out]; exact (C.okB_parts hox).2.1
   have hxn : x < n := by rw [← hn.out]; exact reach_lt hox hxr
   have cz := HCz.out wr hK
   clear hz hc hkl hL2e hxr
   obtain ⟨z, hzz⟩ : ∃ z, (farB l (-1) (stepsG l x)).getD x (-1) = z := ⟨_, rfl⟩
   rw [hzz] at hnx
   have hox2 := Lib.hid hox
   have HSt := Lib.hid (fun W (k : Keep NoB w W) => rsteps_any A l n c W (HRd.out _ k) hn hI x hxn (by omega))
   have HFa := Lib.hid (fun W (k : Keep NoB w W) B c6 (r : Rd W B (ivs (nz (stepsG l x)))) => far_at A l n c B (stepsG l x) c6 x z W (HRd.out _ k) hn hI hox2 r (by have := nB_len (l := l) x (reach_nB HXr.out); omega) (fun y hy => by rw [← hn.out]; exact steps_lt hox x y (by rw [hn.out]; exact hxn) hy) hxn hzz)
   have KR := hK
   clear hzz cz hox
   go_wp2_with fail
   refine wp_region_props6 (fun i => [14, 15, 16, 17, 18, 19, 20, 21, 22, 23, 24, 25, 26, 27, 28].getD i 0) 9999 (NoB) (fun _ => false) (by kernel_rfl) (by kernel_rfl) (by kernel_rfl) (SLo A n c (.slice (some ⟨g, o, none⟩) re c1) g o k x z (stepsG l x)) (fun i u W1 W2 _ _ _ h hk => SLo_stable A n c (.slice (some ⟨g, o, none⟩) re c1) g o k x z (stepsG l x) i u W1 W2 h hk) (fun i u W1 W2 _ h hk => SLo_stable A n c (.slice (some ⟨g, o, none⟩) re c1) g o k x z (stepsG l x) i u W1 W2 h hk) rfl ?step ?spec ?fin
   case step =>
    intro i o a w' hoo hic hF hK hA
    have hi : i < 15 := by simpa using (Array.getElem?_eq_some_iff.1 hoo).1
    by_cases h0 : i = 0
    ·subst h0
     simp only [List.getElem?_toArray, List.getElem?_cons_zero, Option.some.injEq] at hoo
     subst hoo
     have e0 : a.tmps.getD 0 undef = .slice A n c := hF.2.2 0 (by decide)
     refine Does.plain rfl ?_
     unfold yieldsK
     go_simp
     exact ⟨rfl, Keep.refl _ _⟩
    by_cases h1 : i = 1
    ·subst h1
     simp only [List.getElem?_toArray, List.getElem?_cons_zero, List.getElem?_cons_succ, Option.some.injEq] at hoo
     subst hoo
     have e0 : a.tmps.getD 0 undef = .slice A n c := hF.2.2 0 (by decide)
     refine Does.plain rfl ?_
     unfold yieldsK
     go_simp
     exact ⟨rfl, Keep.refl _ _⟩
    by_cases h2 : i = 2
    ·subst h2
     simp only [List.getElem?_toArray, List.getElem?_cons_zero, List.getElem?_cons_succ, Option.some.injEq] at hoo
     subst hoo
     have e3 : a.tmps.getD 3 undef = .slice (some ⟨g, o, none⟩) re c1 := hF.2.2 3 (by decide)
     refine Does.plain rfl ?_
     unfold yieldsK
     go_simp
     exact ⟨rfl, Keep.refl _ _⟩
    by_cases h3 : i = 3
    ·subst h3
     simp only [List.getElem?_toArray, List.getElem?_cons_zero, List.getElem?_cons_succ, Option.some.injEq] at hoo
     subst hoo
     have e5 : a.tmps.getD 5 undef = .int .i64 (k : Int) := hF.2.2 5 (by decide)
     refine Does.plain rfl ?_
     unfold yieldsK
     go_simp
     exact ⟨rfl, Keep.refl _ _⟩
    by_cases h4 : i = 4
    ·subst h4
     simp only [List.getElem?_toArray, List.getElem?_cons_zero, List.getElem?_cons_succ, Option.some.injEq] at hoo
     subst hoo
     have e16 : a.tmps.getD 16 undef = .slice (some ⟨g, o, none⟩) re c1 := hA ⟨2, .data⟩ (by simp) rfl
     have e17 : a.tmps.getD 17 undef = .int .i64 (k : Int) := hA ⟨3, .data⟩ (by simp) rfl
     refine Does.plain rfl ?_
     unfold yieldsK
     go_simp
     exact ⟨rfl, Keep.refl _ _⟩
    by_cases h5 : i = 5
    ·subst h5
     simp only [List.getElem?_toArray, List.getElem?_cons_zero, List.getElem?_cons_succ, Option.some.injEq] at hoo
     subst hoo
     have e18 : a.tmps.getD 18 undef = .pointer (some ⟨g, o + k, none⟩) := hA ⟨4, .data⟩ (by simp) rfl
     have cz := HCz.out w' (keepN KR hK)
     refine Does.plain rfl ?_
     unfold yieldsK
     go_simp
     exact ⟨rfl, Keep.refl _ _⟩
    by_cases h6 : i = 6
    ·subst h6
     simp only [List.getElem?_toArray, List.getElem?_cons_zero, List.getElem?_cons_succ, Option.some.injEq] at hoo
     subst hoo
     have e15 : a.tmps.getD 15 undef = .slice A n c := hA ⟨1, .data⟩ (by simp) rfl
     have e19 : a.tmps.getD 19 undef = .int .i64 (x : Int) := hA ⟨5, .data⟩ (by simp) rfl
     refine Does.plain rfl ?_
     unfold yieldsK
     go_simp
     refine (HSt.out w' (keepN HK1.out (keepN KR hK))).mono ?_
     rintro e w9 ⟨B6, c6, rfl, r6, _, k6⟩
     exact ⟨_, rfl, ⟨B6, c6, rfl, r6⟩, k6⟩
    by_cases h7 : i = 7
    ·subst h7
     simp only [List.getElem?_toArray, List.getElem?_cons_zero, List.getElem?_cons_succ, Option.some.injEq] at hoo
     subst hoo
     have e14 : a.tmps.getD 14 undef = .slice A n c := hA ⟨0, .data⟩ (by simp) rfl
     obtain ⟨B6, c6, e20, r6⟩ := hA ⟨6, .data⟩ (by simp) rfl
     have e20 : a.tmps.getD 20 undef = .slice B6 (stepsG l x).length c6 := e20
     refine Does.plain rfl ?_
     unfold yieldsK
     go_simp
     refine (HFa.out w' (keepN HK1.out (keepN KR hK)) B6 c6 r6).mono ?_
     rintro e w9 ⟨gf, of, cF, rfl, hcf, k7⟩
     exact ⟨_, rfl, ⟨gf, of, cF, rfl, hcf⟩, k7⟩
    by_cases h8 : i = 8
    ·subst h8
     simp only [List.getElem?_toArray, List.getElem?_cons_zero, List.getElem?_cons_succ, Option.some.injEq] at hoo
     subst hoo
     have e3 : a.tmps.getD 3 undef = .slice (some ⟨g, o, none⟩) re c1 := hF.2.2 3 (by decide)
     refine Does.plain rfl ?_
     unfold yieldsK
     go_simp
     exact ⟨rfl, Keep.refl _ _⟩
    by_cases h9 : i = 9
    ·subst h9
     simp only [List.getElem?_toArray, List.getElem?_cons_zero, List.getElem?_cons_succ, Option.some.injEq] at hoo
     subst hoo
     have e5 : a.tmps.getD 5 undef = .int .i64 (k : Int) := hF.2.2 5 (by decide)
     refine Does.plain rfl ?_
     unfold yieldsK
     go_simp
     exact ⟨rfl, Keep.refl _ _⟩
    by_cases h10 : i = 10
    ·subst h10
     simp only [List.getElem?_toArray, List.getElem?_cons_zero, List.getElem?_cons_succ, Option.some.injEq] at hoo
     subst hoo
     have e22 : a.tmps.getD 22 undef = .slice (some ⟨g, o, none⟩) re c1 := hA ⟨8, .data⟩ (by simp) rfl
     have e23 : a.tmps.getD 23 undef = .int .i64 (k : Int) := hA ⟨9, .data⟩ (by simp) rfl
     refine Does.plain rfl ?_
     unfold yieldsK
     go_simp
     exact ⟨rfl, Keep.refl _ _⟩
    by_cases h11 : i = 11
    ·subst h11
     simp only [List.getElem?_toArray, List.getElem?_cons_zero, List.getElem?_cons_succ, Option.some.injEq] at hoo
     subst hoo
     have e24 : a.tmps.getD 24 undef = .pointer (some ⟨g, o + k, none⟩) := hA ⟨10, .data⟩ (by simp) rfl
     have cz := HCz.out w' (keepN KR hK)
     refine Does.plain rfl ?_
     unfold yieldsK
     go_simp
     exact ⟨rfl, Keep.refl _ _⟩
    by_cases h12 : i = 12
    ·subst h12
     simp only [List.getElem?_toArray, List.getElem?_cons_zero, List.getElem?_cons_succ, Option.some.injEq] at hoo
     subst hoo
     obtain ⟨gf, of, cF, e21, h21⟩ := hA ⟨7, .data⟩ (by simp) rfl
     have e21 : a.tmps.getD 21 undef = .slice (some ⟨gf, of, none⟩) n cF := e21
     have e25 : a.tmps.getD 25 undef = .int .i64 (x : Int) := hA ⟨11, .data⟩ (by simp) rfl
     refine Does.plain rfl ?_
     unfold yieldsK
     go_simp
     exact ⟨⟨gf, of, rfl, h21⟩, Keep.refl _ _⟩
    by_cases h13 : i = 13
    ·subst h13
     simp only [List.getElem?_toArray, List.getElem?_cons_zero, List.getElem?_cons_succ, Option.some.injEq] at hoo
     subst hoo
     obtain ⟨gf, of, e26, h26⟩ := hA ⟨12, .data⟩ (by simp) rfl
     have e26 : a.tmps.getD 26 undef = .pointer (some ⟨gf, of + x, none⟩) := e26
     refine Does.plain rfl ?_
     unfold yieldsK
     go_simp
     exact ⟨rfl, Keep.refl _ _⟩
    by_cases h14 : i = 14
    ·subst h14
     simp only [List.getElem?_toArray, List.getElem?_cons_zero, List.getElem?_cons_succ, Option.some.injEq] at hoo
     subst hoo
     have e27 : a.tmps.getD 27 undef = .int .i64 z := hA ⟨13, .data⟩ (by simp) rfl
     refine Does.plain rfl ?_
     unfold yieldsK
     go_simp
     exact ⟨rfl, Keep.refl _ _⟩
    omega
   case spec =>
    intro o a w' hoo
    simp at hoo
   case fin =>
    intro a w6 hF gK hA
    have e28 : a.tmps.getD 28 undef = .bool (decide (0 ≤ z)) := hA 14 (by decide)
    have ha := frameD_list (l := [14, 15, 16, 17, 18, 19, 20, 21, 22, 23, 24, 25, 26, 27, 28]) rfl hF
    rw [ha]
    simp only [List.map_cons, List.map_nil, e28]
    generalize a.tmps.getD 14 undef = q0
    generalize a.tmps.getD 15 undef = q1
    generalize a.tmps.getD 16 undef = q2
    generalize a.tmps.getD 17 undef = q3
    generalize a.tmps.getD 18 undef = q4
    generalize a.tmps.getD 19 undef = q5
    generalize a.tmps.getD 20 undef = q6
    generalize a.tmps.getD 21 undef = q7
    generalize a.tmps.getD 22 undef = q8
    generalize a.tmps.getD 23 undef = q9
    generalize a.tmps.getD 24 undef = q10
    generalize a.tmps.getD 25 undef = q11
    generalize a.tmps.getD 26 undef = q12
    generalize a.tmps.getD 27 undef = q13
    simp only [fillD, List.setIfInBounds_toArray, List.set_cons_zero, List.set_cons_succ]
    have hK6 := keepN KR gK
    have hO6 := hO.keepN gK
    clear hA hF ha e28 gK HSt HFa KR
    have cz6 := HCz.out w6 hK6
    cases pz : decide (0 ≤ z) with
    | true =>
     rw [if_pos pz] at hnx
     obtain ⟨v', W', hap, hO', _, hk'⟩ := push_any hO6 hK6 (x : Int) (by omega)
     have HN : Hid (Own W' 3 1 (Fresh w1) v' L2.length (ivs (nz L2)) ∧ Keep NoB w1 W') := by
      refine ⟨?_, hk'⟩
      rw [hnx, List.length_append, List.length_singleton, nz, List.map_append, ivs, List.map_append]
      exact hO'
     clear hO hK HI2 hO6 hK6 hO' hk' hnx
     go_wp2_with (at_builtin; refine wpList_append_run _ rfl _ _ 23 rfl _ _ v' W' rfl rfl hap ?_)
     go_roundw
     case rel => exact ⟨k + 1, by omega, by go_num, by rw [HE2.out]; exact HN⟩
     case measure => simp [intOf]; omega
    | false =>
     rw [if_neg (by rw [pz]; decide), List.append_nil] at hnx
     have HN : Hid (Own w6 3 1 (Fresh w1) u4 L.length (ivs (nz L)) ∧ Keep NoB w1 w6) := ⟨hO6, hK6⟩
     clear hO hK HI2 hO6 hK6
     go_wp2_with fail
     go_roundw
     case rel => exact ⟨k + 1, by omega, by go_num, by rw [HE2.out, hnx]; exact HN⟩
     case measure => simp [intOf]; omega
  ·obtain rfl : k = re := by omega
   rw [← HRl.out, List.take_length] at hO
   have HX := Lib.hid (And.intro hO hK)
   obtain ⟨B, cB, rfl⟩ := own_form hO.1
   clear hO hK HI2
   go_wp2_with fail
   go_ret
   obtain ⟨hO, hK⟩ := HX.out
   obtain ⟨A5, c5, he5, _, _, hrd, _⟩ := hO.form
   injection he5 with e1 e2 e3
   subst e1
   exact ⟨B, cB, rfl, hrd, keepN HK1.out hK⟩
end Go.Proofs.YtghdibbooegocaaGreatDoor.G

namespace Go.Proofs.YtghdibbooegocaaGreatDoor.G
open Go.RowKit W

theorem must_len (l : List C.I3) (a : Nat) : (mustL l a).length ≤ 1000 := by
 have h1 : (reachL l).length ≤ 1000 := nodup_len 1000 _ ((rise_filter (b := l)).imp (fun h => Nat.ne_of_lt h)) fun x hx => reach_b hx
 exact Nat.le_trans (List.length_filter_le _ _) h1
theorem ahead_len (l : List C.I3) (a : Nat) : (aheadL l a).length ≤ 1000 := by
 have h1 : (reachL l).length ≤ 1000 := nodup_len 1000 _ ((rise_filter (b := l)).imp (fun h => Nat.ne_of_lt h)) fun x hx => reach_b hx
 exact Nat.le_trans (List.length_filter_le _ _) h1
end Go.Proofs.YtghdibbooegocaaGreatDoor.G

namespace Go.Proofs.YtghdibbooegocaaGreatDoor.G
open Go.RowKit W

theorem own_bare {W : World} {E : TypeId} {size b : Nat} (hb : b = W.heap.size) : (W.alloc (.cells #[] E)).ownsRow 0 E size (.slice (some ⟨b, 0, none⟩) 0 0) 0 [] := by
 subst hb; exact World.ownsRow_made W #[] 0 (Nat.zero_le _) (Nat.zero_le _) (by simp)
theorem own_rd {W : World} {O : Nat → Prop} {B : Option Addr} {m c : Nat} {xs : List Value} {E sz : Nat} (h : Own W E sz O (.slice B m c) m xs) : Rd W B xs := by
 obtain ⟨A2, c2, hv, _, _, hrd, _⟩ := h.form
 injection hv with e1 e2 e3
 subst e1
 exact hrd
theorem beh_len (l : List C.I3) (a0 : Int) : (behI l a0).length ≤ 1000 := by
 unfold behI
 split
 ·next x _ =>
  unfold stepsG
  split
  ·exact Nat.le_trans (stepsX_len _ _) (by decide)
  ·exact Nat.zero_le _
 ·exact Nat.zero_le _
theorem aheadI_len (l : List C.I3) (a0 : Int) : (aheadI l a0).length ≤ 1000 := by
 unfold aheadI
 split
 ·exact ahead_len l _
 ·exact Nat.zero_le _
theorem mustI_len (l : List C.I3) (a0 : Int) : (mustI l a0).length ≤ 1000 := by
 unfold mustI
 split
 ·exact must_len l _
 ·exact Nat.zero_le _
theorem same_nz (L : List Nat) (hL : L.length ≤ 1000) (A1 A2 : Option Addr) (c1 c2 : Nat) (w : World) (h1 : Rd w A1 (ivs (nz L))) (h2 : Rd w A2 (ivs (nz L))) :
  Calls Tryz.prog 16 #[.slice A1 L.length c1, .slice A2 L.length c2] w fun e w' => e = .returned (.bool true) ∧ Keep NoB w w' :=
 W.ints_any A1 A2 (nz L) (nz L) L.length L.length c1 c2 w h1 h2 (Lib.hid (nz_len L)) (Lib.hid (nz_len L)) (by omega) (by omega) true (by show _ = _; simp)

set_option maxRecDepth 100000 in
set_option maxHeartbeats 16000000 in
theorem flowAsks_walk (A : Option Addr) (l : List C.I3) (n c : Nat) (a0 : Int) (w : World) (hr : Rd w A (C.iis l)) (hn : Hid (l.length = n)) (hI : Hid (C.AllI l)) (hm : n ≤ 9223372036854775807) (ha0 : (Lit.int .i64 a0).wf = true) :
  Calls Tryz.prog 3 #[.slice A n c, .int .i64 a0] w fun e w' => e = .returned (.bool true) ∧ Keep NoB w w' := by
 by_cases h60 : 60 < n
 ·have q1 : (60 : Int) < (n : Int) := by omega
  clear hr
  go_enter Tryz.func3, Tryz.ntmps3
  go_wp2_with fail
  go_ret
  exact ⟨rfl, Keep.refl _ _⟩
 have q1 : ¬ (60 : Int) < (n : Int) := by omega
 obtain ⟨i0, hi, hz0, hz1, hz2⟩ := info_parts instr_info
 have HB := Lib.hid (fun A c w hr => fBehind_any A l n c a0 w hr hn hm)
 have HBr := Lib.hid (fun w hr => rBehind_any A l n c a0 w hr hn hI hm)
 have HA := Lib.hid (fun A c w hr => fAhead_any A l n c a0 w hr hn hm ha0)
 have HAr := Lib.hid (fun w hr => rAhead_any A l n c a0 w hr hn hI hm)
 have HD := Lib.hid (fun A c w hr => fDistance_any A l n c a0 w hr hn hm ha0)
 have HDr := Lib.hid (fun w hr => rDistance_any A l n c a0 w hr hn hI hm)
 have HM := Lib.hid (fun A c w hr => fMust_any A l n c a0 w hr hn hm ha0)
 have HMr := Lib.hid (fun w hr => rMust_any A l n c a0 w hr hn hI hm)
 have HR := Lib.hid (fun A c w hr => fReached_any A l n c w hr hn hm)
 have HRr := Lib.hid (fun w hr => rReached_any A l n c w hr hn hI hm)
 have HMe := Lib.hid (fun A c w hr => fMeets_any A l n c w hr hn hm)
 have HMer := Lib.hid (fun w hr => rMeets_any A l n c w hr hn hI hm)
 have HLo := Lib.hid (fun A c w hr => fLoops_any A l n c w hr hn hm)
 have HLor := Lib.hid (fun w hr => rLoops_any A l n c w hr hn hI hm)
 have HZ1 := Lib.hid (same_nz (behI l a0) (beh_len l a0))
 have HZ2 := Lib.hid (same_nz (aheadI l a0) (aheadI_len l a0))
 have HZ3 := Lib.hid (same_nz (mustI l a0) (mustI_len l a0))
 have HZr := Lib.hid (same_nz (reachL l) (reach_len l))
 have HZm := Lib.hid (same_nz (meetL l) (Nat.le_trans (List.length_filter_le _ _) (reach_len l)))
 have HZl := Lib.hid (same_nz (loopL l) (Nat.le_trans (List.length_filter_le _ _) (reach_len l)))
 have HLs := Lib.hid (fun A1 c1 w h1 h2 => C.lists_any A1 A l l n n c1 c w h1 h2 hn hn hm hm true (by show _ = _; simp))
 have hrb := reach_len l
 have hbb := beh_len l a0
 have hab := aheadI_len l a0
 have hmb := mustI_len l a0
 have heb : meetL l = meetL l := rfl
 generalize behI l a0 = L1 at HB HBr HZ1 hbb
 generalize errB l a0 = E1 at HB HBr
 generalize aheadI l a0 = L2 at HA HAr HZ2 hab
 generalize distI l a0 = D at HD HDr
 generalize mustI l a0 = L3 at HM HMr HZ3 hmb
 generalize errI l a0 = E2 at HA HAr HD HDr HM HMr
 generalize meetL l = L4 at HMe HMer HZm
 generalize loopL l = L5 at HLo HLor HZl
 generalize reachL l = L6 at HR HRr HZr hrb
 clear heb
 have HRl := Lib.hid (fun W (k : Keep NoB w W) => hr.keepN k)
 clear hr
 go_enter Tryz.func3, Tryz.ntmps3
 go_wp2_with (at_builtin; refine wpList_append_rd _ rfl (.tmp 28) (.tmp 29) _ rfl 45 3 24 i0 _ Tryz.underlying22 hi hz0 hz1 hz2 rfl (by decide) _ 0 [] A n c (C.iis l) rfl (own_bare (by simp)) rfl (HRl.out _ ((Keep.refl NoB _).alloc _)) (by rw [C.iis_length, hn.out]) (C.iis_cells l) (by unfold maxLen; omega) (by omega) ?_; intro A1 c1 w1 hrow hg1 hv1; obtain ⟨hO1, hK1⟩ := W.own_after (w := w) (fun g e => by cases e; unfold Fresh; simp) ((Keep.refl NoB _).alloc _) hg1 hv1 hrow; clear hrow hg1 hv1)
 simp only [Nat.zero_add, List.nil_append] at hO1 ⊢
 have hro := own_rd hO1
 have HRp := Lib.hid (fun W (k : Keep NoB w1 W) => hro.keepN k)
 have HK1 := Lib.hid hK1
 have g0 := Keep.refl NoB w1
 clear hO1 hK1 hro hz0 hz1 hz2 hi
 go_wp2_with fail
 refine (HB.out _ _ _ (HRp.out _ g0)).mono ?_
 rintro e w1 ⟨B1, c1, rfl, f1, k1⟩
 have g1 := keepN g0 k1
 clear g0 k1
 go_wp2_with fail
 refine (HBr.out _ (HRl.out _ (keepN HK1.out g1))).mono ?_
 rintro e w2 ⟨B2, c2, rfl, f2, k2⟩
 have g2 := keepN g1 k2
 have rb_2 := f1.keepN k2
 clear g1 k2 f1
 go_wp2_with fail
 refine (HA.out _ _ _ (HRp.out _ g2)).mono ?_
 rintro e w3 ⟨B3, c3, rfl, f3, k3⟩
 have g3 := keepN g2 k3
 have rb_3 := rb_2.keepN k3
 have rbr_3 := f2.keepN k3
 clear g2 k3 rb_2 f2
 go_wp2_with fail
 refine (HAr.out _ (HRl.out _ (keepN HK1.out g3))).mono ?_
 rintro e w4 ⟨B4, c4, rfl, f4, k4⟩
 have g4 := keepN g3 k4
 have rb_4 := rb_3.keepN k4
 have rbr_4 := rbr_3.keepN k4
 have ra_4 := f3.keepN k4
 clear g3 k4 rb_3 rbr_3 f3
 go_wp2_with fail
 refine (HD.out _ _ _ (HRp.out _ g4)).mono ?_
 rintro e w5 ⟨rfl, k5⟩
 have g5 := keepN g4 k5
 have rb_5 := rb_4.keepN k5
 have rbr_5 := rbr_4.keepN k5
 have ra_5 := ra_4.keepN k5
 have rar_5 := f4.keepN k5
 clear g4 k5 rb_4 rbr_4 ra_4 f4
 go_wp2_with fail
 refine (HDr.out _ (HRl.out _ (keepN HK1.out g5))).mono ?_
 rintro e w6 ⟨rfl, k6⟩
 have g6 := keepN g5 k6
 have rb_6 := rb_5.keepN k6
 have rbr_6 := rbr_5.keepN k6
 have ra_6 := ra_5.keepN k6
 have rar_6 := rar_5.keepN k6
 clear g5 k6 rb_5 rbr_5 ra_5 rar_5
 go_wp2_with fail
 refine (HM.out _ _ _ (HRp.out _ g6)).mono ?_
 rintro e w7 ⟨B7, c7, rfl, f7, k7⟩
 have g7 := keepN g6 k7
 have rb_7 := rb_6.keepN k7
 have rbr_7 := rbr_6.keepN k7
 have ra_7 := ra_6.keepN k7
 have rar_7 := rar_6.keepN k7
 clear g6 k7 rb_6 rbr_6 ra_6 rar_6
 go_wp2_with fail
 refine (HMr.out _ (HRl.out _ (keepN HK1.out g7))).mono ?_
 rintro e w8 ⟨B8, c8, rfl, f8, k8⟩
 have g8 := keepN g7 k8
 have rb_8 := rb_7.keepN k8
 have rbr_8 := rbr_7.keepN k8
 have ra_8 := ra_7.keepN k8
 have rar_8 := rar_7.keepN k8
 have rm_8 := f7.keepN k8
 clear g7 k8 rb_7 rbr_7 ra_7 rar_7 f7
 go_wp2_with fail
 refine (HZ1.out _ _ _ _ _ rb_8 rbr_8).mono ?_
 rintro e w9 ⟨rfl, k9⟩
 have g9 := keepN g8 k9
 have rb_9 := rb_8.keepN k9
 have rbr_9 := rbr_8.keepN k9
 have ra_9 := ra_8.keepN k9
 have rar_9 := rar_8.keepN k9
 have rm_9 := rm_8.keepN k9
 have rmr_9 := f8.keepN k9
 clear g8 k9 rb_8 rbr_8 ra_8 rar_8 rm_8 f8
 clear rb_9 rbr_9
 go_wp2_with fail
 refine (HZ2.out _ _ _ _ _ ra_9 rar_9).mono ?_
 rintro e w10 ⟨rfl, k10⟩
 have g10 := keepN g9 k10
 have ra_10 := ra_9.keepN k10
 have rar_10 := rar_9.keepN k10
 have rm_10 := rm_9.keepN k10
 have rmr_10 := rmr_9.keepN k10
 clear g9 k10 ra_9 rar_9 rm_9 rmr_9
 clear ra_10 rar_10
 go_wp2_with fail
 refine (HZ3.out _ _ _ _ _ rm_10 rmr_10).mono ?_
 rintro e w11 ⟨rfl, k11⟩
 have g11 := keepN g10 k11
 have rm_11 := rm_10.keepN k11
 have rmr_11 := rmr_10.keepN k11
 clear g10 k11 rm_10 rmr_10
 clear rm_11 rmr_11
 go_wp2_with fail
 refine (HR.out _ _ _ (HRp.out _ g11)).mono ?_
 rintro e w12 ⟨Bq, cq, rfl, oq, kq⟩
 have HKq := Lib.hid g11
 clear g11
 obtain ⟨wq, hwq⟩ : ∃ W, W = w11 := ⟨_, rfl⟩
 rw [← hwq] at oq kq HKq
 clear hwq
 go_wp2_with fail
 refine (HRr.out _ (HRl.out _ (keepN HK1.out (keepN HKq.out kq)))).mono ?_
 rintro e w13 ⟨B13, c13, rfl, f13, k13⟩
 have g13 := keepN kq k13
 have rown_13 := oq.keepN k13
 clear kq k13 oq
 go_wp2_with fail
 refine (HZr.out _ _ _ _ _ (own_rd rown_13) f13).mono ?_
 rintro e w14 ⟨rfl, k14⟩
 have g14 := keepN g13 k14
 have rown_14 := rown_13.keepN k14
 have rrr_14 := f13.keepN k14
 clear g13 k14 rown_13 f13
 clear rrr_14
 go_wp2_with fail
 refine (HMe.out _ _ _ (HRp.out _ (keepN HKq.out g14))).mono ?_
 rintro e w15 ⟨B15, c15, rfl, o15, k15⟩
 obtain ⟨A15, d15, hv15, hy1, hy2, f15, hy3⟩ := o15.form
 injection hv15 with e1 e2 e3
 subst e1
 clear hy1 hy2 hy3 e2 e3 o15
 have g15 := keepN g14 k15
 have rown_15 := rown_14.keepN k15
 clear g14 k15 rown_14
 go_wp2_with fail
 refine (HMer.out _ (HRl.out _ (keepN HK1.out (keepN HKq.out g15)))).mono ?_
 rintro e w16 ⟨B16, c16, rfl, f16, k16⟩
 have g16 := keepN g15 k16
 have rown_16 := rown_15.keepN k16
 have rme_16 := f15.keepN k16
 clear g15 k16 rown_15 f15
 go_wp2_with fail
 refine (HZm.out _ _ _ _ _ rme_16 f16).mono ?_
 rintro e w17 ⟨rfl, k17⟩
 have g17 := keepN g16 k17
 have rown_17 := rown_16.keepN k17
 have rme_17 := rme_16.keepN k17
 have rmer_17 := f16.keepN k17
 clear g16 k17 rown_16 rme_16 f16
 clear rme_17 rmer_17
 go_wp2_with fail
 refine (HLo.out _ _ _ (HRp.out _ (keepN HKq.out g17))).mono ?_
 rintro e w18 ⟨B18, c18, rfl, o18, k18⟩
 obtain ⟨A18, d18, hv18, hy1, hy2, f18, hy3⟩ := o18.form
 injection hv18 with e1 e2 e3
 subst e1
 clear hy1 hy2 hy3 e2 e3 o18
 have g18 := keepN g17 k18
 have rown_18 := rown_17.keepN k18
 clear g17 k18 rown_17
 go_wp2_with fail
 refine (HLor.out _ (HRl.out _ (keepN HK1.out (keepN HKq.out g18)))).mono ?_
 rintro e w19 ⟨B19, c19, rfl, f19, k19⟩
 have g19 := keepN g18 k19
 have rown_19 := rown_18.keepN k19
 have rlo_19 := f18.keepN k19
 clear g18 k19 rown_18 f18
 go_wp2_with fail
 refine (HZl.out _ _ _ _ _ rlo_19 f19).mono ?_
 rintro e w20 ⟨rfl, k20⟩
 have g20 := keepN g19 k20
 have rown_20 := rown_19.keepN k20
 have rlo_20 := rlo_19.keepN k20
 have rlor_20 := f19.keepN k20
 clear g19 k20 rown_19 rlo_19 f19
 clear rlo_20 rlor_20
 go_wp2_with fail
 have HI : Hid ((∃ F : List Int, Own w20 3 1 (Fresh wq) (.slice Bq L6.length cq) L6.length (ivs F)) ∧ Keep NoB wq w20) := ⟨⟨_, rown_20⟩, g20⟩
 clear g20 rown_20
 go_loopw [142] (fun i wr => ∃ k : Nat, k ≤ L6.length ∧ i = .int .i64 (k : Int) ∧ Hid ((∃ F : List Int, Own wr 3 1 (Fresh wq) (.slice Bq L6.length cq) L6.length (ivs F)) ∧ Keep NoB wq wr)) (fun i _ => L6.length - (intOf i).toNat)
 case atStart => exact ⟨0, Nat.zero_le _, rfl, HI.out⟩
 case round =>
  obtain ⟨k, hk, rfl, HQ⟩ := hrel
  clear HI
  by_cases hlt : k < L6.length
  ·obtain ⟨⟨F, hO⟩, hK⟩ := HQ.out
   obtain ⟨gq, rfl, hgq, hfz, ⟨uo, hco⟩, hO5, hgr⟩ := own_set hO hlt (-1)
   have HN : Hid ((∃ F : List Int, Own (wr.setCell ⟨gq, k, none⟩ (.int .i64 (-1))) 3 1 (Fresh wq) (.slice (some ⟨gq, 0, none⟩) L6.length cq) L6.length (ivs F)) ∧ Keep NoB wq (wr.setCell ⟨gq, k, none⟩ (.int .i64 (-1)))) := ⟨⟨_, hO5⟩, hK.grown hgr (fun g e hl => by cases e; have : wq.heap.size ≤ gq := hgq; omega)⟩
   clear hO hK hO5 hgr HQ
   go_wp2_with fail
   go_roundw
   case rel => exact ⟨k + 1, by omega, by go_num, HN⟩
   case measure => simp [intOf]; omega
  ·obtain rfl : k = L6.length := by omega
   have gz := keepN HKq.out HQ.out.2
   clear HQ
   go_wp2_with fail
   refine (HLs.out _ _ _ (HRp.out _ gz) (HRl.out _ (keepN HK1.out gz))).mono ?_
   rintro e w21 ⟨rfl, k21⟩
   have g21 := keepN gz k21
   clear gz k21
   go_wp2_with fail
   refine (HR.out _ _ _ (HRp.out _ g21)).mono ?_
   rintro e w22 ⟨B22, c22, rfl, o22, k22⟩
   obtain ⟨A22, d22, hv22, hy1, hy2, f22, hy3⟩ := o22.form
   injection hv22 with e1 e2 e3
   subst e1
   clear hy1 hy2 hy3 e2 e3 o22
   have g22 := keepN g21 k22
   clear g21 k22
   go_wp2_with fail
   refine (HRr.out _ (HRl.out _ (keepN HK1.out g22))).mono ?_
   rintro e w23 ⟨B23, c23, rfl, f23, k23⟩
   have g23 := keepN g22 k23
   have rr_23 := f22.keepN k23
   clear g22 k23 f22
   go_wp2_with fail
   refine (HZr.out _ _ _ _ _ rr_23 f23).mono ?_
   rintro e w24 ⟨rfl, k24⟩
   have g24 := keepN g23 k24
   have rr_24 := rr_23.keepN k24
   have rrr_24 := f23.keepN k24
   clear g23 k24 rr_23 f23
   clear rr_24 rrr_24
   go_wp2_with fail
   go_ret
   exact ⟨rfl, keepN HK1.out g24⟩
end Go.Proofs.YtghdibbooegocaaGreatDoor.G

namespace Go.Proofs.YtghdibbooegocaaGreatDoor.O
open Go.ChangeShapes Go.WideShapes Go.ChangeAt Go.RowKit

theorem seatOwn : ownKnob Tryz.prog.godebug = none := by kernel_rfl
theorem seatLaidOut : laidOutB Tryz.prog = true := by kernel_rfl
theorem i64_of_wf {n : Int} (h : (Lit.int .i64 n).wf = true) : I64 n := by
 have hmin : IntKind.i64.min = -9223372036854775808 := rfl
 have hmax : IntKind.i64.max = 9223372036854775807 := rfl
 simp only [Lit.wf, Bool.and_eq_true, decide_eq_true_eq] at h
 unfold I64; omega
section
variable {H : Type} {enc : TypeId × Value → H} {w : World} {base b0 : Nat} {spare : Nat → Bool} {held : Bool} {r : Reach} {v : Value} {d : DataW H} {p : List MemPlace}
end

end Go.Proofs.YtghdibbooegocaaGreatDoor.O

namespace Go.Proofs.YtghdibbooegocaaGreatDoor.C
open Go.ChangeShapes Go.WideShapes Go.ChangeAt Go.RowKit Go.Deep O

theorem addr_of_cell {w : World} {a : Addr} {v : Value} (h : w.cell? a = some v) : a = ⟨a.block, a.off, none⟩ := by
 obtain ⟨b, o, s⟩ := a
 cases s with
 | none => rfl
 | some s => unfold World.cell? at h; split at h <;> simp at h
theorem add_of (b o k : Nat) : (⟨b, o, none⟩ : Addr).add k = ⟨b, o + k, none⟩ := by unfold Addr.add; by_cases hk : k = 0 <;> simp [hk]

section
variable {H : Type} {enc : TypeId × Value → H} {W : World} {base : Nat} {spare : Nat → Bool} {held : Bool} {fuel : Nat} {cs : List Value} {x : DataW H × List MemPlace}
set_option maxRecDepth 100000 in
theorem read_insts (h : DataW.trod enc Tryz.prog W base spare held fuel 22 cs = some x) : ∃ A l c, cs = [.slice A l.length c] ∧ Rd W A (iis l) ∧ l.length ≤ c ∧ c ≤ maxLen ∧ AllI l := by
 rcases open_slice Tryz.underlying22 h with ⟨hcs, _⟩ | ⟨a, len, cap, m, n, D, Pl, hcs, _, hl, hm, hmm, _, hi⟩
 ·exact ⟨none, [], 0, hcs, Rd.none_ _ _, Nat.le_refl _, Nat.zero_le _, fun _ h => by simp at h⟩
 ·have hlm : len ≤ m := by rw [hmm]; split <;> omega
  have cI : Tryz.prog.cellsOf 45 = 3 := by kernel_rfl
  have c3 : Tryz.prog.cellsOf 3 = 1 := by kernel_rfl
  have c2 : Tryz.prog.cellsOf 2 = 1 := by kernel_rfl
  have each : ∀ i : Nat, ∃ v : I3, i < len → W.cell? (a.add (i * 3)) = some (.int .i64 v.1) ∧ W.cell? ((a.add (i * 3)).add 1) = some (.int .i64 v.2.1) ∧ W.cell? ((a.add (i * 3)).add 2) = some (.int .i64 v.2.2) ∧ O.I64 v.2.1 ∧ O.I64 v.2.2 := by
   intro i
   by_cases hlt : i < len
   ·obtain ⟨cs', hc, ht'⟩ := hi i (by omega)
    rw [cI] at hc
    obtain ⟨y0, y1, y2, k, _, hlen, h0, h1, h2⟩ := trod_struct3 Tryz.underlying45 ht'
    obtain ⟨_, hcl, hat⟩ := World.cells?_some hc
    match cs', hcl with
    | [u0, u1, u2], _ =>
     have g0 := hat 0 (by omega)
     have g1 := hat 1 (by omega)
     have g2 := hat 2 (by omega)
     obtain ⟨z0, e0, _, w0⟩ := DataW.trod_int Tryz.underlying3 h0
     obtain ⟨z1, e1, _, w1⟩ := DataW.trod_int Tryz.underlying2 h1
     obtain ⟨z2, e2, _, w2⟩ := DataW.trod_int Tryz.underlying2 h2
     simp [c3] at e0
     simp [c2] at e1
     simp [c2] at e2
     subst e0 e1 e2
     exact ⟨(z0, z1, z2), fun _ => ⟨by simpa [Addr.add] using g0, by simpa using g1, by simpa using g2, i64_of_wf w1, i64_of_wf w2⟩⟩
   ·exact ⟨(0, 0, 0), fun h => absurd h hlt⟩
  obtain ⟨f, hf⟩ := Classical.axiomOfChoice each
  have hlen : ((List.range len).map f).length = len := by simp
  refine ⟨some a, (List.range len).map f, cap, by rw [hlen]; exact hcs, fun h0 => ?_, by rw [hlen]; exact hl, hm, fun v hv => ?_⟩
  ·have h0' : 0 < len := by rw [iis_length, hlen] at h0; omega
   have ea := addr_of_cell (hf 0 h0').1
   have ea' : a = ⟨a.block, a.off, none⟩ := by simpa [Addr.add] using ea
   refine ⟨a.block, a.off, by rw [← ea'], fun j u hu => ?_⟩
   have hj : j < len * 3 := by have := (List.getElem?_eq_some_iff.1 hu).1; rw [iis_length, hlen] at this; exact this
   have hd : j / 3 < len := by omega
   obtain ⟨k0, k1, k2, _⟩ := hf (j / 3) hd
   obtain ⟨q0, q1, q2⟩ := iis_at ((List.range len).map f) (j / 3) (by rw [hlen]; exact hd)
   rw [ea', add_of] at k0 k1 k2
   rw [add_of] at k1 k2
   simp only [List.getElem_map, List.getElem_range] at q0 q1 q2
   have hm3 : j % 3 = 0 ∨ j % 3 = 1 ∨ j % 3 = 2 := by omega
   rcases hm3 with hr | hr | hr
   ·have ej : j = j / 3 * 3 := by omega
    rw [ej, q0] at hu
    rw [ej, k0]; exact hu
   ·have ej : j = j / 3 * 3 + 1 := by omega
    rw [ej, q1] at hu
    rw [ej, ← Nat.add_assoc, k1]; exact hu
   ·have ej : j = j / 3 * 3 + 2 := by omega
    rw [ej, q2] at hu
    rw [ej, ← Nat.add_assoc, k2]; exact hu
  ·obtain ⟨i, hi', rfl⟩ := List.mem_map.1 hv
   exact ⟨(hf i (List.mem_range.1 hi')).2.2.2.1, (hf i (List.mem_range.1 hi')).2.2.2.2⟩
end
section
variable {H : Type} {enc : TypeId × Value → H} {w : World} {base b0 : Nat} {spare : Nat → Bool} {held : Bool} {r : Reach} {v : Value} {d : DataW H} {p : List MemPlace}
set_option maxRecDepth 100000 in
theorem open_insts (hv : Value.okWide Tryz.prog w r b0 22 v) (h : DataW.Trod enc Tryz.prog w base spare held 22 v d p) : ∃ A l c, v = .slice A l.length c ∧ Rd w A (iis l) ∧ l.length ≤ c ∧ c ≤ maxLen ∧ AllI l := by
 obtain ⟨a0, len, cap, rfl⟩ := okWide_slice Tryz.underlying22 hv
 obtain ⟨fuel, hf⟩ := h
 obtain ⟨A, l, c, hcs, hr, hc, hm, hI⟩ := read_insts hf
 simp only [Value.cells, List.cons.injEq, Value.slice.injEq, and_true] at hcs
 obtain ⟨rfl, rfl, rfl⟩ := hcs
 exact ⟨_, l, _, rfl, hr, hc, hm, hI⟩
end

end Go.Proofs.YtghdibbooegocaaGreatDoor.C

namespace Go.Proofs.YtghdibbooegocaaGreatDoor.V
open Go.ChangeShapes Go.WideShapes Go.ChangeAt Go.RowKit

section
variable {H : Type} {enc : TypeId × Value → H} {w : World} {base b0 : Nat} {spare : Nat → Bool} {held : Bool} {r : Reach} {v : Value} {d : DataW H} {p : List MemPlace}
end

end Go.Proofs.YtghdibbooegocaaGreatDoor.V

namespace Go.Proofs.YtghdibbooegocaaGreatDoor.O
open Go.ChangeShapes Go.WideShapes Go.ChangeAt Go.RowKit

theorem handed_and {H : Type} {enc : TypeId × Value → H} {a : Assume} {C : Checked} {os : Os} {f : FuncId} {fn : Func} {s : ChangeSpec} {conds : List PathCond} {apart fresh handsOn again : Bool} {X : World → Array Value → Prop}
  (hX : ∀ (w w' : World) (args : Array Value), w.heap = w'.heap → X w args → X w' args) (own : ownKnob C.prog.godebug = none) (started : os.Started) (noInit : C.prog.inits.idxOf? f = none) (hfn : C.prog.funcs[f]? = some fn)
  (witness : ∃ (w : World) (tape : Tape) (i : Input), w.os = os ∧ (w.forCall tape i).Shaped C.prog ∧ i.vars = [] ∧ Input.okWide C.prog (w.forCall tape i) .any w.heap.size f i ∧
   ((s.pre enc C.prog fn conds apart (w.forCall tape i).memory i.args ∧ X (w.forCall tape i).memory i.args) ∧ sizedMet enc C.prog fn (OpenSpec.ofChange s) apart (w.forCall tape i).memory i.args) ∧ a.holds C.prog (lone (Frame.enter C.prog f i.args .normal) [] (w.forCall tape i)))
  (contract : ∀ (W : World) (base : Nat) (args : Array Value) (ds gs : List (DataW H)) (before : List MemPlace),
   (∀ (j : Nat) t v, fn.params[j]? = some t → args[j]? = some v → Value.okWide C.prog W .any base t v) → DataW.Whole enc C.prog fn.params.toList s.vars apart W args.toList ds gs before →
   W.ShapedOpen C.prog → X W args → Calls C.prog f args W fun e W' => ∃ v, e = .returned v ∧ s.post enc C.prog fn apart fresh handsOn again W args v W') :
  ReturnsInHanded a C os f .any (fun w args => (s.pre enc C.prog fn conds apart w args ∧ X w args) ∧ sizedMet enc C.prog fn (OpenSpec.ofChange s) apart w args) (s.post enc C.prog fn apart fresh handsOn again) := by
 refine returnsInHanded_of_calls own started noInit witness ?_
 intro w tape i _ hsh _ hok hpre _
 obtain ⟨_, _, _, fn', hfn', _, _, _, _, hval⟩ := hok
 obtain rfl : fn' = fn := Option.some.inj (hfn'.symm.trans hfn)
 obtain ⟨⟨⟨ds, gs, before, hw, _⟩, hx⟩, _⟩ := hpre
 refine (contract (w.forCall tape i) w.heap.size i.args ds gs before hval (DataW.Whole.of_heap (w' := w.forCall tape i) (by rfl) hw) hsh (hX _ _ _ (by rfl) hx)).mono fun e W' ⟨v, he, hp⟩ => ?_
 subst he
 exact ChangeSpec.post_blind hp

end Go.Proofs.YtghdibbooegocaaGreatDoor.O
