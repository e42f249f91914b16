/-
  Part 12 of the proofs of GLoopsRow, GReachRow, GMustRow, GNamesRow: what is laid, and what the functions that the law runs answer. Conditions: each theorem names its own.
-/
import Derived.Test.YtghdibbooegocaaGreatDoorQA11
namespace Go.Proofs.YtghdibbooegocaaGreatDoor.G
open Go.RowKit W

theorem fwd_loop {l : List C.I3} {a : Nat} (ha : a ∈ reachL l) (h : FwdP l a) : a ∈ loopL l := by
 obtain ⟨x, hx, hg, ht, hn⟩ := h
 have ho : C.okB l = true := nB_pos (l := l) (by have := reach_nB ha; omega)
 exact loop_forward ho ha hx hg ht hn
def anyB (l : List C.I3) (s : List Nat) (j : Nat) : Bool := (s.take j).any fun x => decide (x ∈ loopL l)
theorem anyB_next {l : List C.I3} {s : List Nat} {j : Nat} (hj : j < s.length) : anyB l s (j + 1) = (anyB l s j || decide (s[j] ∈ loopL l)) := by
 unfold anyB
 rw [List.take_succ_eq_append_getElem hj, List.any_append]
 simp
theorem anyB_all {l : List C.I3} {s : List Nat} {x : Nat} (hx : x ∈ s) (hl : x ∈ loopL l) : anyB l s s.length = true := by
 unfold anyB
 rw [List.take_length, List.any_eq_true]
 exact ⟨x, hx, decide_eq_true hl⟩

set_option maxRecDepth 100000 in
set_option maxHeartbeats 8000000 in
theorem flowLoops_walk (A : Option Addr) (l : List C.I3) (n c : Nat) (w : World) (hr : Rd w A (C.iis l)) (hn : Hid (l.length = n)) (hm : n ≤ 9223372036854775807) (hL0 : O.LaidO w) (hC0 : O.CutAt w) :
  Calls Tryz.prog 7 #[.slice A n c] w fun e w' => e = .returned (.bool true) ∧ Keep NoB w w' := by
 have HAl := Lib.hid (alive_any w hL0 hC0)
 have HR := Lib.hid (fun W (hk : Keep NoB w W) => hr.keepN hk)
 clear hr hL0 hC0
 by_cases h60 : 60 < n
 ·have q1 : (60 : Int) < (n : Int) := by omega
  clear HR
  go_enter Tryz.func7, Tryz.ntmps7
  go_wp2_with fail
  refine HAl.out.mono ?_
  rintro e w1 ⟨rfl, k1⟩
  go_wp2_with fail
  go_ret
  exact ⟨rfl, k1⟩
 have q1 : ¬ (60 : Int) < (n : Int) := by omega
 cases ho : C.okB l with
 | false =>
  have HCk := Lib.hid (fun w hr => C.cchk_any A l n c w hr hn hm 50 (C.chkB_no ho))
  clear ho
  go_enter Tryz.func7, Tryz.ntmps7
  go_wp2_with fail
  refine HAl.out.mono ?_
  rintro e w1 ⟨rfl, k1⟩
  go_wp2_with fail
  refine (HCk.out _ (HR.out _ k1)).mono ?_
  rintro e w2 ⟨rfl, k2⟩
  have k12 := keepN k1 k2
  clear k1 k2
  go_wp2_with fail
  go_ret
  exact ⟨rfl, k12⟩
 | true =>
  have HCk := Lib.hid (fun w hr => C.cchk_any A l n c w hr hn hm 0 (C.chkB_ok ho))
  have HO := Lib.hid ho
  clear ho
  go_enter Tryz.func7, Tryz.ntmps7
  go_wp2_with fail
  refine HAl.out.mono ?_
  rintro e w1 ⟨rfl, k1⟩
  go_wp2_with fail
  refine (HCk.out _ (HR.out _ k1)).mono ?_
  rintro e w2 ⟨rfl, k2⟩
  have k12 := keepN k1 k2
  clear k1 k2 HCk HAl
  go_wp2_with fail
  refine (fLoops_any A l n c w2 (HR.out _ k12) hn hm).mono ?_
  rintro e w3 ⟨B3, c3, rfl, o3, k3⟩
  obtain ⟨A3, c3', hv3, hy1, hy2, r3, hy3⟩ := o3.form
  injection hv3 with e1 e2 e3
  subst e1
  have k13 := keepN k12 k3
  clear hy1 hy2 hy3 e2 e3 o3 k12 k3
  go_wp2_with fail
  refine (fMeets_any A l n c w3 (HR.out _ k13) hn hm).mono ?_
  rintro e w4 ⟨B4, c4, rfl, o4, k4⟩
  obtain ⟨A4, c4', hv4, hy1, hy2, r4, hy3⟩ := o4.form
  injection hv4 with e1 e2 e3
  subst e1
  have k14 := keepN k13 k4
  have r34 := r3.keepN k4
  clear hy1 hy2 hy3 e2 e3 o4 k13 k4 r3
  go_wp2_with fail
  refine (fReached_any A l n c w4 (HR.out _ k14) hn hm).mono ?_
  rintro e w5 ⟨B5, c5, rfl, o5, k5⟩
  obtain ⟨A5, c5', hv5, hy1, hy2, r5, hy3⟩ := o5.form
  injection hv5 with e1 e2 e3
  subst e1
  have HI : Hid (Keep NoB w w5 ∧ Rd w5 B3 (ivs (nz (loopL l))) ∧ Rd w5 B4 (ivs (nz (meetL l))) ∧ Rd w5 B5 (ivs (nz (reachL l)))) := ⟨keepN k14 k5, r34.keepN k5, r4.keepN k5, r5⟩
  have HLL : Hid ((loopL l).length ≤ 1000 ∧ (meetL l).length ≤ 1000) := by
   have h1 : (reachL l).length ≤ 1000 := nodup_len 1000 _ ((rise_filter (b := l)).imp (fun h => Nat.ne_of_lt h)) fun x hx => reach_b hx
   exact ⟨Nat.le_trans (List.length_filter_le _ _) h1, Nat.le_trans (List.length_filter_le _ _) h1⟩
  obtain ⟨lo, hlo⟩ : ∃ lo, (loopL l).length = lo := ⟨_, rfl⟩
  obtain ⟨me, hme⟩ : ∃ me, (meetL l).length = me := ⟨_, rfl⟩
  obtain ⟨re, hre⟩ : ∃ re, (reachL l).length = re := ⟨_, rfl⟩
  have HLo := Lib.hid hlo
  have HMe := Lib.hid hme
  have HRe := Lib.hid hre
  have hrb : re ≤ 1000 := by
   rw [← hre]
   exact nodup_len 1000 _ ((rise_filter (b := l)).imp (fun h => Nat.ne_of_lt h)) fun x hx => reach_b hx
  rw [hlo, hme, hre]
  clear hy1 hy2 hy3 e2 e3 o5 k14 k5 r34 r4 r5 hlo hme hre
  go_wp2_with fail
  go_loopw [36] (fun i wr => ∃ k : Nat, k ≤ re ∧ i = .int .i64 (k : Int) ∧ Hid (Keep NoB w wr ∧ Rd wr B3 (ivs (nz (loopL l))) ∧ Rd wr B4 (ivs (nz (meetL l))) ∧ Rd wr B5 (ivs (nz (reachL l))))) (fun i _ => re - (intOf i).toNat)
  case atStart => exact ⟨0, Nat.zero_le _, rfl, HI.out⟩
  case round =>
   obtain ⟨k, hk, rfl, HQ⟩ := hrel
   clear HI
   by_cases hlt : k < re
   ·have hkl : k < (reachL l).length := by rw [HRe.out]; exact hlt
    obtain ⟨g, o, rfl, hc⟩ := rd_steps HQ.out.2.2.2 (by omega)
    have hz := List.getElem?_eq_getElem hkl
    have cz := hc k _ hz
    have har : (reachL l)[k] ∈ reachL l := List.getElem_mem hkl
    generalize (reachL l)[k] = a at cz har
    have HAr := Lib.hid har
    have hal : a < l.length := reach_lt HO.out har
    have hb := inN_some hal HO.out
    have hat := atN_of har
    have hah : aheadI l (a : Int) = aheadL l a ∧ errI l (a : Int) = 0 := ⟨by unfold aheadI; rw [hat], by unfold errI; rw [hat]; rfl⟩
    have han : a < n := by rw [← hn.out]; exact hal
    have hwa := wfN (x := a) (by omega)
    have HBe := Lib.hid (fBehind_any A l n c (a : Int) wr (HR.out _ HQ.out.1) hn hm)
    rw [hb.1, hb.2] at HBe
    clear hz hc hal hb hat har
    go_wp2_with fail
    refine HBe.out.mono ?_
    rintro e w6 ⟨B6, c6, rfl, r6, k6⟩
    have HAh := Lib.hid (fAhead_any A l n c (a : Int) w6 (HR.out _ (keepN HQ.out.1 k6)) hn hm hwa)
    rw [hah.1, hah.2] at HAh
    clear HBe hah
    go_wp2_with fail
    refine HAh.out.mono ?_
    rintro e w7 ⟨B7, c7, rfl, r7, k7⟩
    have k67 := keepN k6 k7
    have HS : Hid (Keep NoB w w7 ∧ Rd w7 B3 (ivs (nz (loopL l))) ∧ Rd w7 B4 (ivs (nz (meetL l))) ∧ Rd w7 (some ⟨g, o, none⟩) (ivs (nz (reachL l)))) := ⟨keepN HQ.out.1 k67, HQ.out.2.1.keepN k67, HQ.out.2.2.1.keepN k67, HQ.out.2.2.2.keepN k67⟩
    have HRs := Lib.hid (r6.keepN k7)
    obtain ⟨ln, hln⟩ : ∃ ln, (stepsG l a).length = ln := ⟨_, rfl⟩
    have HLn := Lib.hid hln
    have hl2 : ln ≤ 2 := by
     have h := nB_len (l := l) a (reach_nB HAr.out)
     omega
    rw [hln]
    obtain ⟨la, hla⟩ : ∃ la, (aheadL l a).length = la := ⟨_, rfl⟩
    have HLa := Lib.hid hla
    rw [hla]
    clear HQ HAh r6 r7 k6 k7 k67 hln hla cz
    go_wp2_with fail
    go_loopw [12, 54] (fun s i w8 => ∃ j : Nat, j ≤ ln ∧ i = .int .i64 (j : Int) ∧ s = .bool (anyB l (stepsG l a) j) ∧ w8 = w7) (fun _ i _ => ln - (intOf i).toNat)
    case atStart => exact ⟨0, Nat.zero_le _, rfl, rfl, rfl⟩
    case round =>
     obtain ⟨j, hj, rfl, rfl, rfl⟩ := hrel
     by_cases hlt' : j < ln
     ·have hjl : j < (stepsG l a).length := by rw [HLn.out]; exact hlt'
      obtain ⟨gs, os, rfl, hcs⟩ := rd_steps HRs.out (by omega)
      have hz := List.getElem?_eq_getElem hjl
      have cz := hcs j _ hz
      have hnx := anyB_next (l := l) hjl
      have HH := Lib.hid (fun x => has_any B3 c3 (loopL l) x wr HS.out.2.1 (by have := HLL.out.1; omega))
      rw [HLo.out] at HH
      have HHz := Lib.hid (HH.out ((stepsG l a)[j] : Int))
      rw [contains_dec] at HHz
      generalize decide ((stepsG l a)[j] ∈ loopL l) = dz at hnx HHz
      generalize (stepsG l a)[j] = z at cz HHz
      have HNx := Lib.hid hnx
      clear hz hcs hnx
      cases hab : anyB l (stepsG l a) j with
      | true =>
       rw [hab] at HNx
       clear hab
       go_wp2_with fail
       go_roundw
       case rel => exact ⟨j + 1, by omega, by go_num, by rw [HNx.out]; rfl, trivial⟩
       case measure => simp [intOf]; omega
      | false =>
       rw [hab] at HNx
       clear hab
       go_wp2_with fail
       refine HHz.out.mono ?_
       rintro e w9 ⟨rfl, rfl⟩
       go_wp2_with fail
       go_roundw
       case rel => exact ⟨j + 1, by omega, by go_num, by rw [HNx.out]; simp, trivial⟩
       case measure => simp [intOf]; omega
     ·have hje : j = ln := by omega
      clear hj hlt' hl2
      subst hje
      have HF := Lib.hid (forward_any A l n c a wr (HR.out _ HS.out.1) hn han (by omega))
      have HHa := Lib.hid (has_any B3 c3 (loopL l) (a : Int) wr HS.out.2.1 (by have := HLL.out.1; omega))
      rw [HLo.out, contains_dec] at HHa
      have HMm := Lib.hid (fun (W : World) (k : Keep NoB wr W) => has_any B4 c4 (meetL l) (a : Int) W (HS.out.2.2.1.keepN k) (by have := HLL.out.2; omega))
      have hmd : decide (a ∈ meetL l) = decide (1 < la ∨ la = 1 ∧ a = 0) := by
       rw [decide_eq_decide, meet_mem, HLa.out]
       exact ⟨fun h => h.2, fun h => ⟨HAr.out, h⟩⟩
      rw [HMe.out, contains_dec, hmd] at HMm
      clear hmd
      cases hlp : decide (a ∈ loopL l) with
      | true =>
       have hin : a ∈ loopL l := of_decide_eq_true hlp
       have hany : anyB l (stepsG l a) j = true := by
        obtain ⟨x, hx, hl⟩ := loop_next HO.out hin
        have := anyB_all (l := l) hx hl
        rw [HLn.out] at this
        exact this
       rw [hlp] at HHa
       rw [hany]
       have HLp := Lib.hid hlp
       clear hlp hin hany
       go_wp2_with fail
       refine HHa.out.mono ?_
       rintro e w8 ⟨rfl, rfl⟩
       go_wp2_with fail
       refine HF.out.mono ?_
       rintro e w8 ⟨fb, rfl, -, k8⟩
       have HH8 := Lib.hid (has_any B3 c3 (loopL l) (a : Int) w8 (HS.out.2.1.keepN k8) (by have := HLL.out.1; omega))
       rw [HLo.out, contains_dec, HLp.out] at HH8
       cases fb with
       | true =>
        go_wp2_with fail
        refine HH8.out.mono ?_
        rintro e w9 ⟨rfl, rfl⟩
        go_wp2_with fail
        refine (HMm.out _ k8).mono ?_
        rintro e w9 ⟨rfl, rfl⟩
        have HQ2 : Hid (Keep NoB w w9 ∧ Rd w9 B3 (ivs (nz (loopL l))) ∧ Rd w9 B4 (ivs (nz (meetL l))) ∧ Rd w9 (some ⟨g, o, none⟩) (ivs (nz (reachL l)))) := ⟨keepN HS.out.1 k8, HS.out.2.1.keepN k8, HS.out.2.2.1.keepN k8, HS.out.2.2.2.keepN k8⟩
        clear HMm HF HHa HH8 HS k8
        by_cases c1 : 1 < la
        ·have q2 : (1 : Int) < (la : Int) := by omega
         simp only [c1, true_or, decide_true]
         go_wp2_with fail
         go_roundw
         case rel => exact ⟨k + 1, by omega, by go_num, HQ2⟩
         case measure => simp [intOf]; omega
        ·have q2 : ¬ (1 : Int) < (la : Int) := by omega
         by_cases c2 : la = 1
         ·have q3 : (la : Int) = 1 := by omega
          by_cases c3' : a = 0
          ·have q4 : (a : Int) = 0 := by omega
           simp only [c2, c3', and_self, or_true, decide_true]
           go_wp2_with fail
           go_roundw
           case rel => exact ⟨k + 1, by omega, by go_num, HQ2⟩
           case measure => simp [intOf]; omega
          ·have q4 : ¬ (a : Int) = 0 := by omega
           simp only [c2, c3', and_false, or_false]
           go_wp2_with fail
           go_roundw
           case rel => exact ⟨k + 1, by omega, by go_num, HQ2⟩
           case measure => simp [intOf]; omega
         ·have q3 : ¬ (la : Int) = 1 := by omega
          simp only [c1, c2, false_and, or_false, decide_false]
          go_wp2_with fail
          go_roundw
          case rel => exact ⟨k + 1, by omega, by go_num, HQ2⟩
          case measure => simp [intOf]; omega
       | false =>
        go_wp2_with fail
        refine (HMm.out _ k8).mono ?_
        rintro e w9 ⟨rfl, rfl⟩
        have HQ2 : Hid (Keep NoB w w9 ∧ Rd w9 B3 (ivs (nz (loopL l))) ∧ Rd w9 B4 (ivs (nz (meetL l))) ∧ Rd w9 (some ⟨g, o, none⟩) (ivs (nz (reachL l)))) := ⟨keepN HS.out.1 k8, HS.out.2.1.keepN k8, HS.out.2.2.1.keepN k8, HS.out.2.2.2.keepN k8⟩
        clear HMm HF HHa HH8 HS k8
        by_cases c1 : 1 < la
        ·have q2 : (1 : Int) < (la : Int) := by omega
         simp only [c1, true_or, decide_true]
         go_wp2_with fail
         go_roundw
         case rel => exact ⟨k + 1, by omega, by go_num, HQ2⟩
         case measure => simp [intOf]; omega
        ·have q2 : ¬ (1 : Int) < (la : Int) := by omega
         by_cases c2 : la = 1
         ·have q3 : (la : Int) = 1 := by omega
          by_cases c3' : a = 0
          ·have q4 : (a : Int) = 0 := by omega
           simp only [c2, c3', and_self, or_true, decide_true]
           go_wp2_with fail
           go_roundw
           case rel => exact ⟨k + 1, by omega, by go_num, HQ2⟩
           case measure => simp [intOf]; omega
          ·have q4 : ¬ (a : Int) = 0 := by omega
           simp only [c2, c3', and_false, or_false]
           go_wp2_with fail
           go_roundw
           case rel => exact ⟨k + 1, by omega, by go_num, HQ2⟩
           case measure => simp [intOf]; omega
         ·have q3 : ¬ (la : Int) = 1 := by omega
          simp only [c1, c2, false_and, or_false, decide_false]
          go_wp2_with fail
          go_roundw
          case rel => exact ⟨k + 1, by omega, by go_num, HQ2⟩
          case measure => simp [intOf]; omega
      | false =>
       have hin : a ∉ loopL l := of_decide_eq_false hlp
       rw [hlp] at HHa
       clear hlp
       go_wp2_with fail
       refine HHa.out.mono ?_
       rintro e w8 ⟨rfl, rfl⟩
       go_wp2_with fail
       refine HF.out.mono ?_
       rintro e w8 ⟨fb, rfl, hfb, k8⟩
       cases fb with
       | true => exact absurd (fwd_loop HAr.out (hfb rfl)) hin
       | false =>
        clear hfb hin
        have HH8 := HHa
        go_wp2_with fail
        refine (HMm.out _ k8).mono ?_
        rintro e w9 ⟨rfl, rfl⟩
        have HQ2 : Hid (Keep NoB w w9 ∧ Rd w9 B3 (ivs (nz (loopL l))) ∧ Rd w9 B4 (ivs (nz (meetL l))) ∧ Rd w9 (some ⟨g, o, none⟩) (ivs (nz (reachL l)))) := ⟨keepN HS.out.1 k8, HS.out.2.1.keepN k8, HS.out.2.2.1.keepN k8, HS.out.2.2.2.keepN k8⟩
        clear HMm HF HHa HH8 HS k8
        by_cases c1 : 1 < la
        ·have q2 : (1 : Int) < (la : Int) := by omega
         simp only [c1, true_or, decide_true]
         go_wp2_with fail
         go_roundw
         case rel => exact ⟨k + 1, by omega, by go_num, HQ2⟩
         case measure => simp [intOf]; omega
        ·have q2 : ¬ (1 : Int) < (la : Int) := by omega
         by_cases c2 : la = 1
         ·have q3 : (la : Int) = 1 := by omega
          by_cases c3' : a = 0
          ·have q4 : (a : Int) = 0 := by omega
           simp only [c2, c3', and_self, or_true, decide_true]
           go_wp2_with fail
           go_roundw
           case rel => exact ⟨k + 1, by omega, by go_num, HQ2⟩
           case measure => simp [intOf]; omega
          ·have q4 : ¬ (a : Int) = 0 := by omega
           simp only [c2, c3', and_false, or_false]
           go_wp2_with fail
           go_roundw
           case rel => exact ⟨k + 1, by omega, by go_num, HQ2⟩
           case measure => simp [intOf]; omega
         ·have q3 : ¬ (la : Int) = 1 := by omega
          simp only [c1, c2, false_and, or_false, decide_false]
          go_wp2_with fail
          go_roundw
          case rel => exact ⟨k + 1, by omega, by go_num, HQ2⟩
          case measure => simp [intOf]; omega
   ·obtain rfl : k = re := by omega
    have HK := Lib.hid HQ.out.1
    clear HQ
    go_wp2_with fail
    go_ret
    exact ⟨rfl, HK.out⟩
end Go.Proofs.YtghdibbooegocaaGreatDoor.G
