/-
  Part 14 of the proofs of GLoopsRow, GReachRow, GMustRow, GNamesRow: what is laid, and what the functions that the law runs answer. Conditions: each theorem names its own.
-/
import Derived.Test.YtghdibbooegocaaGreatDoorQA11
namespace Go.Proofs.YtghdibbooegocaaGreatDoor.G
open Go.RowKit W

def anyD (l : List C.I3) (i : Nat) (D : Int) (k : Nat) : Bool := decide ((i : Int) = 0) || ((reachL l).take k).any fun x => decide (i ∈ stepsG l x) && decide (distL l x + 1 = D)
theorem anyD_zero (l : List C.I3) (i : Nat) (D : Int) : anyD l i D 0 = decide ((i : Int) = 0) := by
 unfold anyD
 simp
theorem anyD_next {l : List C.I3} {i : Nat} {D : Int} {k : Nat} (hk : k < (reachL l).length) : anyD l i D (k + 1) = (anyD l i D k || (decide (i ∈ stepsG l (reachL l)[k]) && decide (distL l (reachL l)[k] + 1 = D))) := by
 unfold anyD
 rw [List.take_succ_eq_append_getElem hk, List.any_append, Bool.or_assoc]
 simp
theorem anyD_all {l : List C.I3} {i : Nat} (ho : C.okB l = true) (hi : i < l.length) : anyD l i (distI l (i : Int)) (reachL l).length = decide (i ∈ reachL l) := by
 rw [Bool.eq_iff_iff, decide_eq_true_iff]
 unfold anyD
 rw [List.take_length, Bool.or_eq_true, decide_eq_true_iff, List.any_eq_true]
 constructor
 ·rintro (h | ⟨x, hx, h⟩)
  ·obtain rfl : i = 0 := by omega
   exact reach_zero ho
  ·rw [Bool.and_eq_true, decide_eq_true_iff] at h
   exact reach_next ho hx h.1
 ·intro h
  by_cases h0 : i = 0
  ·exact .inl (by omega)
  ·obtain ⟨x, hx, hs, hd⟩ := dist_pre ho h h0
   refine .inr ⟨x, hx, ?_⟩
   unfold distI
   rw [atN_of h]
   simp [hs, hd]
theorem dist_bd {l : List C.I3} {x : Nat} (ho : C.okB l = true) (hx : x ∈ reachL l) : ∃ d : Nat, distL l x = (d : Int) ∧ d < l.length := by
 obtain ⟨k, hk, hd⟩ := dist_some ho hx
 exact ⟨k, hk, dist_lt (fun y hy => hy.1) hd⟩
theorem reach_none {l : List C.I3} (ho : C.okB l = false) : reachL l = [] := by
 unfold reachL
 rw [if_neg (by rw [ho]; decide)]
theorem errI_eq (l : List C.I3) (i : Nat) : errI l (i : Int) = if i ∈ reachL l then 0 else 110 := by
 by_cases h : i ∈ reachL l
 ·unfold errI
  rw [atN_of h, if_pos h]
  rfl
 ·have : atN l (i : Int) = none := by
   unfold atN
   rw [if_neg (fun c => h (by simpa using c.2))]
  unfold errI
  rw [this, if_neg h]
  rfl
theorem distI_of {l : List C.I3} {i : Nat} (h : i ∈ reachL l) : distI l (i : Int) = distL l i := by unfold distI; rw [atN_of h]
theorem distI_no {l : List C.I3} {i : Nat} (h : i ∉ reachL l) : distI l (i : Int) = 0 := by
 have : atN l (i : Int) = none := by
  unfold atN
  rw [if_neg (fun c => h (by simpa using c.2))]
 unfold distI
 rw [this]

set_option maxRecDepth 100000 in
set_option maxHeartbeats 8000000 in
theorem flowReached_walk (A : Option Addr) (l : List C.I3) (n c : Nat) (w : World) (hr : Rd w A (C.iis l)) (hn : Hid (l.length = n)) (hm : n ≤ 9223372036854775807) (hL0 : O.LaidO w) (hC0 : O.CutAt w) :
  Calls Tryz.prog 5 #[.slice A n c] w fun e w' => e = .returned (.bool true) ∧ Keep NoB w w' := by
 have HAl := Lib.hid (alive_any w hL0 hC0)
 have HR := Lib.hid (fun W (hk : Keep NoB w W) => hr.keepN hk)
 have hrb0 : (reachL l).length ≤ 1000 := nodup_len 1000 _ ((rise_filter (b := l)).imp (fun h => Nat.ne_of_lt h)) fun x hx => reach_b hx
 clear hr hL0 hC0
 by_cases h60 : 60 < n
 ·have q1 : (60 : Int) < (n : Int) := by omega
  go_enter Tryz.func5, Tryz.ntmps5
  go_wp2_with fail
  refine HAl.out.mono ?_
  rintro e w1 ⟨rfl, k1⟩
  go_wp2_with fail
  refine (fReached_any A l n c w1 (HR.out _ k1) hn hm).mono ?_
  rintro e w2 ⟨B2, c2, rfl, o2, k2⟩
  have k12 := keepN k1 k2
  clear o2 k1 k2 HR
  go_wp2_with fail
  go_ret
  exact ⟨rfl, k12⟩
 have q1 : ¬ (60 : Int) < (n : Int) := by omega
 cases ho : C.okB l with
 | false =>
  have HCk := Lib.hid (fun w hr => C.cchk_any A l n c w hr hn hm 50 (C.chkB_no ho))
  have HZ := Lib.hid (reach_none ho)
  clear ho
  go_enter Tryz.func5, Tryz.ntmps5
  go_wp2_with fail
  refine HAl.out.mono ?_
  rintro e w1 ⟨rfl, k1⟩
  go_wp2_with fail
  refine (fReached_any A l n c w1 (HR.out _ k1) hn hm).mono ?_
  rintro e w2 ⟨B2, c2, rfl, o2, k2⟩
  have k12 := keepN k1 k2
  rw [HZ.out]
  clear o2 k1 k2
  go_wp2_with fail
  refine (HCk.out _ (HR.out _ k12)).mono ?_
  rintro e w3 ⟨rfl, k3⟩
  have k13 := keepN k12 k3
  clear k12 k3
  go_wp2_with fail
  go_ret
  exact ⟨rfl, k13⟩
 | true =>
  have HCk := Lib.hid (fun w hr => C.cchk_any A l n c w hr hn hm 0 (C.chkB_ok ho))
  have HO := Lib.hid ho
  clear ho
  go_enter Tryz.func5, Tryz.ntmps5
  go_wp2_with fail
  refine HAl.out.mono ?_
  rintro e w1 ⟨rfl, k1⟩
  go_wp2_with fail
  refine (fReached_any A l n c w1 (HR.out _ k1) hn hm).mono ?_
  rintro e w2 ⟨B2, c2, rfl, o2, k2⟩
  obtain ⟨A2, c2', hv2, hy1, hy2, r2, hy3⟩ := o2.form
  injection hv2 with e1 e2 e3
  subst e1
  have k12 := keepN k1 k2
  obtain ⟨re, hre⟩ : ∃ re, (reachL l).length = re := ⟨_, rfl⟩
  have HRe := Lib.hid hre
  rw [hre]
  rw [hre] at hrb0
  clear hy1 hy2 hy3 e2 e3 o2 k1 k2 hre HAl
  go_wp2_with fail
  refine (HCk.out _ (HR.out _ k12)).mono ?_
  rintro e w3 ⟨rfl, k3⟩
  have k13 := keepN k12 k3
  have r3 := r2.keepN k3
  have HZ := Lib.hid (has_any B2 c2 (reachL l) 0 w3 r3 (by rw [HRe.out]; omega))
  rw [HRe.out, show ((0 : Int)) = ((0 : Nat) : Int) from rfl, contains_dec, decide_eq_true (reach_zero HO.out)] at HZ
  have HI : Hid (Keep NoB w w3 ∧ Rd w3 B2 (ivs (nz (reachL l)))) := ⟨k13, r3⟩
  clear HCk k12 k3 k13 r2 r3
  go_wp2_with fail
  refine HZ.out.mono ?_
  rintro e w4 ⟨rfl, rfl⟩
  clear HZ
  go_wp2_with fail
  go_loopw [51] (fun i wr => ∃ k : Nat, k ≤ n ∧ i = .int .i64 (k : Int) ∧ Hid (Keep NoB w wr ∧ Rd wr B2 (ivs (nz (reachL l))))) (fun i _ => n - (intOf i).toNat)
  case atStart => exact ⟨0, Nat.zero_le _, rfl, HI.out⟩
  case round =>
   obtain ⟨i, hi, rfl, HQ⟩ := hrel
   clear HI
   by_cases hlt : i < n
   ·have hwi := wfN (x := i) (by omega)
    have HD := Lib.hid (fDistance_any A l n c (i : Int) wr (HR.out _ HQ.out.1) hn hm hwi)
    obtain ⟨D, hD⟩ : ∃ D, distI l (i : Int) = D := ⟨_, rfl⟩
    have HDe := Lib.hid hD
    have hE := errI_eq l i
    rw [hD, hE] at HD
    have HAll := Lib.hid (anyD_all (i := i) HO.out (by rw [hn.out]; exact hlt))
    rw [hD, HRe.out] at HAll
    obtain ⟨z, hz⟩ : ∃ z, decide (i ∈ reachL l) = z := ⟨_, rfl⟩
    have HZ := Lib.hid hz
    rw [hz] at HAll
    have HH := Lib.hid (fun (W : World) (r : Rd W B2 (ivs (nz (reachL l)))) => has_any B2 c2 (reachL l) (i : Int) W r (by rw [HRe.out]; omega))
    rw [HRe.out, contains_dec, hz] at HH
    have hez : (if i ∈ reachL l then (0 : Int) else 110) = if z = true then 0 else 110 := by rw [← hz]; simp
    rw [hez] at HD
    have hdr : 0 ≤ D ∧ D ≤ 60 := by
     rw [← hD]
     by_cases hin : i ∈ reachL l
     ·obtain ⟨d, hd, hd2⟩ := dist_bd HO.out hin
      rw [distI_of hin, hd]
      have := hn.out
      omega
     ·rw [distI_no hin]
      omega
    clear hD hE hz hez
    go_wp2_with fail
    refine HD.out.mono ?_
    rintro e w5 ⟨rfl, k5⟩
    have HQ5 : Hid (Keep NoB w w5 ∧ Rd w5 B2 (ivs (nz (reachL l)))) := ⟨keepN HQ.out.1 k5, HQ.out.2.keepN k5⟩
    clear HD HQ k5
    cases z with
    | true =>
     go_wp2_with fail
     refine (HH.out _ HQ5.out.2).mono ?_
     rintro e w6 ⟨rfl, rfl⟩
     go_wp2_with fail
     go_loopw [8, 70] (fun s t w8 => ∃ k : Nat, k ≤ re ∧ t = .int .i64 (k : Int) ∧ s = .bool (anyD l i D k) ∧ Hid (Keep NoB w w8 ∧ Rd w8 B2 (ivs (nz (reachL l))))) (fun _ t _ => re - (intOf t).toNat)
     case atStart => exact ⟨0, Nat.zero_le _, rfl, by rw [anyD_zero]; rfl, HQ5.out⟩
     case round =>
      obtain ⟨k, hk, rfl, rfl, HQ⟩ := hrel
      clear HQ5
      by_cases hlt' : k < re
      ·have hkl : k < (reachL l).length := by rw [HRe.out]; exact hlt'
       obtain ⟨g, o, rfl, hc⟩ := rd_steps HQ.out.2 (by omega)
       have hz := List.getElem?_eq_getElem hkl
       have cz := hc k _ hz
       have hnx := anyD_next (i := i) (D := D) hkl
       have hxr : (reachL l)[k] ∈ reachL l := List.getElem_mem hkl
       generalize (reachL l)[k] = x at cz hxr hnx
       have HNx := Lib.hid hnx
       have HXr := Lib.hid hxr
       have hxl : x < l.length := reach_lt HO.out hxr
       have hxn : x < n := by rw [← hn.out]; exact hxl
       have hwx := wfN (x := x) (by omega)
       have hb := inN_some hxl HO.out
       have HBe := Lib.hid (fBehind_any A l n c (x : Int) wr (HR.out _ HQ.out.1) hn hm)
       rw [hb.1, hb.2] at HBe
       clear hz hc hxl hb hxr hnx
       go_wp2_with fail
       refine HBe.out.mono ?_
       rintro e w6 ⟨B6, c6, rfl, r6, k6⟩
       have HDx := Lib.hid (fDistance_any A l n c (x : Int) w6 (HR.out _ (keepN HQ.out.1 k6)) hn hm hwx)
       rw [distI_of HXr.out, errI_eq, if_pos HXr.out] at HDx
       obtain ⟨d, hd, hdl⟩ := dist_bd HO.out HXr.out
       have HDd := Lib.hid hd
       rw [hn.out] at hdl
       rw [hd] at HDx
       have hsl : (stepsG l x).length ≤ 2 := nB_len (l := l) x (reach_nB HXr.out)
       clear HBe hd
       go_wp2_with fail
       refine HDx.out.mono ?_
       rintro e w7 ⟨rfl, k7⟩
       have k67 := keepN k6 k7
       have HS : Hid (Keep NoB w w7 ∧ Rd w7 (some ⟨g, o, none⟩) (ivs (nz (reachL l)))) := ⟨keepN HQ.out.1 k67, HQ.out.2.keepN k67⟩
       have HHs := Lib.hid (has_any B6 c6 (stepsG l x) (i : Int) w7 (r6.keepN k7) (by omega))
       rw [contains_dec] at HHs
       have HH7 := Lib.hid (HH.out w7 HS.out.2)
       have HRq := Lib.hid HS.out.1
       clear HQ HDx r6 k6 k7 k67 cz hwx
       rw [HDd.out] at HNx
       cases hs : decide (i ∈ stepsG l x) with
       | true =>
        have hin : i ∈ reachL l := reach_next HO.out HXr.out (of_decide_eq_true hs)
        have hle : D ≤ (d : Int) + 1 := by
         have h := dist_step HO.out HXr.out (of_decide_eq_true hs)
         rw [← distI_of hin, HDe.out, HDd.out] at h
         exact h
        rw [hs] at HHs HNx
        clear hs hin
        go_wp2_with fail
        refine HHs.out.mono ?_
        rintro e w9 ⟨rfl, rfl⟩
        go_wp2_with fail
        refine HH7.out.mono ?_
        rintro e w9 ⟨rfl, rfl⟩
        cases ha : anyD l i D k with
        | true =>
         rw [ha] at HNx
         clear ha
         go_wp2_with fail
         go_roundw
         case rel => exact ⟨k + 1, by omega, by go_num, by rw [HNx.out]; rfl, HS.out⟩
         case measure => simp [intOf]; omega
        | false =>
         rw [ha] at HNx
         clear ha
         go_wp2_with fail
         refine HHs.out.mono ?_
         rintro e w9 ⟨rfl, rfl⟩
         go_wp2_with fail
         go_roundw
         case rel => exact ⟨k + 1, by omega, by go_num, by rw [HNx.out]; rfl, HS.out⟩
         case measure => simp [intOf]; omega
       | false =>
        rw [hs] at HHs HNx
        clear hs
        go_wp2_with fail
        refine HHs.out.mono ?_
        rintro e w9 ⟨rfl, rfl⟩
        cases ha : anyD l i D k with
        | true =>
         rw [ha] at HNx
         clear ha
         go_wp2_with fail
         go_roundw
         case rel => exact ⟨k + 1, by omega, by go_num, by rw [HNx.out]; rfl, HS.out⟩
         case measure => simp [intOf]; omega
        | false =>
         rw [ha] at HNx
         clear ha
         go_wp2_with fail
         refine HHs.out.mono ?_
         rintro e w9 ⟨rfl, rfl⟩
         go_wp2_with fail
         go_roundw
         case rel => exact ⟨k + 1, by omega, by go_num, by rw [HNx.out]; simp, HS.out⟩
         case measure => simp [intOf]; omega
      ·have hke : k = re := by omega
       subst hke
       rw [HAll.out]
       have HH7 := Lib.hid (HH.out wr HQ.out.2)
       have HQ9 := HQ
       clear HQ hlt' hk
       go_wp2_with fail
       refine HH7.out.mono ?_
       rintro e w9 ⟨rfl, rfl⟩
       go_wp2_with fail
       go_roundw
       case rel => exact ⟨i + 1, by omega, by go_num, HQ9⟩
       case measure => simp [intOf]; omega
    | false =>
     go_wp2_with fail
     refine (HH.out _ HQ5.out.2).mono ?_
     rintro e w6 ⟨rfl, rfl⟩
     go_wp2_with fail
     go_loopw [8, 70] (fun s t w8 => ∃ k : Nat, k ≤ re ∧ t = .int .i64 (k : Int) ∧ s = .bool (anyD l i D k) ∧ Hid (Keep NoB w w8 ∧ Rd w8 B2 (ivs (nz (reachL l))))) (fun _ t _ => re - (intOf t).toNat)
     case atStart => exact ⟨0, Nat.zero_le _, rfl, by rw [anyD_zero]; rfl, HQ5.out⟩
     case round =>
      obtain ⟨k, hk, rfl, rfl, HQ⟩ := hrel
      clear HQ5
      by_cases hlt' : k < re
      ·have hkl : k < (reachL l).length := by rw [HRe.out]; exact hlt'
       obtain ⟨g, o, rfl, hc⟩ := rd_steps HQ.out.2 (by omega)
       have hz := List.getElem?_eq_getElem hkl
       have cz := hc k _ hz
       have hnx := anyD_next (i := i) (D := D) hkl
       have hxr : (reachL l)[k] ∈ reachL l := List.getElem_mem hkl
       generalize (reachL l)[k] = x at cz hxr hnx
       have HNx := Lib.hid hnx
       have HXr := Lib.hid hxr
       have hxl : x < l.length := reach_lt HO.out hxr
       have hxn : x < n := by rw [← hn.out]; exact hxl
       have hwx := wfN (x := x) (by omega)
       have hb := inN_some hxl HO.out
       have HBe := Lib.hid (fBehind_any A l n c (x : Int) wr (HR.out _ HQ.out.1) hn hm)
       rw [hb.1, hb.2] at HBe
       clear hz hc hxl hb hxr hnx
       go_wp2_with fail
       refine HBe.out.mono ?_
       rintro e w6 ⟨B6, c6, rfl, r6, k6⟩
       have HDx := Lib.hid (fDistance_any A l n c (x : Int) w6 (HR.out _ (keepN HQ.out.1 k6)) hn hm hwx)
       rw [distI_of HXr.out, errI_eq, if_pos HXr.out] at HDx
       obtain ⟨d, hd, hdl⟩ := dist_bd HO.out HXr.out
       have HDd := Lib.hid hd
       rw [hn.out] at hdl
       rw [hd] at HDx
       have hsl : (stepsG l x).length ≤ 2 := nB_len (l := l) x (reach_nB HXr.out)
       clear HBe hd
       go_wp2_with fail
       refine HDx.out.mono ?_
       rintro e w7 ⟨rfl, k7⟩
       have k67 := keepN k6 k7
       have HS : Hid (Keep NoB w w7 ∧ Rd w7 (some ⟨g, o, none⟩) (ivs (nz (reachL l)))) := ⟨keepN HQ.out.1 k67, HQ.out.2.keepN k67⟩
       have HHs := Lib.hid (has_any B6 c6 (stepsG l x) (i : Int) w7 (r6.keepN k7) (by omega))
       rw [contains_dec] at HHs
       have HH7 := Lib.hid (HH.out w7 HS.out.2)
       have HRq := Lib.hid HS.out.1
       clear HQ HDx r6 k6 k7 k67 cz hwx
       rw [HDd.out] at HNx
       cases hs : decide (i ∈ stepsG l x) with
       | true =>
        have hin : i ∈ reachL l := reach_next HO.out HXr.out (of_decide_eq_true hs)
        have hle : D ≤ (d : Int) + 1 := by
         have h := dist_step HO.out HXr.out (of_decide_eq_true hs)
         rw [← distI_of hin, HDe.out, HDd.out] at h
         exact h
        rw [hs] at HHs HNx
        exact absurd hin (of_decide_eq_false HZ.out)
       | false =>
        rw [hs] at HHs HNx
        clear hs
        go_wp2_with fail
        refine HHs.out.mono ?_
        rintro e w9 ⟨rfl, rfl⟩
        cases ha : anyD l i D k with
        | true =>
         rw [ha] at HNx
         clear ha
         go_wp2_with fail
         go_roundw
         case rel => exact ⟨k + 1, by omega, by go_num, by rw [HNx.out]; rfl, HS.out⟩
         case measure => simp [intOf]; omega
        | false =>
         rw [ha] at HNx
         clear ha
         go_wp2_with fail
         refine HHs.out.mono ?_
         rintro e w9 ⟨rfl, rfl⟩
         go_wp2_with fail
         go_roundw
         case rel => exact ⟨k + 1, by omega, by go_num, by rw [HNx.out]; simp, HS.out⟩
         case measure => simp [intOf]; omega
      ·have hke : k = re := by omega
       subst hke
       rw [HAll.out]
       have HH7 := Lib.hid (HH.out wr HQ.out.2)
       have HQ9 := HQ
       clear HQ hlt' hk
       go_wp2_with fail
       refine HH7.out.mono ?_
       rintro e w9 ⟨rfl, rfl⟩
       go_wp2_with fail
       go_roundw
       case rel => exact ⟨i + 1, by omega, by go_num, HQ9⟩
       case measure => simp [intOf]; omega
   ·obtain rfl : i = n := by omega
    have HK := Lib.hid HQ.out.1
    clear HQ
    go_wp2_with fail
    go_ret
    exact ⟨rfl, HK.out⟩
end Go.Proofs.YtghdibbooegocaaGreatDoor.G
