/-
  Part 15 of the proofs of GLoopsRow, GReachRow, GMustRow, GNamesRow: what is laid, and what the functions that the law runs answer. Conditions: each theorem names its own.
-/
import Derived.Test.YtghdibbooegocaaGreatDoorQA14
namespace Go.Proofs.YtghdibbooegocaaGreatDoor.G
open Go.RowKit W

def evB (l : List C.I3) (a y k : Nat) : Bool := decide (y ≠ a) && ((aheadL l a).take k).all fun x => decide (y ∈ mustL l x)
theorem evB_zero (l : List C.I3) (a y : Nat) : evB l a y 0 = decide (y ≠ a) := by
 unfold evB
 simp
theorem evB_next {l : List C.I3} {a y k : Nat} (hk : k < (aheadL l a).length) : evB l a y (k + 1) = (evB l a y k && decide (y ∈ mustL l (aheadL l a)[k])) := by
 unfold evB
 rw [List.take_succ_eq_append_getElem hk, List.all_append, Bool.and_assoc]
 simp
theorem evB_all {l : List C.I3} {a y : Nat} (ho : C.okB l = true) (ha : a ∈ reachL l) (h0 : a ≠ 0) (hy : y ≠ a) : evB l a y (aheadL l a).length = decide (y ∈ mustL l a) := by
 rw [Bool.eq_iff_iff, decide_eq_true_iff, must_aheadL ho ha h0 hy]
 unfold evB
 rw [List.take_length, Bool.and_eq_true, List.all_eq_true]
 exact ⟨fun h x hx => of_decide_eq_true (h.2 x hx), fun h => ⟨decide_eq_true hy, fun x hx => decide_eq_true (h x hx)⟩⟩
theorem mustI_of {l : List C.I3} {i : Nat} (h : i ∈ reachL l) : mustI l (i : Int) = mustL l i ∧ errI l (i : Int) = 0 := by
 refine ⟨?_, by rw [errI_eq, if_pos h]⟩
 unfold mustI
 rw [atN_of h]
theorem must_len (l : List C.I3) (a : Nat) : (mustL l a).length ≤ 1000 := by
 have h1 : (reachL l).length ≤ 1000 := nodup_len 1000 _ ((rise_filter (b := l)).imp (fun h => Nat.ne_of_lt h)) fun x hx => reach_b hx
 exact Nat.le_trans (List.length_filter_le _ _) h1
theorem ahead_len (l : List C.I3) (a : Nat) : (aheadL l a).length ≤ 1000 := by
 have h1 : (reachL l).length ≤ 1000 := nodup_len 1000 _ ((rise_filter (b := l)).imp (fun h => Nat.ne_of_lt h)) fun x hx => reach_b hx
 exact Nat.le_trans (List.length_filter_le _ _) h1
theorem must_two {l : List C.I3} {a : Nat} (ho : C.okB l = true) (ha : a ∈ reachL l) : 0 ∈ mustL l a ∧ a ∈ mustL l a := ⟨(must_mem ho ha).2 (must_start a), (must_mem ho ha).2 (must_self a)⟩
theorem must_in {l : List C.I3} {a x y : Nat} (ho : C.okB l = true) (ha : a ∈ reachL l) (hx : x ∈ mustL l a) (hy : y ∈ mustL l x) : y ∈ mustL l a :=
 (must_mem ho ha).2 (must_trans ((must_mem ho ha).1 hx) ((must_mem ho (must_reach hx)).1 hy))

set_option maxRecDepth 100000 in
set_option maxHeartbeats 8000000 in
theorem flowMust_walk (A : Option Addr) (l : List C.I3) (n c : Nat) (w : World) (hr : Rd w A (C.iis l)) (hn : Hid (l.length = n)) (hm : n ≤ 9223372036854775807) (hL0 : O.LaidO w) (hC0 : O.CutAt w) :
  Calls Tryz.prog 6 #[.slice A n c] w fun e w' => e = .returned (.bool true) ∧ Keep NoB w w' := by
 have HAl := Lib.hid (alive_any w hL0 hC0)
 have HR := Lib.hid (fun W (hk : Keep NoB w W) => hr.keepN hk)
 have hrb0 : (reachL l).length ≤ 1000 := nodup_len 1000 _ ((rise_filter (b := l)).imp (fun h => Nat.ne_of_lt h)) fun x hx => reach_b hx
 clear hr hL0 hC0
 by_cases h40 : 40 < n
 ·have q1 : (40 : Int) < (n : Int) := by omega
  clear HR
  go_enter Tryz.func6, Tryz.ntmps6
  go_wp2_with fail
  refine HAl.out.mono ?_
  rintro e w1 ⟨rfl, k1⟩
  go_wp2_with fail
  go_ret
  exact ⟨rfl, k1⟩
 have q1 : ¬ (40 : Int) < (n : Int) := by omega
 cases ho : C.okB l with
 | false =>
  have HCk := Lib.hid (fun w hr => C.cchk_any A l n c w hr hn hm 50 (C.chkB_no ho))
  clear ho
  go_enter Tryz.func6, Tryz.ntmps6
  go_wp2_with fail
  refine HAl.out.mono ?_
  rintro e w1 ⟨rfl, k1⟩
  go_wp2_with fail
  refine (HCk.out _ (HR.out _ k1)).mono ?_
  rintro e w2 ⟨rfl, k2⟩
  have k12 := keepN k1 k2
  clear k1 k2
  go_wp2_with fail
  go_ret
  exact ⟨rfl, k12⟩
 | true =>
  have HCk := Lib.hid (fun w hr => C.cchk_any A l n c w hr hn hm 0 (C.chkB_ok ho))
  have HO := Lib.hid ho
  clear ho
  go_enter Tryz.func6, Tryz.ntmps6
  go_wp2_with fail
  refine HAl.out.mono ?_
  rintro e w1 ⟨rfl, k1⟩
  go_wp2_with fail
  refine (HCk.out _ (HR.out _ k1)).mono ?_
  rintro e w2 ⟨rfl, k2⟩
  have k12 := keepN k1 k2
  clear k1 k2 HCk HAl
  go_wp2_with fail
  refine (fReached_any A l n c w2 (HR.out _ k12) hn hm).mono ?_
  rintro e w3 ⟨B3, c3, rfl, o3, k3⟩
  obtain ⟨A3, c3', hv3, hy1, hy2, r3, hy3⟩ := o3.form
  injection hv3 with e1 e2 e3
  subst e1
  have HI : Hid (Keep NoB w w3 ∧ Rd w3 B3 (ivs (nz (reachL l)))) := ⟨keepN k12 k3, r3⟩
  obtain ⟨re, hre⟩ : ∃ re, (reachL l).length = re := ⟨_, rfl⟩
  have HRe := Lib.hid hre
  rw [hre]
  rw [hre] at hrb0
  clear hy1 hy2 hy3 e2 e3 o3 k12 k3 r3 hre
  go_wp2_with fail
  go_loopw [43] (fun i wr => ∃ k : Nat, k ≤ re ∧ i = .int .i64 (k : Int) ∧ Hid (Keep NoB w wr ∧ Rd wr B3 (ivs (nz (reachL l))))) (fun i _ => re - (intOf i).toNat)
  case atStart => exact ⟨0, Nat.zero_le _, rfl, HI.out⟩
  case round =>
   obtain ⟨k, hk, rfl, HQ⟩ := hrel
   clear HI
   by_cases hlt : k < re
   ·have hkl : k < (reachL l).length := by rw [HRe.out]; exact hlt
    obtain ⟨g, o, rfl, hc⟩ := rd_steps HQ.out.2 (by omega)
    have hz := List.getElem?_eq_getElem hkl
    have cz := hc k _ hz
    have har : (reachL l)[k] ∈ reachL l := List.getElem_mem hkl
    generalize (reachL l)[k] = a at cz har
    have HAr := Lib.hid har
    have hal : a < l.length := reach_lt HO.out har
    have han : a < n := by rw [← hn.out]; exact hal
    have hwa := wfN (x := a) (by omega)
    have HM := Lib.hid (fMust_any A l n c (a : Int) wr (HR.out _ HQ.out.1) hn hm hwa)
    rw [(mustI_of har).1, (mustI_of har).2] at HM
    clear hz hc hal har
    go_wp2_with fail
    refine HM.out.mono ?_
    rintro e w4 ⟨B4, c4, rfl, r4, k4⟩
    have HD := Lib.hid (fDistance_any A l n c (a : Int) w4 (HR.out _ (keepN HQ.out.1 k4)) hn hm hwa)
    rw [distI_of HAr.out, errI_eq, if_pos HAr.out] at HD
    obtain ⟨D, hD⟩ : ∃ D, distL l a = D := ⟨_, rfl⟩
    have HDe := Lib.hid hD
    rw [hD] at HD
    obtain ⟨ml, hml⟩ : ∃ ml, (mustL l a).length = ml := ⟨_, rfl⟩
    have HMl := Lib.hid hml
    have hmb := must_len l a
    rw [hml] at hmb
    rw [hml]
    clear HM hD hml
    go_wp2_with fail
    refine HD.out.mono ?_
    rintro e w5 ⟨rfl, k5⟩
    have HQ5 : Hid (Keep NoB w w5 ∧ Rd w5 (some ⟨g, o, none⟩) (ivs (nz (reachL l))) ∧ Rd w5 B4 (ivs (nz (mustL l a)))) := ⟨keepN HQ.out.1 (keepN k4 k5), HQ.out.2.keepN (keepN k4 k5), r4.keepN k5⟩
    have HH := Lib.hid (fun (W : World) (r : Rd W B4 (ivs (nz (mustL l a)))) (y : Nat) => has_any B4 c4 (mustL l a) (y : Int) W r (by rw [HMl.out]; omega))
    rw [HMl.out] at HH
    have HH0 := Lib.hid (HH.out w5 HQ5.out.2.2 0)
    have HHa := Lib.hid (HH.out w5 HQ5.out.2.2 a)
    rw [contains_dec, decide_eq_true (must_two HO.out HAr.out).1] at HH0
    rw [contains_dec, decide_eq_true (must_two HO.out HAr.out).2] at HHa
    clear HD HQ k4 k5 r4 cz
    go_wp2_with fail
    refine HH0.out.mono ?_
    rintro e w6 ⟨rfl, rfl⟩
    go_wp2_with fail
    refine HHa.out.mono ?_
    rintro e w6 ⟨rfl, rfl⟩
    clear HH0 HHa
    go_wp2_with fail
    go_loopw [74] (fun i w8 => ∃ j : Nat, j ≤ ml ∧ i = .int .i64 (j : Int) ∧ Hid (Keep NoB w w8 ∧ Rd w8 (some ⟨g, o, none⟩) (ivs (nz (reachL l))) ∧ Rd w8 B4 (ivs (nz (mustL l a))))) (fun i _ => ml - (intOf i).toNat)
    case atStart => exact ⟨0, Nat.zero_le _, rfl, HQ5.out⟩
    case round =>
     obtain ⟨j, hj, rfl, HQ⟩ := hrel
     clear HQ5
     by_cases hlt' : j < ml
     ·have hjl : j < (mustL l a).length := by rw [HMl.out]; exact hlt'
      obtain ⟨gm, om, rfl, hcm⟩ := rd_steps HQ.out.2.2 (by omega)
      have hz := List.getElem?_eq_getElem hjl
      have cz := hcm j _ hz
      have hxm : (mustL l a)[j] ∈ mustL l a := List.getElem_mem hjl
      generalize (mustL l a)[j] = x at cz hxm
      have HXm := Lib.hid hxm
      have hxr := must_reach hxm
      have HXr := Lib.hid hxr
      have hxl : x < l.length := reach_lt HO.out hxr
      have hxn : x < n := by rw [← hn.out]; exact hxl
      have hwx := wfN (x := x) (by omega)
      have HM := Lib.hid (fMust_any A l n c (x : Int) wr (HR.out _ HQ.out.1) hn hm hwx)
      rw [(mustI_of hxr).1, (mustI_of hxr).2] at HM
      clear hz hcm hxl hxr hxm
      go_wp2_with fail
      refine HM.out.mono ?_
      rintro e w6 ⟨B6, c6, rfl, r6, k6⟩
      have HDx := Lib.hid (fDistance_any A l n c (x : Int) w6 (HR.out _ (keepN HQ.out.1 k6)) hn hm hwx)
      rw [distI_of HXr.out, errI_eq, if_pos HXr.out] at HDx
      have hdd : distL l x ≤ D := by
       rw [← HDe.out]
       exact must_dist HO.out HAr.out HXm.out
      generalize distL l x = dx at HDx hdd
      obtain ⟨mx, hmx⟩ : ∃ mx, (mustL l x).length = mx := ⟨_, rfl⟩
      have HMx := Lib.hid hmx
      have hmxb := must_len l x
      rw [hmx] at hmxb
      rw [hmx]
      clear HM hmx
      go_wp2_with fail
      refine HDx.out.mono ?_
      rintro e w7 ⟨rfl, k7⟩
      have HS : Hid (Keep NoB w w7 ∧ Rd w7 (some ⟨g, o, none⟩) (ivs (nz (reachL l))) ∧ Rd w7 (some ⟨gm, om, none⟩) (ivs (nz (mustL l a)))) := ⟨keepN HQ.out.1 (keepN k6 k7), HQ.out.2.1.keepN (keepN k6 k7), HQ.out.2.2.keepN (keepN k6 k7)⟩
      have HRx := Lib.hid (r6.keepN k7)
      clear HQ HDx r6 k6 k7 cz hwx
      go_wp2_with fail
      go_loopw [99] (fun i w8 => ∃ h : Nat, h ≤ mx ∧ i = .int .i64 (h : Int) ∧ w8 = w7) (fun i _ => mx - (intOf i).toNat)
      case atStart => exact ⟨0, Nat.zero_le _, rfl, rfl⟩
      case round =>
       obtain ⟨h, hh, rfl, rfl⟩ := hrel
       by_cases hlth : h < mx
       ·have hhl : h < (mustL l x).length := by rw [HMx.out]; exact hlth
        obtain ⟨gx, ox, rfl, hcx⟩ := rd_steps HRx.out (by omega)
        have hz := List.getElem?_eq_getElem hhl
        have cz := hcx h _ hz
        have hym : (mustL l x)[h] ∈ mustL l x := List.getElem_mem hhl
        generalize (mustL l x)[h] = y at cz hym
        have HHy := Lib.hid (HH.out wr HS.out.2.2 y)
        rw [contains_dec, decide_eq_true (must_in HO.out HAr.out HXm.out hym)] at HHy
        clear hz hcx hym
        go_wp2_with fail
        refine HHy.out.mono ?_
        rintro e w9 ⟨rfl, rfl⟩
        go_wp2_with fail
        go_roundw
        case rel => exact ⟨h + 1, by omega, by go_num, trivial⟩
        case measure => simp [intOf]; omega
       ·obtain rfl : h = mx := by omega
        have HS2 := HS
        clear HS
        go_wp2_with fail
        go_roundw
        case rel => exact ⟨j + 1, by omega, by go_num, HS2⟩
        case measure => simp [intOf]; omega
     ·have hje : j = ml := by omega
      clear hj hlt'
      subst hje
      have HAh := Lib.hid (fAhead_any A l n c (a : Int) wr (HR.out _ HQ.out.1) hn hm hwa)
      rw [show aheadI l (a : Int) = aheadL l a by (unfold aheadI; rw [atN_of HAr.out]), errI_eq, if_pos HAr.out] at HAh
      obtain ⟨ah, hah⟩ : ∃ ah, (aheadL l a).length = ah := ⟨_, rfl⟩
      have HAhl := Lib.hid hah
      have hahb := ahead_len l a
      rw [hah] at hahb
      clear hah
      go_wp2_with fail
      refine HAh.out.mono ?_
      rintro e w9 ⟨B9, c9, rfl, r9, k9⟩
      have HQ9 : Hid (Keep NoB w w9 ∧ Rd w9 (some ⟨g, o, none⟩) (ivs (nz (reachL l))) ∧ Rd w9 B4 (ivs (nz (mustL l a))) ∧ Rd w9 B9 (ivs (nz (aheadL l a)))) := ⟨keepN HQ.out.1 k9, HQ.out.2.1.keepN k9, HQ.out.2.2.keepN k9, r9⟩
      rw [HAhl.out]
      clear HAh HQ r9 k9
      by_cases ha0 : a = 0
      ·have q3 : (a : Int) = 0 := by omega
       go_wp2_with fail
       go_roundw
       case rel => exact ⟨k + 1, by omega, by go_num, HQ9.out.1, HQ9.out.2.1⟩
       case measure => simp [intOf]; omega
      have q3 : ¬ (a : Int) = 0 := by omega
      go_wp2_with fail
      rw [show ((a : Int) == 0) = false by rw [beq_eq_false_iff_ne]; exact q3]
      go_loopw [119] (fun i w8 => ∃ y : Nat, y ≤ n ∧ i = .int .i64 (y : Int) ∧ Hid (Keep NoB w w8 ∧ Rd w8 (some ⟨g, o, none⟩) (ivs (nz (reachL l))) ∧ Rd w8 B4 (ivs (nz (mustL l a))) ∧ Rd w8 B9 (ivs (nz (aheadL l a))))) (fun i _ => n - (intOf i).toNat)
      case atStart => exact ⟨0, Nat.zero_le _, rfl, HQ9.out⟩
      case round =>
       obtain ⟨y, hy, rfl, HQ⟩ := hrel
       clear HQ9
       by_cases hlty : y < n
       ·by_cases hya : y = a
        ·have hya2 : a = y := hya.symm
         clear hya
         subst hya2
         go_wp2_with fail
         go_loopw [21, 127] (fun s i w8 => ∃ m : Nat, m ≤ ah ∧ i = .int .i64 (m : Int) ∧ s = .bool false ∧ Hid (Keep NoB w w8 ∧ Rd w8 (some ⟨g, o, none⟩) (ivs (nz (reachL l))) ∧ Rd w8 B4 (ivs (nz (mustL l a))) ∧ Rd w8 B9 (ivs (nz (aheadL l a))))) (fun _ i _ => ah - (intOf i).toNat)
         case atStart => exact ⟨0, Nat.zero_le _, rfl, rfl, HQ.out⟩
         case round =>
          obtain ⟨m, hm', rfl, rfl, HQ2⟩ := hrel
          clear HQ
          by_cases hltm : m < ah
          ·have hmll : m < (aheadL l a).length := by rw [HAhl.out]; exact hltm
           obtain ⟨gh, oh, rfl, hch⟩ := rd_steps HQ2.out.2.2.2 (by omega)
           have hz := List.getElem?_eq_getElem hmll
           have cz := hch m _ hz
           have hxm : (aheadL l a)[m] ∈ aheadL l a := List.getElem_mem hmll
           generalize (aheadL l a)[m] = x at cz hxm
           have hxr := (ahead_mem.1 hxm).1
           have hxl : x < l.length := reach_lt HO.out hxr
           have hxn : x < n := by rw [← hn.out]; exact hxl
           have hwx := wfN (x := x) (by omega)
           have HM := Lib.hid (fMust_any A l n c (x : Int) wr (HR.out _ HQ2.out.1) hn hm hwx)
           rw [(mustI_of hxr).1, (mustI_of hxr).2] at HM
           have hmxb := must_len l x
           clear hz hch hxl hxr hxm
           go_wp2_with fail
           refine HM.out.mono ?_
           rintro e w6 ⟨B6, c6, rfl, r6, k6⟩
           have HS : Hid (Keep NoB w w6 ∧ Rd w6 (some ⟨g, o, none⟩) (ivs (nz (reachL l))) ∧ Rd w6 B4 (ivs (nz (mustL l a))) ∧ Rd w6 (some ⟨gh, oh, none⟩) (ivs (nz (aheadL l a)))) := ⟨keepN HQ2.out.1 k6, HQ2.out.2.1.keepN k6, HQ2.out.2.2.1.keepN k6, HQ2.out.2.2.2.keepN k6⟩
           clear HQ2 HM r6 k6 cz hwx
           go_wp2_with fail
           go_roundw
           case rel => exact ⟨m + 1, by omega, by go_num, rfl, HS.out⟩
           case measure => simp [intOf]; omega
          ·have hme : m = ah := by omega
           subst hme
           have HQ3 := HQ2
           clear HQ2
           go_wp2_with fail
           go_roundw
           case rel => exact ⟨a + 1, by omega, by go_num, HQ3⟩
           case measure => simp [intOf]; omega
        ·have q5 : ¬ (y : Int) = (a : Int) := by omega
         go_wp2_with fail
         rw [show ((y : Int) != (a : Int)) = true by rw [bne_iff_ne]; exact q5]
         go_loopw [21, 127] (fun s i w8 => ∃ m : Nat, m ≤ ah ∧ i = .int .i64 (m : Int) ∧ s = .bool (evB l a y m) ∧ Hid (Keep NoB w w8 ∧ Rd w8 (some ⟨g, o, none⟩) (ivs (nz (reachL l))) ∧ Rd w8 B4 (ivs (nz (mustL l a))) ∧ Rd w8 B9 (ivs (nz (aheadL l a))))) (fun _ i _ => ah - (intOf i).toNat)
         case atStart => exact ⟨0, Nat.zero_le _, rfl, by rw [evB_zero, decide_eq_true hya], HQ.out⟩
         case round =>
          obtain ⟨m, hm', rfl, rfl, HQ2⟩ := hrel
          clear HQ
          by_cases hltm : m < ah
          ·have hmll : m < (aheadL l a).length := by rw [HAhl.out]; exact hltm
           obtain ⟨gh, oh, rfl, hch⟩ := rd_steps HQ2.out.2.2.2 (by omega)
           have hz := List.getElem?_eq_getElem hmll
           have cz := hch m _ hz
           have hnx := evB_next (y := y) hmll
           have hxm : (aheadL l a)[m] ∈ aheadL l a := List.getElem_mem hmll
           generalize (aheadL l a)[m] = x at cz hxm hnx
           have hxr := (ahead_mem.1 hxm).1
           have hxl : x < l.length := reach_lt HO.out hxr
           have hxn : x < n := by rw [← hn.out]; exact hxl
           have hwx := wfN (x := x) (by omega)
           have HM := Lib.hid (fMust_any A l n c (x : Int) wr (HR.out _ HQ2.out.1) hn hm hwx)
           rw [(mustI_of hxr).1, (mustI_of hxr).2] at HM
           have HNx := Lib.hid hnx
           have hmxb := must_len l x
           clear hz hch hxl hxr hxm hnx
           go_wp2_with fail
           refine HM.out.mono ?_
           rintro e w6 ⟨B6, c6, rfl, r6, k6⟩
           have HS : Hid (Keep NoB w w6 ∧ Rd w6 (some ⟨g, o, none⟩) (ivs (nz (reachL l))) ∧ Rd w6 B4 (ivs (nz (mustL l a))) ∧ Rd w6 (some ⟨gh, oh, none⟩) (ivs (nz (aheadL l a)))) := ⟨keepN HQ2.out.1 k6, HQ2.out.2.1.keepN k6, HQ2.out.2.2.1.keepN k6, HQ2.out.2.2.2.keepN k6⟩
           have HHy := Lib.hid (has_any B6 c6 (mustL l x) (y : Int) w6 r6 (by omega))
           rw [contains_dec] at HHy
           generalize decide (y ∈ mustL l x) = z at HHy HNx
           clear HQ2 HM r6 k6 cz hwx
           cases hev : evB l a y m with
           | true =>
            rw [hev] at HNx
            clear hev
            go_wp2_with fail
            refine HHy.out.mono ?_
            rintro e w7 ⟨rfl, rfl⟩
            go_wp2_with fail
            go_roundw
            case rel => exact ⟨m + 1, by omega, by go_num, by rw [HNx.out]; simp, HS.out⟩
            case measure => simp [intOf]; omega
           | false =>
            rw [hev] at HNx
            clear hev
            go_wp2_with fail
            go_roundw
            case rel => exact ⟨m + 1, by omega, by go_num, by rw [HNx.out]; rfl, HS.out⟩
            case measure => simp [intOf]; omega
          ·have hme : m = ah := by omega
           subst hme
           have HQ3 := HQ2
           have hev := evB_all HO.out HAr.out ha0 hya
           rw [HAhl.out] at hev
           rw [hev]
           have HHy := Lib.hid (HH.out wr HQ3.out.2.2.1 y)
           rw [contains_dec] at HHy
           generalize decide (y ∈ mustL l a) = z at HHy ⊢
           clear HQ2 hev hm' hltm
           cases z with
           | true =>
            go_wp2_with fail
            refine HHy.out.mono ?_
            rintro e w7 ⟨rfl, rfl⟩
            go_wp2_with fail
            go_roundw
            case rel => exact ⟨y + 1, by omega, by go_num, HQ3⟩
            case measure => simp [intOf]; omega
           | false =>
            go_wp2_with fail
            refine HHy.out.mono ?_
            rintro e w7 ⟨rfl, rfl⟩
            go_wp2_with fail
            go_roundw
            case rel => exact ⟨y + 1, by omega, by go_num, HQ3⟩
            case measure => simp [intOf]; omega
       ·have hye : y = n := by omega
        have HQ3 := HQ
        clear HQ
        go_wp2_with fail
        go_roundw
        case rel => exact ⟨k + 1, by omega, by go_num, HQ3.out.1, HQ3.out.2.1⟩
        case measure => simp [intOf]; omega
   ·obtain rfl : k = re := by omega
    have HK := Lib.hid HQ.out.1
    clear HQ
    go_wp2_with fail
    go_ret
    exact ⟨rfl, HK.out⟩
end Go.Proofs.YtghdibbooegocaaGreatDoor.G
