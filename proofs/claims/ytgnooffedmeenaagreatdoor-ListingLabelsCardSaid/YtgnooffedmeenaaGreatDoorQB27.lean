/-
  Part 27 of the proofs of LBackRow, LLabelsRow: what is laid, and what the functions that the law runs answer. Conditions: each theorem names its own.
-/
import Derived.Test.YtgnooffedmeenaaGreatDoorQB26
namespace Go.Proofs.YtgnooffedmeenaaGreatDoor.M.L
open Go.RowKit W

def SLz (av : Value) (T0 T1 : ByteArray) (c0 c1 t : Nat) : Nat → Value → World → Prop
 | 2 => fun u _ => u = .string T0
 | 3 => fun u _ => u = .int .i64 ((c0 : Nat) : Int)
 | 4 => fun u _ => u = av
 | 5 => fun u _ => u = .string T1
 | 6 => fun u _ => u = .int .i64 ((c1 : Nat) : Int)
 | 7 => fun u _ => u = .int .i64 ((t : Nat) : Int)
 | 8 => fun u _ => u = .int .i64 ((c0 : Nat) : Int)
 | _ => fun u _ => u = .bool true
theorem SLz_stable (av : Value) (T0 T1 : ByteArray) (c0 c1 t : Nat) (i : Nat) (u : Value) (W W' : World) (h : SLz av T0 T1 c0 c1 t i u W) (_hk : Keep NoB W W') : SLz av T0 T1 c0 c1 t i u W' := by
 unfold SLz at h ⊢
 split at h <;> exact h

set_option maxRecDepth 100000 in
set_option maxHeartbeats 16000000 in
theorem labels_walk (v : I.IV) (es : List I.SE) (fs : List I.FE) (w : World) (h : I.ImAt w v es fs) (hl : I.LgI v es fs) (hE : EnvM w) :
  Calls Tryz.prog 8 #[v.val] w fun e w' => e = .returned (.bool true) ∧ Keep NoB w w' := by
 have bx := Blk.new w 25 v.cells
 have gK := (Keep.refl NoB w).alloc (.cells v.cells 25)
 have HIV := Lib.hid (fun W (hk : Keep NoB w W) => (h.keepN hk : I.ImAt W v es fs))
 have HLG := Lib.hid hl
 have HEn := Lib.hid (fun W (hk : Keep NoB w W) => (hE.keep hk : EnvM W))
 have HAl := Lib.hid (fun W (hk : Keep NoB w W) => alive_any W (hE.keep hk).1)
 have HG := Lib.hid (fun W (hk : Keep NoB w W) => I.great_any v es fs W (h.keepN hk) hl)
 have HCn := Lib.hid (fun W (hk : Keep NoB w W) (hs : I.SmI es fs) => count_any v es fs W (h.keepN hk) hs)
 have HCk := Lib.hid (fun W (hk : Keep NoB w W) => I.check_any v es fs W (h.keepN hk) hl (I.chkI (I.imOf es fs)) rfl)
 clear h hl hE
 obtain ⟨X, nx, cx, Y, ny, cy⟩ := v
 dsimp only [I.IV.val, I.IV.cells] at *
 have HB : Hid (∀ W, Keep NoB (w.alloc (.cells #[.slice X nx cx, .slice Y ny cy] 25)) W → W.cell? ⟨w.heap.size, 0, none⟩ = some (.slice X nx cx) ∧ W.cell? ⟨w.heap.size, 1, none⟩ = some (.slice Y ny cy)) :=
  fun W hk => ⟨(bx.keep hk id).cell 0, (bx.keep hk id).cell 1⟩
 clear bx
 go_enter Tryz.func8, Tryz.ntmps8
 go_wp2_with fail
 have b0 := Keep.refl NoB (w.alloc (.cells #[.slice X nx cx, .slice Y ny cy] 25))
 generalize w.alloc (.cells #[.slice X nx cx, .slice Y ny cy] 25) = wE at *
 generalize w.heap.size = gp at *
 refine (HAl.out _ gK).mono ?_
 rintro e w1 ⟨rfl, k1⟩
 have K := keepN b0 k1
 clear k1 b0 HAl
 obtain ⟨p0, p1⟩ := HB.out _ K
 go_wp2_with fail
 refine (HG.out _ (keepN gK K)).mono ?_
 rintro e w2 ⟨hg, k2⟩
 replace K := keepN K k2
 clear k2 HG p0 p1
 obtain ⟨p0, p1⟩ := HB.out _ K
 rcases hg with ⟨rfl, hg1, _⟩ | rfl
 rotate_left
 ·have HK := Lib.hid (keepN gK K)
  clear HIV HLG HEn HCn HCk HB gK K
  go_wp2
  go_ret
  exact ⟨rfl, HK.out⟩
 have HSM := Lib.hid hg1
 clear hg1
 go_wp2_with fail
 refine (HCn.out _ (keepN gK K) HSM.out).mono ?_
 rintro e w3 ⟨rfl, k3⟩
 replace K := keepN K k3
 clear k3 p0 p1 HCn
 obtain ⟨p0, p1⟩ := HB.out _ K
 have HC5 : Hid (cntF fs = cntF fs) := rfl
 generalize hcn0 : cntF fs = cn at HC5 ⊢
 by_cases hcn : cn ≤ 500
 rotate_left
 ·have hq : decide ((500 : Int) < (cn : Int)) = true := by rw [decide_eq_true_iff]; omega
  have HK := Lib.hid (keepN gK K)
  clear HIV HLG HEn HCk HB gK K
  go_wp2
  go_ret
  exact ⟨rfl, HK.out⟩
 have hq : decide ((500 : Int) < (cn : Int)) = false := by rw [decide_eq_false_iff_not]; omega
 replace HC5 : Hid (cntF fs ≤ 500) := by show _ ≤ _; rw [hcn0]; exact hcn
 clear hcn hcn0
 go_wp2_with fail
 refine (HCk.out _ (keepN gK K)).mono ?_
 rintro e w4 ⟨rfl, k4⟩
 replace K := keepN K k4
 clear k4 HCk p0 p1 hq
 obtain ⟨p0, p1⟩ := HB.out _ K
 by_cases hok : I.okI (I.imOf es fs) = true
 rotate_left
 ·rw [I.chkI_no (by simpa using hok)]
  have HK := Lib.hid (keepN gK K)
  clear HIV HLG HEn HB gK K
  go_wp2
  go_ret
  exact ⟨rfl, HK.out⟩
 rw [I.chkI_ok hok]
 have Hok := Lib.hid hok
 clear hok
 have HLs := Lib.hid (fun W (hk : Keep NoB w W) => listApi_any ⟨X, nx, cx, Y, ny, cy⟩ es fs W (HIV.out _ hk) HLG.out (HEn.out _ hk).1)
 have HPl := Lib.hid (fun W (hk : Keep NoB w W) => plainApi_any ⟨X, nx, cx, Y, ny, cy⟩ es fs W (HIV.out _ hk) HLG.out (HEn.out _ hk).1)
 have HLb := Lib.hid (fun W (hk : Keep NoB w W) (k : Nat) (hk2 : k < fs.length) => llabs_any (HIV.out _ hk) HC5.out Hok.out hk2 (HEn.out _ hk))
 have HLn := Lib.hid (fun W (hk : Keep NoB w W) (k : Nat) (hk2 : k < fs.length) => labs_none (HIV.out _ hk) HC5.out Hok.out hk2 (HEn.out _ hk))
 have HTg := Lib.hid (fun W (hk : Keep NoB w W) (k : Nat) (hk2 : k < fs.length) => targetsApi_any fs[k].1 fs[k].2 W ((HIV.out _ hk).hf _ (List.getElem_mem hk2)) (HLG.out.fn _ (List.getElem_mem hk2)))
 have HRY := Lib.hid (fun W (hk : Keep NoB w W) => (HIV.out _ hk).ry)
 have hly : Hid (fs.length = ny) := (HIV.out _ gK).ly
 have HFe := Lib.hid (feeds (HIV.out _ gK) Hok.out)
 have HFl := Lib.hid (feeds_le (HIV.out _ gK) HC5.out Hok.out)
 have HTn := Lib.hid (tgN_le (fs := fs) (fun e he => by have h1 := ((HIV.out _ gK).hf e he).ld; have h2 := (HSM.out.fn e he).nd; omega))
 have H70 : Hid (fs.length ≤ 70) := HSM.out.nf
 have Hkf : Hid (∀ (k : Nat) (hk : k < fs.length), (tgF fs[k].2).length = (tgs fs[k].2.bd).length ∧ (tgs fs[k].2.bd).length ≤ 512) := fun k hk => by
  have h1 : F.okF fs[k].2 = true := List.all_eq_true.1 ((I.okI_iff _).1 Hok.out).2.2 _ (by unfold I.imOf; exact List.mem_map.2 ⟨_, List.getElem_mem hk, rfl⟩)
  exact ⟨tgF_len h1, Nat.le_trans (tgs_len _) (ok_body h1).2.2.1⟩
 dsimp only [I.IV.val, I.IV.cells, F.FV.val, F.FV.cells] at HLs HPl HLb HLn HTg HRY hly
 obtain ⟨T0, hT0⟩ : ∃ T0, str (textL 0 (I.imOf es fs)) = T0 := ⟨_, rfl⟩
 obtain ⟨T1, hT1⟩ : ∃ T1, str (textL 1 (I.imOf es fs)) = T1 := ⟨_, rfl⟩
 rw [hT0] at HLs HLb HFe
 rw [hT1] at HPl HLn HFe
 have HF0 := HFl.out 0
 have HF1 := HFl.out 1
 rw [hT0] at HF0
 rw [hT1] at HF1
 have HFc := Lib.hid (And.intro HF0 HF1)
 clear hT0 hT1 HIV HLG HSM HC5 Hok HFl HF0 HF1
 go_wp2_with fail
 refine (HLs.out _ (keepN gK K)).mono ?_
 rintro e w5 ⟨rfl, k5⟩
 replace K := keepN K k5
 clear k5 p0 p1
 obtain ⟨p0, p1⟩ := HB.out _ K
 go_wp2_with fail
 go_loopw [5, 35] (fun s i wr => ∃ k : Nat, k ≤ ny ∧ i = .int .i64 (k : Int) ∧ s = .int .i64 ((tgN fs k : Nat) : Int) ∧ Keep NoB wE wr) (fun _ i _ => ny - (intOf i).toNat)
 case atStart => exact ⟨0, Nat.zero_le _, rfl, rfl, K⟩
 case round =>
  clear K p0 p1
  obtain ⟨k, hk, rfl, rfl, K⟩ := hrel
  by_cases hlt : k < ny
  ·have hjl : k < fs.length := by rw [hly.out]; exact hlt
   obtain ⟨g, off, rfl, s0, s1, s2, s3, s4⟩ := I.fun_at (HRY.out _ (keepN gK K)) hjl
   obtain ⟨hn1, hn2⟩ := Hkf.out k hjl
   have hsu := tgN_succ fs k hjl
   have htn := HTn.out (k + 1)
   have h70 := H70.out
   have hTgk := Lib.hid (fun W hk => HTg.out W hk k hjl)
   have hLbk := Lib.hid (fun W hk => HLb.out W hk k hjl)
   rw [hn1] at hTgk
   generalize hn : (tgs fs[k].2.bd).length = n at *
   have b7 := Blk.new wr 37 #[.string fs[k].1.S, .slice fs[k].1.A fs[k].1.na fs[k].1.ca, .slice fs[k].1.B fs[k].1.nb fs[k].1.cb, .slice fs[k].1.L fs[k].1.nl fs[k].1.cl, .slice fs[k].1.D fs[k].1.nd fs[k].1.cd]
   have K7 := K.alloc (.cells #[.string fs[k].1.S, .slice fs[k].1.A fs[k].1.na fs[k].1.ca, .slice fs[k].1.B fs[k].1.nb fs[k].1.cb, .slice fs[k].1.L fs[k].1.nl fs[k].1.cl, .slice fs[k].1.D fs[k].1.nd fs[k].1.cd] 37)
   have hsz7 : Hid ((wr.alloc (.cells #[.string fs[k].1.S, .slice fs[k].1.A fs[k].1.na fs[k].1.ca, .slice fs[k].1.B fs[k].1.nb fs[k].1.cb, .slice fs[k].1.L fs[k].1.nl fs[k].1.cl, .slice fs[k].1.D fs[k].1.nd fs[k].1.cd] 37)).heap.size = wr.heap.size + 1) := by show _ = _; simp
   have f0 := b7.cell 0
   have f1 := b7.cell 1
   have f2 := b7.cell 2
   have f3 := b7.cell 3
   have f4 := b7.cell 4
   simp only [List.getElem?_toArray, List.getElem?_cons_zero, List.getElem?_cons_succ] at f0 f1 f2 f3 f4
   clear b7 K
   obtain ⟨m, hm⟩ : ∃ m, tgN fs k = m := ⟨_, rfl⟩
   rw [hm] at hsu ⊢
   rw [hsu] at htn
   have HSU : Hid (tgN fs (k + 1) = m + n) := hsu
   clear hsu hm hn hn1
   go_wp2_with fail
   generalize wr.alloc (.cells #[.string fs[k].1.S, .slice fs[k].1.A fs[k].1.na fs[k].1.ca, .slice fs[k].1.B fs[k].1.nb fs[k].1.cb, .slice fs[k].1.L fs[k].1.nl fs[k].1.cl, .slice fs[k].1.D fs[k].1.nd fs[k].1.cd] 37) = w6 at *
   clear f0 f1 f2 f3 f4 s0 s1 s2 s3 s4
   refine (hTgk.out _ (keepN gK K7)).mono ?_
   rintro e w7 ⟨B, d, rfl, _, k7⟩
   have K7' := keepN K7 k7
   clear k7 K7
   go_wp2_with fail
   refine (hLbk.out _ (keepN gK K7')).mono ?_
   obtain ⟨N, hN⟩ : ∃ N, lbQz T0.size n = N := ⟨_, rfl⟩
   rw [hN]
   rintro e w8 ⟨A, c, rfl, hA, k8⟩
   have K8 := keepN K7' k8
   clear k8 K7'
   obtain ⟨p0, p1⟩ := HB.out _ K8
   have hN2 : N ≤ n := by rw [← hN]; unfold lbQz; split <;> omega
   by_cases hz : T0.size ≤ 131072
   ·have hq : decide ((T0.size : Int) ≤ 131072) = true := by rw [decide_eq_true_iff]; omega
    have hNn : N = n := by rw [← hN]; unfold lbQz; rw [if_pos hz]
    clear hN hz
    subst hNn
    go_wp2_with fail
    refine (HPl.out _ (keepN gK K8)).mono ?_
    rintro e w9 ⟨rfl, k9⟩
    have K9 := keepN K8 k9
    replace hA := hA.keepN k9
    clear k9 K8 p0 p1
    go_wp2_with fail
    refine (HLn.out _ (keepN gK K9) k hjl).mono ?_
    rintro e w10 ⟨A2, c2, rfl, k10⟩
    have K10 := keepN K9 k10
    replace hA := hA.keepN k10
    clear k10 K9
    go_wp2_with fail
    go_loopw [10] (fun i wr2 => ∃ q : Nat, q ≤ N ∧ i = .int .i64 ((q + 1 : Nat) : Int) ∧ Hid (Keep NoB w10 wr2)) (fun i _ => N + 1 - (intOf i).toNat)
    case atStart => exact ⟨0, Nat.zero_le _, rfl, Keep.refl _ _⟩
    case round =>
     obtain ⟨q, hq1, rfl, hkr⟩ := hrel
     by_cases hlq : q + 1 < N
     ·obtain ⟨ga, oa, rfl, hc⟩ := sv_at (hA.keepN hkr.out) (by simp; omega)
      have ca := hc (q + 1) (by simp; omega)
      have cb := hc q (by simp; omega)
      simp only [List.getElem_map, List.getElem_range] at ca cb
      have hne : ((str (lbl (((q + 1 : Nat)) : Int))).toList == (str (lbl ((q : Nat) : Int))).toList) = false := str_neq (labs_apart (n := N) (by omega) hlq)
      generalize str (lbl (((q + 1 : Nat)) : Int)) = Sa at ca hne
      generalize str (lbl ((q : Nat) : Int)) = Sb at cb hne
      have hsub : ((q + 1 : Nat) : Int) - 1 = (q : Int) := by omega
      have HR2 := hkr
      clear hkr hc
      go_wp2_with fail
      go_region
      go_wp2
      refine ⟨⟨q + 1, by omega, by go_num, HR2.out.drew⟩, ?_⟩
      simp [intOf]
      omega
     ·have HR2 := Lib.hid (keepN K10 hkr.out)
      clear hkr hA K10
      go_wp2
      go_roundw
      case rel => exact ⟨k + 1, by omega, by go_num, by rw [HSU.out]; go_num, HR2.out⟩
      case measure => simp [intOf]; omega
   ·have hq : decide ((T0.size : Int) ≤ 131072) = false := by rw [decide_eq_false_iff_not]; omega
    clear hN hz
    go_wp2_with fail
    refine (HPl.out _ (keepN gK K8)).mono ?_
    rintro e w9 ⟨rfl, k9⟩
    have K9 := keepN K8 k9
    replace hA := hA.keepN k9
    clear k9 K8 p0 p1
    go_wp2_with fail
    refine (HLn.out _ (keepN gK K9) k hjl).mono ?_
    rintro e w10 ⟨A2, c2, rfl, k10⟩
    have K10 := keepN K9 k10
    replace hA := hA.keepN k10
    clear k10 K9
    go_wp2_with fail
    go_loopw [10] (fun i wr2 => ∃ q : Nat, q ≤ N ∧ i = .int .i64 ((q + 1 : Nat) : Int) ∧ Hid (Keep NoB w10 wr2)) (fun i _ => N + 1 - (intOf i).toNat)
    case atStart => exact ⟨0, Nat.zero_le _, rfl, Keep.refl _ _⟩
    case round =>
     obtain ⟨q, hq1, rfl, hkr⟩ := hrel
     by_cases hlq : q + 1 < N
     ·obtain ⟨ga, oa, rfl, hc⟩ := sv_at (hA.keepN hkr.out) (by simp; omega)
      have ca := hc (q + 1) (by simp; omega)
      have cb := hc q (by simp; omega)
      simp only [List.getElem_map, List.getElem_range] at ca cb
      have hne : ((str (lbl (((q + 1 : Nat)) : Int))).toList == (str (lbl ((q : Nat) : Int))).toList) = false := str_neq (labs_apart (n := N) (by omega) hlq)
      generalize str (lbl (((q + 1 : Nat)) : Int)) = Sa at ca hne
      generalize str (lbl ((q : Nat) : Int)) = Sb at cb hne
      have hsub : ((q + 1 : Nat) : Int) - 1 = (q : Int) := by omega
      have HR2 := hkr
      clear hkr hc
      go_wp2_with fail
      go_region
      go_wp2
      refine ⟨⟨q + 1, by omega, by go_num, HR2.out.drew⟩, ?_⟩
      simp [intOf]
      omega
     ·have HR2 := Lib.hid (keepN K10 hkr.out)
      clear hkr hA K10
      go_wp2
      go_roundw
      case rel => exact ⟨k + 1, by omega, by go_num, by rw [HSU.out]; go_num, HR2.out⟩
      case measure => simp [intOf]; omega
  ·obtain rfl : ny = k := by omega
   obtain ⟨p0, p1⟩ := HB.out _ K
   have HCo0 := Lib.hid (fun W => (Tryz.strings_Count_one T0 10 W).mono (fun e w' (h : e = .returned (.int .i64 (Lib.countByte T0.data.toList 10)) ∧ w' = W) => (⟨h.1, by rw [h.2]; exact Keep.refl _ _⟩ : e = .returned (.int .i64 (Lib.countByte T0.data.toList 10)) ∧ Keep NoB W w')))
   have HCo1 := Lib.hid (fun W => (Tryz.strings_Count_one T1 10 W).mono (fun e w' (h : e = .returned (.int .i64 (Lib.countByte T1.data.toList 10)) ∧ w' = W) => (⟨h.1, by rw [h.2]; exact Keep.refl _ _⟩ : e = .returned (.int .i64 (Lib.countByte T1.data.toList 10)) ∧ Keep NoB W w')))
   have hsum0 := HFe.out
   have hbnd0 := HFc.out
   rw [hly.out] at hsum0
   generalize Lib.countByte T0.data.toList 10 = c0 at *
   generalize Lib.countByte T1.data.toList 10 = c1 at *
   generalize tgN fs ny = t at *
   have hsum : ((c1 : Nat) : Int) + ((t : Nat) : Int) = ((c0 : Nat) : Int) := by omega
   have hbnd : c0 ≤ 140000 ∧ c1 ≤ 140000 := hbnd0
   clear hsum0 hbnd0 HFe HFc HLb HLn HTg HTn hlt hk
   go_wp2_with fail
   refine wp_region_props6 (fun i => [84, 85, 86, 87, 88, 89, 90, 91, 92, 93, 94, 2].getD i 0) 9999 (NoB) (fun _ => false) (by kernel_rfl) (by kernel_rfl) (by kernel_rfl) (SLz (.agg #[.slice X nx cx, .slice Y ny cy] : Value) T0 T1 c0 c1 t) (fun i u x y _ _ _ h hk => SLz_stable _ _ _ _ _ _ i u x y h (hk.mono (fun _ hf _ => hf))) (fun i u x y _ h hk => SLz_stable _ _ _ _ _ _ i u x y h hk) rfl ?step ?spec ?fin
   case step =>
    intro i o a w' hoo hic hF hK hA
    have hi : i < 12 := by simpa using (Array.getElem?_eq_some_iff.1 hoo).1
    by_cases h0 : i = 0
    ·subst h0
     simp only [List.getElem?_toArray, List.getElem?_cons_zero, Option.some.injEq] at hoo
     subst hoo
     have e3 : a.tmps.getD 3 undef = .bool true := hF.2.2 3 (by decide)
     refine Does.plain rfl ?_
     unfold yieldsK
     go_simp
     exact ⟨rfl, Keep.refl _ _⟩
    by_cases h1 : i = 1
    ·subst h1
     simp only [List.getElem?_toArray, List.getElem?_cons_zero, List.getElem?_cons_succ, Option.some.injEq] at hoo
     subst hoo
     have e84 : a.tmps.getD 84 undef = .bool true := hA ⟨0, .data⟩ (by simp) rfl
     refine Does.plain rfl ?_
     unfold yieldsK
     go_simp
     exact ⟨rfl, Keep.refl _ _⟩
    by_cases h2 : i = 2
    ·subst h2
     simp only [List.getElem?_toArray, List.getElem?_cons_zero, List.getElem?_cons_succ, Option.some.injEq] at hoo
     subst hoo
     have e4 : a.tmps.getD 4 undef = .string T0 := hF.2.2 4 (by decide)
     refine Does.yes (j := 1) (d := 85) (want := true) rfl rfl (hA ⟨1, .guard⟩ (by simp) rfl) ?_
     unfold yieldsK
     go_simp
     exact ⟨rfl, Keep.refl _ _⟩
    by_cases h3 : i = 3
    ·subst h3
     simp only [List.getElem?_toArray, List.getElem?_cons_zero, List.getElem?_cons_succ, Option.some.injEq] at hoo
     subst hoo
     have e86 : a.tmps.getD 86 undef = .string T0 := hA ⟨2, .data⟩ (by simp) rfl
     refine Does.yes (j := 1) (d := 85) (want := true) rfl rfl (hA ⟨1, .guard⟩ (by simp) rfl) ?_
     unfold yieldsK
     go_simp
     refine (HCo0.out w').mono ?_
     rintro e w9 ⟨rfl, h9⟩
     exact ⟨_, rfl, rfl, h9⟩
    by_cases h4 : i = 4
    ·subst h4
     simp only [List.getElem?_toArray, List.getElem?_cons_zero, List.getElem?_cons_succ, Option.some.injEq] at hoo
     subst hoo
     have e1 : a.tmps.getD 1 undef = .pointer (some ⟨gp, 0, none⟩) := hF.2.2 1 (by decide)
     have c0 := Keep.cell hK p0 id
     have c1 := Keep.cell hK p1 id
     refine Does.yes (j := 1) (d := 85) (want := true) rfl rfl (hA ⟨1, .guard⟩ (by simp) rfl) ?_
     unfold yieldsK
     go_simp
     exact ⟨rfl, Keep.refl _ _⟩
    by_cases h5 : i = 5
    ·subst h5
     simp only [List.getElem?_toArray, List.getElem?_cons_zero, List.getElem?_cons_succ, Option.some.injEq] at hoo
     subst hoo
     have e88 : a.tmps.getD 88 undef = (.agg #[.slice X nx cx, .slice Y ny cy] : Value) := hA ⟨4, .data⟩ (by simp) rfl
     refine Does.yes (j := 1) (d := 85) (want := true) rfl rfl (hA ⟨1, .guard⟩ (by simp) rfl) ?_
     unfold yieldsK
     go_simp
     refine (HPl.out w' (keepN (keepN gK K) hK)).mono ?_
     rintro e w9 ⟨rfl, h9⟩
     exact ⟨_, rfl, rfl, h9⟩
    by_cases h6 : i = 6
    ·subst h6
     simp only [List.getElem?_toArray, List.getElem?_cons_zero, List.getElem?_cons_succ, Option.some.injEq] at hoo
     subst hoo
     have e89 : a.tmps.getD 89 undef = .string T1 := hA ⟨5, .data⟩ (by simp) rfl
     refine Does.yes (j := 1) (d := 85) (want := true) rfl rfl (hA ⟨1, .guard⟩ (by simp) rfl) ?_
     unfold yieldsK
     go_simp
     refine (HCo1.out w').mono ?_
     rintro e w9 ⟨rfl, h9⟩
     exact ⟨_, rfl, rfl, h9⟩
    by_cases h7 : i = 7
    ·subst h7
     simp only [List.getElem?_toArray, List.getElem?_cons_zero, List.getElem?_cons_succ, Option.some.injEq] at hoo
     subst hoo
     have e5 : a.tmps.getD 5 undef = .int .i64 ((t : Nat) : Int) := hF.2.2 5 (by decide)
     refine Does.yes (j := 1) (d := 85) (want := true) rfl rfl (hA ⟨1, .guard⟩ (by simp) rfl) ?_
     unfold yieldsK
     go_simp
     exact ⟨rfl, Keep.refl _ _⟩
    by_cases h8 : i = 8
    ·subst h8
     simp only [List.getElem?_toArray, List.getElem?_cons_zero, List.getElem?_cons_succ, Option.some.injEq] at hoo
     subst hoo
     have e90 : a.tmps.getD 90 undef = .int .i64 ((c1 : Nat) : Int) := hA ⟨6, .data⟩ (by simp) rfl
     have e91 : a.tmps.getD 91 undef = .int .i64 ((t : Nat) : Int) := hA ⟨7, .data⟩ (by simp) rfl
     have hs1 := hsum
     have hwr : IntKind.i64.wrap ((c0 : Nat) : Int) = ((c0 : Nat) : Int) := IntWalk.i64_in _ (by omega)
     refine Does.yes (j := 1) (d := 85) (want := true) rfl rfl (hA ⟨1, .guard⟩ (by simp) rfl) ?_
     unfold yieldsK
     go_simp
     exact ⟨rfl, Keep.refl _ _⟩
    by_cases h9 : i = 9
    ·subst h9
     simp only [List.getElem?_toArray, List.getElem?_cons_zero, List.getElem?_cons_succ, Option.some.injEq] at hoo
     subst hoo
     have e87 : a.tmps.getD 87 undef = .int .i64 ((c0 : Nat) : Int) := hA ⟨3, .data⟩ (by simp) rfl
     have e92 : a.tmps.getD 92 undef = .int .i64 ((c0 : Nat) : Int) := hA ⟨8, .data⟩ (by simp) rfl
     refine Does.yes (j := 1) (d := 85) (want := true) rfl rfl (hA ⟨1, .guard⟩ (by simp) rfl) ?_
     unfold yieldsK
     go_simp
     exact ⟨rfl, Keep.refl _ _⟩
    by_cases h10 : i = 10
    ·subst h10
     simp only [List.getElem?_toArray, List.getElem?_cons_zero, List.getElem?_cons_succ, Option.some.injEq] at hoo
     subst hoo
     have e85 : a.tmps.getD 85 undef = .bool true := hA ⟨1, .data⟩ (by simp) rfl
     have e93 : a.tmps.getD 93 undef = .bool true := hA ⟨9, .data⟩ (by simp) rfl
     refine Does.plain rfl ?_
     unfold yieldsK
     go_simp
     exact ⟨rfl, Keep.refl _ _⟩
    by_cases h11 : i = 11
    ·subst h11
     simp only [List.getElem?_toArray, List.getElem?_cons_zero, List.getElem?_cons_succ, Option.some.injEq] at hoo
     subst hoo
     have e94 : a.tmps.getD 94 undef = .bool true := hA ⟨10, .data⟩ (by simp) rfl
     refine Does.plain rfl ?_
     unfold yieldsK
     go_simp
     exact ⟨rfl, Keep.refl _ _⟩
    omega
   case spec =>
    intro o a w' hoo
    simp at hoo
   case fin =>
    intro a w' hF gKz hA
    have e2 : a.tmps.getD 2 undef = .bool true := hA 11 (by decide)
    have ha := frameD_list (l := [84, 85, 86, 87, 88, 89, 90, 91, 92, 93, 94, 2]) rfl hF
    rw [ha]
    simp only [List.map_cons, List.map_nil, e2]
    generalize a.tmps.getD 84 undef = u0
    generalize a.tmps.getD 85 undef = u1
    generalize a.tmps.getD 86 undef = u2
    generalize a.tmps.getD 87 undef = u3
    generalize a.tmps.getD 88 undef = u4
    generalize a.tmps.getD 89 undef = u5
    generalize a.tmps.getD 90 undef = u6
    generalize a.tmps.getD 91 undef = u7
    generalize a.tmps.getD 92 undef = u8
    generalize a.tmps.getD 93 undef = u9
    generalize a.tmps.getD 94 undef = u10
    simp only [fillD, List.setIfInBounds_toArray, List.set_cons_zero, List.set_cons_succ]
    have HKF := Lib.hid (keepN (keepN gK K) gKz)
    clear hA hF ha e2 K gKz
    go_wp2
    go_ret
    exact ⟨rfl, HKF.out⟩

end Go.Proofs.YtgnooffedmeenaaGreatDoor.M.L
