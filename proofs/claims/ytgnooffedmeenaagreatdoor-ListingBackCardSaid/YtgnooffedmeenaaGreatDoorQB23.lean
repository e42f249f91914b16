/-
  Part 23 of the proofs of LBackRow, LLabelsRow: what is laid, and what the functions that the law runs answer. Conditions: each theorem names its own.
-/
import Derived.Test.YtgnooffedmeenaaGreatDoorQB22
namespace Go.Proofs.YtgnooffedmeenaaGreatDoor.M.L
open Go.RowKit W

theorem str_bytes (l : Bs) : (str l).data.toList = l := by unfold str; simp
theorem cnt_sum (es : List I.SE) (fs : List I.FE) : ((I.imOf es fs).fn.map fun f => f.bd.length).sum = cntF fs := by
 unfold cntF I.imOf
 simp only [List.map_map]
 rfl
theorem parse_any {w W : World} {v : I.IV} {es : List I.SE} {fs : List I.FE} (h : I.ImAt w v es fs) (hc : cntF fs ≤ 500) (hok : I.okI (I.imOf es fs) = true) (kind : Nat) (hk : kind ≤ 2) (hE : EnvM W) :
  Calls Tryz.prog 31 #[.string (str (textL kind (I.imOf es fs)))] W fun e w' => ∃ (u : I.IV) (eu : List I.SE) (fu : List I.FE) (l c : Int), e = .returned (.tuple #[u.val, .int .i64 l, .int .i64 c]) ∧ I.ImAt w' u eu fu ∧ I.SmI eu fu ∧
   ((str (textL kind (I.imOf es fs))).size ≤ 131072 → c = 0 ∧ I.imOf eu fu = I.imOf es fs) ∧ Keep NoB W w' := by
 have ht : textL kind (I.imOf es fs) = textR kind (I.imOf es fs) := by unfold textL; rw [if_pos hok]
 have hs : (str (textL kind (I.imOf es fs))).data.toList = textR kind (I.imOf es fs) := by rw [str_bytes, ht]
 have hz : (str (textL kind (I.imOf es fs))).size = (textR kind (I.imOf es fs)).length := by rw [← hs]; rfl
 have h1 := textR_140 (imOk_of h hok) kind (by rw [cnt_sum]; exact hc)
 refine (parse_t _ _ W hE (Lib.hid hs) (by omega)).mono ?_
 rintro e w' ⟨u, eu, fu, rfl, ho, hsm, hi, k⟩
 refine ⟨u, eu, fu, _, _, rfl, ho.im, hsm, fun hl => ?_, k⟩
 have h2 := parse_list hok hk (by omega : (textR kind (I.imOf es fs)).length ≤ 131072)
 rw [h2] at hi ⊢
 exact ⟨rfl, hi⟩
theorem normal_list {w W : World} {v : I.IV} {es : List I.SE} {fs : List I.FE} (h : I.ImAt w v es fs) (hc : cntF fs ≤ 500) (hok : I.okI (I.imOf es fs) = true) (kind kind2 : Nat) (hk : (kind = 0 ∧ kind2 = 0) ∨ (kind = 2 ∧ kind2 = 1)) (hE : EnvM W) :
  Calls Tryz.prog 33 #[.string (str (textL kind (I.imOf es fs)))] W fun e w' => e = .returned (.string (str (textL kind2 (I.imOf es fs)))) ∧ Keep NoB W w' := by
 have ht : ∀ k, textL k (I.imOf es fs) = textR k (I.imOf es fs) := fun k => by unfold textL; rw [if_pos hok]
 have hs : (str (textL kind (I.imOf es fs))).data.toList = textR kind (I.imOf es fs) := by rw [str_bytes, ht]
 have hz : (str (textL kind (I.imOf es fs))).size = (textR kind (I.imOf es fs)).length := by rw [← hs]; rfl
 have h1 := textR_140 (imOk_of h hok) kind (by rw [cnt_sum]; exact hc)
 have h2 := norm_list hok
 have h3 := norm_t _ _ W hE (Lib.hid hs) (by omega)
 have h4 : normL (textR kind (I.imOf es fs)) = textL kind2 (I.imOf es fs) := by
  rw [ht]
  rcases hk with ⟨rfl, rfl⟩ | ⟨rfl, rfl⟩
  ·exact h2.1
  ·exact h2.2
 rw [h4] at h3
 exact h3

def SBk (av : Value) (T0 T1 T2 : ByteArray) : Nat → Value → World → Prop
 | 0 | 2 | 4 => fun u _ => u = av
 | 1 => fun u _ => u = .string T0
 | 3 => fun u _ => u = .string T1
 | 5 => fun u _ => u = .string T2
 | 6 => fun u W => ∃ g, u = .slice (some ⟨g, 0, none⟩) 3 3 ∧ Blk W g 9 #[.string T0, .string T1, .string T2]
 | 7 => fun u _ => u = .int .i64 3
 | 8 => fun u _ => u = .int .i64 0
 | _ => fun _ _ => True
theorem SBk_stable (av : Value) (T0 T1 T2 : ByteArray) : ∀ i u W W', SBk av T0 T1 T2 i u W → Keep NoB W W' → SBk av T0 T1 T2 i u W'
 | 0, _, _, _, h, _ | 1, _, _, _, h, _ | 2, _, _, _, h, _ | 3, _, _, _, h, _ | 4, _, _, _, h, _ | 5, _, _, _, h, _ | 7, _, _, _, h, _ | 8, _, _, _, h, _ => h
 | 6, _, _, _, ⟨g, e, hb⟩, hk => ⟨g, e, hb.keep hk id⟩
 | _ + 9, _, _, _, h, _ => h
def SBz (av : Value) (T0 T1 T2 : ByteArray) : Nat → Value → World → Prop
 | 2 | 5 | 10 | 13 => fun u _ => u = av
 | 3 | 4 | 6 => fun u _ => u = .string T0
 | 12 | 14 => fun u _ => u = .string T1
 | 11 => fun u _ => u = .string T2
 | _ => fun u _ => u = .bool true
theorem SBz_stable (av : Value) (T0 T1 T2 : ByteArray) (i : Nat) (u : Value) (W W' : World) (h : SBz av T0 T1 T2 i u W) (_hk : Keep NoB W W') : SBz av T0 T1 T2 i u W' := by
 unfold SBz at h ⊢
 split at h <;> exact h

set_option maxRecDepth 100000 in
set_option maxHeartbeats 16000000 in
theorem back_walk (v : I.IV) (es : List I.SE) (fs : List I.FE) (w : World) (h : I.ImAt w v es fs) (hl : I.LgI v es fs) (hE : EnvM w) :
  Calls Tryz.prog 6 #[v.val] w fun e w' => e = .returned (.bool true) ∧ Keep NoB w w' := by
 have bx := Blk.new w 25 v.cells
 have gK := (Keep.refl NoB w).alloc (.cells v.cells 25)
 have HIV := Lib.hid (fun W (hk : Keep NoB w W) => (h.keepN hk : I.ImAt W v es fs))
 have HLG := Lib.hid hl
 have HEn := Lib.hid (fun W (hk : Keep NoB w W) => (hE.keep hk : EnvM W))
 have HAl := Lib.hid (fun W (hk : Keep NoB w W) => alive_any W (hE.keep hk).1)
 have HG := Lib.hid (fun W (hk : Keep NoB w W) => I.great_any v es fs W (h.keepN hk) hl)
 have HCn := Lib.hid (fun W (hk : Keep NoB w W) (hs : I.SmI es fs) => count_any v es fs W (h.keepN hk) hs)
 have HCk := Lib.hid (fun W (hk : Keep NoB w W) => I.check_any v es fs W (h.keepN hk) hl (I.chkI (I.imOf es fs)) rfl)
 clear h hl hE
 obtain ⟨X, nx, cx, Y, ny, cy⟩ := v
 dsimp only [I.IV.val, I.IV.cells] at *
 have HB : Hid (∀ W, Keep NoB (w.alloc (.cells #[.slice X nx cx, .slice Y ny cy] 25)) W → W.cell? ⟨w.heap.size, 0, none⟩ = some (.slice X nx cx) ∧ W.cell? ⟨w.heap.size, 1, none⟩ = some (.slice Y ny cy)) :=
  fun W hk => ⟨(bx.keep hk id).cell 0, (bx.keep hk id).cell 1⟩
 clear bx
 go_enter Tryz.func6, Tryz.ntmps6
 go_wp2_with fail
 have b0 := Keep.refl NoB (w.alloc (.cells #[.slice X nx cx, .slice Y ny cy] 25))
 generalize w.alloc (.cells #[.slice X nx cx, .slice Y ny cy] 25) = wE at *
 generalize w.heap.size = gp at *
 refine (HAl.out _ gK).mono ?_
 rintro e w1 ⟨rfl, k1⟩
 have K := keepN b0 k1
 clear k1 b0 HAl
 obtain ⟨p0, p1⟩ := HB.out _ K
 go_wp2_with fail
 refine (HG.out _ (keepN gK K)).mono ?_
 rintro e w2 ⟨hg, k2⟩
 replace K := keepN K k2
 clear k2 HG p0 p1
 obtain ⟨p0, p1⟩ := HB.out _ K
 rcases hg with ⟨rfl, hg1, _⟩ | rfl
 rotate_left
 ·have HK := Lib.hid (keepN gK K)
  clear HIV HLG HEn HCn HCk HB gK K
  go_wp2
  go_ret
  exact ⟨rfl, HK.out⟩
 have HSM := Lib.hid hg1
 clear hg1
 go_wp2_with fail
 refine (HCn.out _ (keepN gK K) HSM.out).mono ?_
 rintro e w3 ⟨rfl, k3⟩
 replace K := keepN K k3
 clear k3 p0 p1 HCn
 obtain ⟨p0, p1⟩ := HB.out _ K
 have HC5 : Hid (cntF fs = cntF fs) := rfl
 generalize hcn0 : cntF fs = cn at HC5 ⊢
 by_cases hcn : cn ≤ 500
 rotate_left
 ·have hq : decide ((500 : Int) < (cn : Int)) = true := by rw [decide_eq_true_iff]; omega
  have HK := Lib.hid (keepN gK K)
  clear HIV HLG HEn HCk HB gK K
  go_wp2
  go_ret
  exact ⟨rfl, HK.out⟩
 have hq : decide ((500 : Int) < (cn : Int)) = false := by rw [decide_eq_false_iff_not]; omega
 replace HC5 : Hid (cntF fs ≤ 500) := by show _ ≤ _; rw [hcn0]; exact hcn
 clear hcn hcn0
 go_wp2_with fail
 refine (HCk.out _ (keepN gK K)).mono ?_
 rintro e w4 ⟨rfl, k4⟩
 replace K := keepN K k4
 clear k4 HCk p0 p1 hq
 obtain ⟨p0, p1⟩ := HB.out _ K
 by_cases hok : I.okI (I.imOf es fs) = true
 rotate_left
 ·rw [I.chkI_no (by simpa using hok)]
  have HLs := Lib.hid (fun W (hk : Keep NoB w W) => listApi_any ⟨X, nx, cx, Y, ny, cy⟩ es fs W (HIV.out _ hk) HLG.out (HEn.out _ hk).1)
  dsimp only [I.IV.val, I.IV.cells] at HLs
  have hnil : textL 0 (I.imOf es fs) = [] := by unfold textL; rw [if_neg hok]
  rw [hnil] at HLs
  go_wp2_with fail
  refine (HLs.out _ (keepN gK K)).mono ?_
  rintro e w5 ⟨rfl, k5⟩
  have HK := Lib.hid (keepN gK (keepN K k5))
  have hst : (str [] : ByteArray) = ⟨#[]⟩ := rfl
  rw [hst]
  clear HIV HLG HEn HB gK K k5 HLs p0 p1 hok hnil hst
  go_wp2
  go_ret
  exact ⟨rfl, HK.out⟩
 rw [I.chkI_ok hok]
 have Hok := Lib.hid hok
 clear hok
 have HLs := Lib.hid (fun W (hk : Keep NoB w W) => listApi_any ⟨X, nx, cx, Y, ny, cy⟩ es fs W (HIV.out _ hk) HLG.out (HEn.out _ hk).1)
 have HPl := Lib.hid (fun W (hk : Keep NoB w W) => plainApi_any ⟨X, nx, cx, Y, ny, cy⟩ es fs W (HIV.out _ hk) HLG.out (HEn.out _ hk).1)
 have HNu := Lib.hid (fun W (hk : Keep NoB w W) => numberedApi_any ⟨X, nx, cx, Y, ny, cy⟩ es fs W (HIV.out _ hk) HLG.out (HEn.out _ hk).1)
 have HPs := Lib.hid (fun W (hk : Keep NoB w W) (kind : Nat) (hk2 : kind ≤ 2) => parse_any (HIV.out _ hk) HC5.out Hok.out kind hk2 (HEn.out _ hk))
 have HN0 := Lib.hid (fun W (hk : Keep NoB w W) => normal_list (HIV.out _ hk) HC5.out Hok.out 0 0 (.inl ⟨rfl, rfl⟩) (HEn.out _ hk))
 have HN2 := Lib.hid (fun W (hk : Keep NoB w W) => normal_list (HIV.out _ hk) HC5.out Hok.out 2 1 (.inr ⟨rfl, rfl⟩) (HEn.out _ hk))
 have HSm := Lib.hid (fun W (hk : Keep NoB w W) (u : I.IV) (eu : List I.SE) (fu : List I.FE) (hu : I.ImAt W u eu fu) (hs : I.SmI eu fu) => I.same_any ⟨X, nx, cx, Y, ny, cy⟩ u es eu fs fu W (HIV.out _ hk) hu HSM.out hs)
 dsimp only [I.IV.val, I.IV.cells] at HLs HPl HNu HPs HN0 HN2 HSm
 obtain ⟨T0, hT0⟩ : ∃ T0, str (textL 0 (I.imOf es fs)) = T0 := ⟨_, rfl⟩
 obtain ⟨T1, hT1⟩ : ∃ T1, str (textL 1 (I.imOf es fs)) = T1 := ⟨_, rfl⟩
 obtain ⟨T2, hT2⟩ : ∃ T2, str (textL 2 (I.imOf es fs)) = T2 := ⟨_, rfl⟩
 rw [hT0] at HLs HN0
 rw [hT1] at HPl HN2
 rw [hT2] at HNu HN2
 have HTk : Hid (∀ k, k < 3 → ∃ kind, kind ≤ 2 ∧ ∀ W g, Blk W g 9 #[.string T0, .string T1, .string T2] → W.cell? ⟨g, k, none⟩ = some (.string (str (textL kind (I.imOf es fs))))) := by
  intro k hk
  rcases k with _ | _ | _ | k
  ·exact ⟨0, by omega, fun W g h => by rw [hT0]; exact h.cell 0⟩
  ·exact ⟨1, by omega, fun W g h => by rw [hT1]; exact h.cell 1⟩
  ·exact ⟨2, by omega, fun W g h => by rw [hT2]; exact h.cell 2⟩
  ·omega
 clear hT0 hT1 hT2 HIV HLG HEn HSM HC5 Hok
 go_wp2_with fail
 refine wp_region_props6 (fun i => [32, 33, 34, 35, 36, 37, 38, 39, 40].getD i 0) 9999 (NoB) (fun _ => false) (by kernel_rfl) (by kernel_rfl) (by kernel_rfl) (SBk (.agg #[.slice X nx cx, .slice Y ny cy] : Value) T0 T1 T2) (fun i u x y _ _ _ h hk => SBk_stable _ _ _ _ i u x y h (hk.mono (fun _ hf _ => hf))) (fun i u x y _ h hk => SBk_stable _ _ _ _ i u x y h hk) rfl ?step ?spec ?fin
 case step =>
  intro i o a w' hoo hic hF hK hA
  have hi : i < 9 := by simpa using (Array.getElem?_eq_some_iff.1 hoo).1
  by_cases h0 : i = 0
  ·subst h0
   simp only [List.getElem?_toArray, List.getElem?_cons_zero, Option.some.injEq] at hoo
   subst hoo
   have e1 : a.tmps.getD 1 undef = .pointer (some ⟨gp, 0, none⟩) := hF.2.2 1 (by decide)
   have c0 := Keep.cell hK p0 id
   have c1 := Keep.cell hK p1 id
   refine Does.plain rfl ?_
   unfold yieldsK
   go_simp
   exact ⟨rfl, Keep.refl _ _⟩
  by_cases h1 : i = 1
  ·subst h1
   simp only [List.getElem?_toArray, List.getElem?_cons_zero, List.getElem?_cons_succ, Option.some.injEq] at hoo
   subst hoo
   have e32 : a.tmps.getD 32 undef = (.agg #[.slice X nx cx, .slice Y ny cy] : Value) := hA ⟨0, .data⟩ (by simp) rfl
   refine Does.plain rfl ?_
   unfold yieldsK
   go_simp
   refine (HLs.out w' (keepN (keepN gK K) hK)).mono ?_
   rintro e w9 ⟨rfl, h9⟩
   exact ⟨_, rfl, rfl, h9⟩
  by_cases h2 : i = 2
  ·subst h2
   simp only [List.getElem?_toArray, List.getElem?_cons_zero, List.getElem?_cons_succ, Option.some.injEq] at hoo
   subst hoo
   have e1 : a.tmps.getD 1 undef = .pointer (some ⟨gp, 0, none⟩) := hF.2.2 1 (by decide)
   have c0 := Keep.cell hK p0 id
   have c1 := Keep.cell hK p1 id
   refine Does.plain rfl ?_
   unfold yieldsK
   go_simp
   exact ⟨rfl, Keep.refl _ _⟩
  by_cases h3 : i = 3
  ·subst h3
   simp only [List.getElem?_toArray, List.getElem?_cons_zero, List.getElem?_cons_succ, Option.some.injEq] at hoo
   subst hoo
   have e34 : a.tmps.getD 34 undef = (.agg #[.slice X nx cx, .slice Y ny cy] : Value) := hA ⟨2, .data⟩ (by simp) rfl
   refine Does.plain rfl ?_
   unfold yieldsK
   go_simp
   refine (HPl.out w' (keepN (keepN gK K) hK)).mono ?_
   rintro e w9 ⟨rfl, h9⟩
   exact ⟨_, rfl, rfl, h9⟩
  by_cases h4 : i = 4
  ·subst h4
   simp only [List.getElem?_toArray, List.getElem?_cons_zero, List.getElem?_cons_succ, Option.some.injEq] at hoo
   subst hoo
   have e1 : a.tmps.getD 1 undef = .pointer (some ⟨gp, 0, none⟩) := hF.2.2 1 (by decide)
   have c0 := Keep.cell hK p0 id
   have c1 := Keep.cell hK p1 id
   refine Does.plain rfl ?_
   unfold yieldsK
   go_simp
   exact ⟨rfl, Keep.refl _ _⟩
  by_cases h5 : i = 5
  ·subst h5
   simp only [List.getElem?_toArray, List.getElem?_cons_zero, List.getElem?_cons_succ, Option.some.injEq] at hoo
   subst hoo
   have e36 : a.tmps.getD 36 undef = (.agg #[.slice X nx cx, .slice Y ny cy] : Value) := hA ⟨4, .data⟩ (by simp) rfl
   refine Does.plain rfl ?_
   unfold yieldsK
   go_simp
   refine (HNu.out w' (keepN (keepN gK K) hK)).mono ?_
   rintro e w9 ⟨rfl, h9⟩
   exact ⟨_, rfl, rfl, h9⟩
  by_cases h6 : i = 6
  ·subst h6
   simp only [List.getElem?_toArray, List.getElem?_cons_zero, List.getElem?_cons_succ, Option.some.injEq] at hoo
   subst hoo
   have e33 : a.tmps.getD 33 undef = .string T0 := hA ⟨1, .data⟩ (by simp) rfl
   have e35 : a.tmps.getD 35 undef = .string T1 := hA ⟨3, .data⟩ (by simp) rfl
   have e37 : a.tmps.getD 37 undef = .string T2 := hA ⟨5, .data⟩ (by simp) rfl
   refine Does.plain rfl ?_
   unfold yieldsK
   simp only [Array.getD_eq_getD_getElem?] at e33 e35 e37
   go_simp
   exact ⟨⟨w'.heap.size, rfl, Blk.new _ _ _⟩, (Keep.refl _ _).alloc _⟩
  by_cases h7 : i = 7
  ·subst h7
   simp only [List.getElem?_toArray, List.getElem?_cons_zero, List.getElem?_cons_succ, Option.some.injEq] at hoo
   subst hoo
   obtain ⟨g, e38, hb⟩ := hA ⟨6, .data⟩ (by simp) rfl
   have e38 : a.tmps.getD 38 undef = .slice (some ⟨g, 0, none⟩) 3 3 := e38
   refine Does.plain rfl ?_
   unfold yieldsK
   go_simp
   exact ⟨rfl, Keep.refl _ _⟩
  by_cases h8 : i = 8
  ·subst h8
   simp only [List.getElem?_toArray, List.getElem?_cons_zero, List.getElem?_cons_succ, Option.some.injEq] at hoo
   subst hoo
   refine Does.plain rfl ?_
   unfold yieldsK
   go_simp
   exact ⟨rfl, Keep.refl _ _⟩
  omega
 case spec =>
  intro o a w' hoo
  simp at hoo
 case fin =>
  intro a w' hF gK_ hA
  obtain ⟨g, e38, hb⟩ := hA 6 (by decide)
  have e38 : a.tmps.getD 38 undef = .slice (some ⟨g, 0, none⟩) 3 3 := e38
  have e39 : a.tmps.getD 39 undef = .int .i64 3 := hA 7 (by decide)
  have e40 : a.tmps.getD 40 undef = .int .i64 0 := hA 8 (by decide)
  have ha := frameD_list (l := [32, 33, 34, 35, 36, 37, 38, 39, 40]) rfl hF
  rw [ha]
  simp only [List.map_cons, List.map_nil, e38, e39, e40]
  generalize a.tmps.getD 32 undef = u0
  generalize a.tmps.getD 33 undef = u1
  generalize a.tmps.getD 34 undef = u2
  generalize a.tmps.getD 35 undef = u3
  generalize a.tmps.getD 36 undef = u4
  generalize a.tmps.getD 37 undef = u5
  simp only [fillD, List.setIfInBounds_toArray, List.set_cons_zero, List.set_cons_succ]
  have HK7 := Lib.hid (keepN K gK_)
  have HBl := Lib.hid (fun W (hk : Keep NoB w' W) => (hb.keep hk id : Blk W g 9 #[.string T0, .string T1, .string T2]))
  clear hA hF ha e38 e39 e40 hb gK_ p0 p1 K
  go_wp2
  go_loopw [40] (fun i wr => ∃ k : Nat, k ≤ 3 ∧ i = .int .i64 (k : Int) ∧ Hid (Keep NoB w' wr)) (fun i _ => 3 - (intOf i).toNat)
  case atStart => exact ⟨0, by omega, rfl, Keep.refl _ _⟩
  case round =>
   obtain ⟨k, hk, rfl, hkr⟩ := hrel
   have Kr := keepN HK7.out hkr.out
   by_cases hlt : k < 3
   ·obtain ⟨kind, hk2, hTk⟩ := HTk.out k hlt
    have cS := hTk _ _ (HBl.out _ hkr.out)
    have hPk := HPs.out _ (keepN gK Kr) kind hk2
    generalize str (textL kind (I.imOf es fs)) = S at cS hPk
    have hPk := Lib.hid hPk
    clear hTk hk2
    go_wp2_with fail
    refine hPk.out.mono ?_
    rintro e w9 ⟨⟨uX, unx, ucx, uY, uny, ucy⟩, eu, fu, l, c, rfl, hu, hsu, hq, k9⟩
    dsimp only [I.IV.val, I.IV.cells] at *
    have b6 := Blk.new w9 25 #[.slice uX unx ucx, .slice uY uny ucy]
    have kA := (Keep.refl NoB w9).alloc (.cells #[.slice uX unx ucx, .slice uY uny ucy] 25)
    have K9 := keepN k9 kA
    have K9w := keepN Kr K9
    obtain ⟨p0, p1⟩ := HB.out _ K9w
    obtain ⟨q0, q1⟩ := And.intro (b6.cell 0) (b6.cell 1)
    simp only [List.getElem?_toArray, List.getElem?_cons_zero, List.getElem?_cons_succ] at q0 q1
    have hu2 := hu.keepN kA
    have HS := Lib.hid (HSm.out _ (keepN gK K9w) ⟨uX, unx, ucx, uY, uny, ucy⟩ eu fu hu2 hsu)
    have HR := Lib.hid (keepN hkr.out K9)
    dsimp only [I.IV.val, I.IV.cells] at HS
    by_cases hz : S.size ≤ 131072
    ·obtain ⟨rfl, hie⟩ := hq hz
     rw [hie, I.same_self] at HS
     have hqz : decide ((S.size : Int) ≤ 131072) = true := by rw [decide_eq_true_iff]; omega
     clear hu hu2 hsu hie hq hz kA K9 K9w b6 k9 Kr hPk cS
     go_wp2_with fail
     refine HS.out.mono ?_
     rintro e w10 ⟨rfl, k10⟩
     have HR2 := Lib.hid (keepN HR.out k10)
     clear HR k10 HS p0 p1 q0 q1
     go_wp2
     go_roundw
     case rel => exact ⟨k + 1, by omega, by go_num, HR2.out⟩
     case measure => simp [intOf]; omega
    ·have hqz : decide ((S.size : Int) ≤ 131072) = false := by rw [decide_eq_false_iff_not]; omega
     clear hu hu2 hsu hq hz kA K9 K9w b6 k9 Kr hPk cS HS
     go_wp2
     go_roundw
     case rel => exact ⟨k + 1, by omega, by go_num, HR.out⟩
     case measure => simp [intOf]; omega
   ·obtain rfl : k = 3 := by omega
    obtain ⟨z0, z1⟩ := HB.out _ Kr
    have KZ := keepN gK Kr
    clear hkr Kr HBl HTk HK7
    go_wp2_with fail
    refine wp_region_props6 (fun i => [64, 65, 66, 67, 68, 69, 70, 71, 72, 73, 74, 75, 76, 77, 78, 79, 80, 2].getD i 0) 9999 (NoB) (fun _ => false) (by kernel_rfl) (by kernel_rfl) (by kernel_rfl) (SBz (.agg #[.slice X nx cx, .slice Y ny cy] : Value) T0 T1 T2) (fun i u x y _ _ _ h hk => SBz_stable _ _ _ _ i u x y h (hk.mono (fun _ hf _ => hf))) (fun i u x y _ h hk => SBz_stable _ _ _ _ i u x y h hk) rfl ?step ?spec ?fin
    case step =>
     intro i o a w' hoo hic hF hK hA
     have hi : i < 18 := by simpa using (Array.getElem?_eq_some_iff.1 hoo).1
     by_cases h0 : i = 0
     ·subst h0
      simp only [List.getElem?_toArray, List.getElem?_cons_zero, Option.some.injEq] at hoo
      subst hoo
      have e3 : a.tmps.getD 3 undef = .bool true := hF.2.2 3 (by decide)
      refine Does.plain rfl ?_
      unfold yieldsK
      go_simp
      exact ⟨rfl, Keep.refl _ _⟩
     by_cases h1 : i = 1
     ·subst h1
      simp only [List.getElem?_toArray, List.getElem?_cons_zero, List.getElem?_cons_succ, Option.some.injEq] at hoo
      subst hoo
      have e64 : a.tmps.getD 64 undef = .bool true := hA ⟨0, .data⟩ (by simp) rfl
      refine Does.plain rfl ?_
      unfold yieldsK
      go_simp
      exact ⟨rfl, Keep.refl _ _⟩
     by_cases h2 : i = 2
     ·subst h2
      simp only [List.getElem?_toArray, List.getElem?_cons_zero, List.getElem?_cons_succ, Option.some.injEq] at hoo
      subst hoo
      have e1 : a.tmps.getD 1 undef = .pointer (some ⟨gp, 0, none⟩) := hF.2.2 1 (by decide)
      have c0 := Keep.cell hK z0 id
      have c1 := Keep.cell hK z1 id
      refine Does.yes (j := 1) (d := 65) (want := true) rfl rfl (hA ⟨1, .guard⟩ (by simp) rfl) ?_
      unfold yieldsK
      go_simp
      exact ⟨rfl, Keep.refl _ _⟩
     by_cases h3 : i = 3
     ·subst h3
      simp only [List.getElem?_toArray, List.getElem?_cons_zero, List.getElem?_cons_succ, Option.some.injEq] at hoo
      subst hoo
      have e66 : a.tmps.getD 66 undef = (.agg #[.slice X nx cx, .slice Y ny cy] : Value) := hA ⟨2, .data⟩ (by simp) rfl
      refine Does.yes (j := 1) (d := 65) (want := true) rfl rfl (hA ⟨1, .guard⟩ (by simp) rfl) ?_
      unfold yieldsK
      go_simp
      refine (HLs.out w' (keepN KZ hK)).mono ?_
      rintro e w9 ⟨rfl, h9⟩
      exact ⟨_, rfl, rfl, h9⟩
     by_cases h4 : i = 4
     ·subst h4
      simp only [List.getElem?_toArray, List.getElem?_cons_zero, List.getElem?_cons_succ, Option.some.injEq] at hoo
      subst hoo
      have e67 : a.tmps.getD 67 undef = .string T0 := hA ⟨3, .data⟩ (by simp) rfl
      refine Does.yes (j := 1) (d := 65) (want := true) rfl rfl (hA ⟨1, .guard⟩ (by simp) rfl) ?_
      unfold yieldsK
      go_simp
      refine (HN0.out w' (keepN KZ hK)).mono ?_
      rintro e w9 ⟨rfl, h9⟩
      exact ⟨_, rfl, rfl, h9⟩
     by_cases h5 : i = 5
     ·subst h5
      simp only [List.getElem?_toArray, List.getElem?_cons_zero, List.getElem?_cons_succ, Option.some.injEq] at hoo
      subst hoo
      have e1 : a.tmps.getD 1 undef = .pointer (some ⟨gp, 0, none⟩) := hF.2.2 1 (by decide)
      have c0 := Keep.cell hK z0 id
      have c1 := Keep.cell hK z1 id
      refine Does.yes (j := 1) (d := 65) (want := true) rfl rfl (hA ⟨1, .guard⟩ (by simp) rfl) ?_
      unfold yieldsK
      go_simp
      exact ⟨rfl, Keep.refl _ _⟩
     by_cases h6 : i = 6
     ·subst h6
      simp only [List.getElem?_toArray, List.getElem?_cons_zero, List.getElem?_cons_succ, Option.some.injEq] at hoo
      subst hoo
      have e69 : a.tmps.getD 69 undef = (.agg #[.slice X nx cx, .slice Y ny cy] : Value) := hA ⟨5, .data⟩ (by simp) rfl
      refine Does.yes (j := 1) (d := 65) (want := true) rfl rfl (hA ⟨1, .guard⟩ (by simp) rfl) ?_
      unfold yieldsK
      go_simp
      refine (HLs.out w' (keepN KZ hK)).mono ?_
      rintro e w9 ⟨rfl, h9⟩
      exact ⟨_, rfl, rfl, h9⟩
     by_cases h7 : i = 7
     ·subst h7
      simp only [List.getElem?_toArray, List.getElem?_cons_zero, List.getElem?_cons_succ, Option.some.injEq] at hoo
      subst hoo
      have e68 : a.tmps.getD 68 undef = .string T0 := hA ⟨4, .data⟩ (by simp) rfl
      have e70 : a.tmps.getD 70 undef = .string T0 := hA ⟨6, .data⟩ (by simp) rfl
      refine Does.yes (j := 1) (d := 65) (want := true) rfl rfl (hA ⟨1, .guard⟩ (by simp) rfl) ?_
      unfold yieldsK
      go_simp
      exact ⟨rfl, Keep.refl _ _⟩
     by_cases h8 : i = 8
     ·subst h8
      simp only [List.getElem?_toArray, List.getElem?_cons_zero, List.getElem?_cons_succ, Option.some.injEq] at hoo
      subst hoo
      have e65 : a.tmps.getD 65 undef = .bool true := hA ⟨1, .data⟩ (by simp) rfl
      have e71 : a.tmps.getD 71 undef = .bool true := hA ⟨7, .data⟩ (by simp) rfl
      refine Does.plain rfl ?_
      unfold yieldsK
      go_simp
      exact ⟨rfl, Keep.refl _ _⟩
     by_cases h9 : i = 9
     ·subst h9
      simp only [List.getElem?_toArray, List.getElem?_cons_zero, List.getElem?_cons_succ, Option.some.injEq] at hoo
      subst hoo
      have e72 : a.tmps.getD 72 undef = .bool true := hA ⟨8, .data⟩ (by simp) rfl
      refine Does.plain rfl ?_
      unfold yieldsK
      go_simp
      exact ⟨rfl, Keep.refl _ _⟩
     by_cases h10 : i = 10
     ·subst h10
      simp only [List.getElem?_toArray, List.getElem?_cons_zero, List.getElem?_cons_succ, Option.some.injEq] at hoo
      subst hoo
      have e1 : a.tmps.getD 1 undef = .pointer (some ⟨gp, 0, none⟩) := hF.2.2 1 (by decide)
      have c0 := Keep.cell hK z0 id
      have c1 := Keep.cell hK z1 id
      refine Does.yes (j := 9) (d := 73) (want := true) rfl rfl (hA ⟨9, .guard⟩ (by simp) rfl) ?_
      unfold yieldsK
      go_simp
      exact ⟨rfl, Keep.refl _ _⟩
     by_cases h11 : i = 11
     ·subst h11
      simp only [List.getElem?_toArray, List.getElem?_cons_zero, List.getElem?_cons_succ, Option.some.injEq] at hoo
      subst hoo
      have e74 : a.tmps.getD 74 undef = (.agg #[.slice X nx cx, .slice Y ny cy] : Value) := hA ⟨10, .data⟩ (by simp) rfl
      refine Does.yes (j := 9) (d := 73) (want := true) rfl rfl (hA ⟨9, .guard⟩ (by simp) rfl) ?_
      unfold yieldsK
      go_simp
      refine (HNu.out w' (keepN KZ hK)).mono ?_
      rintro e w9 ⟨rfl, h9⟩
      exact ⟨_, rfl, rfl, h9⟩
     by_cases h12 : i = 12
     ·subst h12
      simp only [List.getElem?_toArray, List.getElem?_cons_zero, List.getElem?_cons_succ, Option.some.injEq] at hoo
      subst hoo
      have e75 : a.tmps.getD 75 undef = .string T2 := hA ⟨11, .data⟩ (by simp) rfl
      refine Does.yes (j := 9) (d := 73) (want := true) rfl rfl (hA ⟨9, .guard⟩ (by simp) rfl) ?_
      unfold yieldsK
      go_simp
      refine (HN2.out w' (keepN KZ hK)).mono ?_
      rintro e w9 ⟨rfl, h9⟩
      exact ⟨_, rfl, rfl, h9⟩
     by_cases h13 : i = 13
     ·subst h13
      simp only [List.getElem?_toArray, List.getElem?_cons_zero, List.getElem?_cons_succ, Option.some.injEq] at hoo
      subst hoo
      have e1 : a.tmps.getD 1 undef = .pointer (some ⟨gp, 0, none⟩) := hF.2.2 1 (by decide)
      have c0 := Keep.cell hK z0 id
      have c1 := Keep.cell hK z1 id
      refine Does.yes (j := 9) (d := 73) (want := true) rfl rfl (hA ⟨9, .guard⟩ (by simp) rfl) ?_
      unfold yieldsK
      go_simp
      exact ⟨rfl, Keep.refl _ _⟩
     by_cases h14 : i = 14
     ·subst h14
      simp only [List.getElem?_toArray, List.getElem?_cons_zero, List.getElem?_cons_succ, Option.some.injEq] at hoo
      subst hoo
      have e77 : a.tmps.getD 77 undef = (.agg #[.slice X nx cx, .slice Y ny cy] : Value) := hA ⟨13, .data⟩ (by simp) rfl
      refine Does.yes (j := 9) (d := 73) (want := true) rfl rfl (hA ⟨9, .guard⟩ (by simp) rfl) ?_
      unfold yieldsK
      go_simp
      refine (HPl.out w' (keepN KZ hK)).mono ?_
      rintro e w9 ⟨rfl, h9⟩
      exact ⟨_, rfl, rfl, h9⟩
     by_cases h15 : i = 15
     ·subst h15
      simp only [List.getElem?_toArray, List.getElem?_cons_zero, List.getElem?_cons_succ, Option.some.injEq] at hoo
      subst hoo
      have e76 : a.tmps.getD 76 undef = .string T1 := hA ⟨12, .data⟩ (by simp) rfl
      have e78 : a.tmps.getD 78 undef = .string T1 := hA ⟨14, .data⟩ (by simp) rfl
      refine Does.yes (j := 9) (d := 73) (want := true) rfl rfl (hA ⟨9, .guard⟩ (by simp) rfl) ?_
      unfold yieldsK
      go_simp
      exact ⟨rfl, Keep.refl _ _⟩
     by_cases h16 : i = 16
     ·subst h16
      simp only [List.getElem?_toArray, List.getElem?_cons_zero, List.getElem?_cons_succ, Option.some.injEq] at hoo
      subst hoo
      have e73 : a.tmps.getD 73 undef = .bool true := hA ⟨9, .data⟩ (by simp) rfl
      have e79 : a.tmps.getD 79 undef = .bool true := hA ⟨15, .data⟩ (by simp) rfl
      refine Does.plain rfl ?_
      unfold yieldsK
      go_simp
      exact ⟨rfl, Keep.refl _ _⟩
     by_cases h17 : i = 17
     ·subst h17
      simp only [List.getElem?_toArray, List.getElem?_cons_zero, List.getElem?_cons_succ, Option.some.injEq] at hoo
      subst hoo
      have e80 : a.tmps.getD 80 undef = .bool true := hA ⟨16, .data⟩ (by simp) rfl
      refine Does.plain rfl ?_
      unfold yieldsK
      go_simp
      exact ⟨rfl, Keep.refl _ _⟩
     omega
    case spec =>
     intro o a w' hoo
     simp at hoo
    case fin =>
     intro a w' hF gKz hA
     have e2 : a.tmps.getD 2 undef = .bool true := hA 17 (by decide)
     have ha := frameD_list (l := [64, 65, 66, 67, 68, 69, 70, 71, 72, 73, 74, 75, 76, 77, 78, 79, 80, 2]) rfl hF
     rw [ha]
     simp only [List.map_cons, List.map_nil, e2]
     generalize a.tmps.getD 64 undef = u0
     generalize a.tmps.getD 65 undef = u1
     generalize a.tmps.getD 66 undef = u2
     generalize a.tmps.getD 67 undef = u3
     generalize a.tmps.getD 68 undef = u4
     generalize a.tmps.getD 69 undef = u5
     generalize a.tmps.getD 70 undef = u6
     generalize a.tmps.getD 71 undef = u7
     generalize a.tmps.getD 72 undef = u8
     generalize a.tmps.getD 73 undef = u9
     generalize a.tmps.getD 74 undef = u10
     generalize a.tmps.getD 75 undef = u11
     generalize a.tmps.getD 76 undef = u12
     generalize a.tmps.getD 77 undef = u13
     generalize a.tmps.getD 78 undef = u14
     generalize a.tmps.getD 79 undef = u15
     generalize a.tmps.getD 80 undef = u16
     simp only [fillD, List.setIfInBounds_toArray, List.set_cons_zero, List.set_cons_succ]
     have HKF := Lib.hid (keepN KZ gKz)
     clear hA hF ha e2 KZ gKz
     go_wp2
     go_ret
     exact ⟨rfl, HKF.out⟩

end Go.Proofs.YtgnooffedmeenaaGreatDoor.M.L
