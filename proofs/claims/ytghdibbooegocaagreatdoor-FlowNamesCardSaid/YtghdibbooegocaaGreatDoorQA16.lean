/-
  Part 16 of the proofs of GLoopsRow, GReachRow, GMustRow, GNamesRow: what is laid, and what the functions that the law runs answer. Conditions: each theorem names its own.
-/
import Derived.Test.YtghdibbooegocaaGreatDoorQA11
namespace Go.Proofs.YtghdibbooegocaaGreatDoor.G
open Go.RowKit W
open O (LaidO CutAt)

def xT : List C.I3 := [(19, 1, 0), (19, 0, 0), (18, 2, 0)]
theorem xT_txs : txs xT = [.string ⟨#[106, 122, 32, 49]⟩, .string ⟨#[106, 122, 32, 48]⟩, .string ⟨#[106, 109, 112, 32, 50]⟩] := by kernel_rfl
theorem xT_ok : ∀ x ∈ xT, C.ok1 x = true := List.all_eq_true.1 (show xT.all C.ok1 = true by kernel_rfl)
def xO : List C.I3 := [(24, 0, 0)]
theorem xO_txs : txs xO = [.string ⟨#[114, 101, 116]⟩] := by kernel_rfl
theorem xO_ok : ∀ x ∈ xO, C.ok1 x = true := List.all_eq_true.1 (show xO.all C.ok1 = true by kernel_rfl)
def xN : List C.I3 := [(0, 0, 0)]
theorem xN_txs : txs xN = [.string ⟨#[110, 111, 112]⟩] := by kernel_rfl
theorem xN_ok : ∀ x ∈ xN, C.ok1 x = true := List.all_eq_true.1 (show xN.all C.ok1 = true by kernel_rfl)
theorem s_M4 : mustI xS 4 = [0, 3, 4] ∧ errI xS 4 = 0 := by decide +kernel
theorem s_M5 : mustI xS 5 = [] ∧ errI xS 5 = 110 := by decide +kernel
theorem s_A6 : aheadI xS 6 = [] ∧ errI xS 6 = 110 := by decide +kernel
theorem s_B5 : behI xS 5 = [6] ∧ errB xS 5 = 0 := by decide +kernel
theorem s_B6 : behI xS 6 = [] ∧ errB xS 6 = 0 := by decide +kernel
theorem s_B0 : behI xS 0 = [1, 3] ∧ errB xS 0 = 0 := by decide +kernel
theorem t_B0 : behI xT 0 = [1] ∧ errB xT 0 = 0 := by decide +kernel
theorem t_A2 : aheadI xT 2 = [1, 2] ∧ errI xT 2 = 0 := by decide +kernel
theorem o_D : distI xO 0 = 0 ∧ errI xO 0 = 0 := by decide +kernel
theorem o_M : mustI xO 0 = [0] ∧ errI xO 0 = 0 := by decide +kernel
theorem o_B1 : behI xO 1 = [] ∧ errB xO 1 = 110 := by decide +kernel
theorem o_Bn : behI xO (-1) = [] ∧ errB xO (-1) = 110 := by decide +kernel
theorem n_B : behI xN 0 = [] ∧ errB xN 0 = 110 := by decide +kernel
theorem e_D : distI [] 0 = 0 ∧ errI [] 0 = 110 := by decide +kernel
theorem v_HsMe : meetL xS = [0] := by decide +kernel
theorem v_HsLo : loopL xS = [0, 1, 2] := by decide +kernel
theorem v_HtMe : meetL xT = [0, 2] := by decide +kernel
theorem v_HtLo : loopL xT = [0, 1, 2] := by decide +kernel
theorem v_HnR : reachL xN = [] := by decide +kernel
theorem v_HoMe : meetL xO = [] := by decide +kernel
theorem v_HoLo : loopL xO = [] := by decide +kernel
theorem v_HeLo : loopL [] = [] := by decide +kernel
theorem of_lst (l : List C.I3) (n b c : Nat) (vs : Array Value) (E : TypeId) (w W : World) (hW : W = w.alloc (.cells vs E)) (hb : b = w.heap.size) (he : txs l = vs.toList) (hn : l.length = n) (hok : ∀ x ∈ l, C.ok1 x = true) (hm : n ≤ 1000) (hL : LaidO w) (hC : CutAt w) :
  Calls Tryz.prog 25 #[.slice (some ⟨b, 0, none⟩) n c] W (LstR l w) := by
 refine (of_call l n b c vs E w W hW hb he hn hok hm hL hC).mono ?_
 rintro e w1 ⟨v, rfl, hO, k1⟩
 obtain ⟨B, c, rfl⟩ := own_form hO.1
 obtain ⟨A2, c2, hv, -, -, hrd, -⟩ := hO.form
 injection hv with e1 e2 e3
 subst e1
 subst hn
 exact ⟨B, c, rfl, hrd, k1⟩

set_option maxRecDepth 100000 in
set_option maxHeartbeats 16000000 in
theorem flowNames_walk (w : World) (hL0 : LaidO w) (hC0 : CutAt w) : Calls Tryz.prog 4 #[] w fun e w' => e = .returned (.bool true) ∧ Keep NoB w w' := by
 have HS := Lib.hid (fun W (hk : Keep NoB w W) => some_any W (hL0.keep hk) (hC0.keep hk))
 have HAl := Lib.hid (fun W (hk : Keep NoB w W) => alive_any W (hL0.keep hk) (hC0.keep hk))
 have HOf2 := Lib.hid (fun W0 (k : Keep NoB w W0) W hW => of_lst xT 3 W0.heap.size 3 _ 9 W0 W hW rfl xT_txs rfl xT_ok (by decide) (hL0.keep k) (hC0.keep k))
 have HOf1 := Lib.hid (fun W0 (k : Keep NoB w W0) W hW => of_lst xO 1 W0.heap.size 1 _ 9 W0 W hW rfl xO_txs rfl xO_ok (by decide) (hL0.keep k) (hC0.keep k))
 have HOfn := Lib.hid (fun W0 (k : Keep NoB w W0) W hW => of_lst xN 1 W0.heap.size 1 _ 9 W0 W hW rfl xN_txs rfl xN_ok (by decide) (hL0.keep k) (hC0.keep k))
 have HM4 := Lib.hid (fun A c w hr => fMust_any A xS 7 c 4 w hr rfl (by decide) (by decide))
 rw [s_M4.1, s_M4.2] at HM4
 have HM5 := Lib.hid (fun A c w hr => fMust_any A xS 7 c 5 w hr rfl (by decide) (by decide))
 rw [s_M5.1, s_M5.2] at HM5
 have HA6 := Lib.hid (fun A c w hr => fAhead_any A xS 7 c 6 w hr rfl (by decide) (by decide))
 rw [s_A6.1, s_A6.2] at HA6
 have HB5 := Lib.hid (fun A c w hr => fBehind_any A xS 7 c 5 w hr rfl (by decide))
 rw [s_B5.1, s_B5.2] at HB5
 have HB6 := Lib.hid (fun A c w hr => fBehind_any A xS 7 c 6 w hr rfl (by decide))
 rw [s_B6.1, s_B6.2] at HB6
 have HB0 := Lib.hid (fun A c w hr => fBehind_any A xS 7 c 0 w hr rfl (by decide))
 rw [s_B0.1, s_B0.2] at HB0
 have HtB := Lib.hid (fun A c w hr => fBehind_any A xT 3 c 0 w hr rfl (by decide))
 rw [t_B0.1, t_B0.2] at HtB
 have HtA := Lib.hid (fun A c w hr => fAhead_any A xT 3 c 2 w hr rfl (by decide) (by decide))
 rw [t_A2.1, t_A2.2] at HtA
 have HoD := Lib.hid (fun A c w hr => fDistance_any A xO 1 c 0 w hr rfl (by decide) (by decide))
 rw [o_D.1, o_D.2] at HoD
 have HoM := Lib.hid (fun A c w hr => fMust_any A xO 1 c 0 w hr rfl (by decide) (by decide))
 rw [o_M.1, o_M.2] at HoM
 have HoB1 := Lib.hid (fun A c w hr => fBehind_any A xO 1 c 1 w hr rfl (by decide))
 rw [o_B1.1, o_B1.2] at HoB1
 have HoBn := Lib.hid (fun A c w hr => fBehind_any A xO 1 c (-1) w hr rfl (by decide))
 rw [o_Bn.1, o_Bn.2] at HoBn
 have HnB := Lib.hid (fun A c w hr => fBehind_any A xN 1 c 0 w hr rfl (by decide))
 rw [n_B.1, n_B.2] at HnB
 have HeD := Lib.hid (fun w => fDistance_any none [] 0 0 0 w (Rd.none_ _ _) rfl (by decide) (by decide))
 rw [e_D.1, e_D.2] at HeD
 have HsMe := Lib.hid (fun A c w hr => fMeets_any A xS 7 c w hr rfl (by decide))
 rw [v_HsMe] at HsMe
 have HsLo := Lib.hid (fun A c w hr => fLoops_any A xS 7 c w hr rfl (by decide))
 rw [v_HsLo] at HsLo
 have HtMe := Lib.hid (fun A c w hr => fMeets_any A xT 3 c w hr rfl (by decide))
 rw [v_HtMe] at HtMe
 have HtLo := Lib.hid (fun A c w hr => fLoops_any A xT 3 c w hr rfl (by decide))
 rw [v_HtLo] at HtLo
 have HnR := Lib.hid (fun A c w hr => fReached_any A xN 1 c w hr rfl (by decide))
 rw [v_HnR] at HnR
 have HoMe := Lib.hid (fun A c w hr => fMeets_any A xO 1 c w hr rfl (by decide))
 rw [v_HoMe] at HoMe
 have HoLo := Lib.hid (fun A c w hr => fLoops_any A xO 1 c w hr rfl (by decide))
 rw [v_HoLo] at HoLo
 have HeLo := Lib.hid (fun w => fLoops_any none [] 0 0 w (Rd.none_ _ _) rfl (by decide))
 rw [v_HeLo] at HeLo
 have HZ034 := Lib.hid (fun A1 A2 c1 c2 w h1 h2 => W.ints_any A1 A2 [0, 3, 4] [0, 3, 4] 3 3 c1 c2 w h1 h2 rfl rfl (by decide) (by decide) true (by show _ = _; simp))
 have HZ6 := Lib.hid (fun A1 A2 c1 c2 w h1 h2 => W.ints_any A1 A2 [6] [6] 1 1 c1 c2 w h1 h2 rfl rfl (by decide) (by decide) true (by show _ = _; simp))
 have HZ13 := Lib.hid (fun A1 A2 c1 c2 w h1 h2 => W.ints_any A1 A2 [1, 3] [1, 3] 2 2 c1 c2 w h1 h2 rfl rfl (by decide) (by decide) true (by show _ = _; simp))
 have HZ0 := Lib.hid (fun A1 A2 c1 c2 w h1 h2 => W.ints_any A1 A2 [0] [0] 1 1 c1 c2 w h1 h2 rfl rfl (by decide) (by decide) true (by show _ = _; simp))
 have HZ012 := Lib.hid (fun A1 A2 c1 c2 w h1 h2 => W.ints_any A1 A2 [0, 1, 2] [0, 1, 2] 3 3 c1 c2 w h1 h2 rfl rfl (by decide) (by decide) true (by show _ = _; simp))
 have HZ1 := Lib.hid (fun A1 A2 c1 c2 w h1 h2 => W.ints_any A1 A2 [1] [1] 1 1 c1 c2 w h1 h2 rfl rfl (by decide) (by decide) true (by show _ = _; simp))
 have HZ12 := Lib.hid (fun A1 A2 c1 c2 w h1 h2 => W.ints_any A1 A2 [1, 2] [1, 2] 2 2 c1 c2 w h1 h2 rfl rfl (by decide) (by decide) true (by show _ = _; simp))
 have HZ02 := Lib.hid (fun A1 A2 c1 c2 w h1 h2 => W.ints_any A1 A2 [0, 2] [0, 2] 2 2 c1 c2 w h1 h2 rfl rfl (by decide) (by decide) true (by show _ = _; simp))
 clear hL0 hC0
 have kz := Keep.refl NoB w
 go_enter Tryz.func4, Tryz.ntmps4
 go_wp2_with fail
 refine (HS.out w kz).mono ?_
 rintro e w1 ⟨B1, c1, rfl, f1, k1⟩
 have g1 := keepN kz k1
 clear k1
 go_wp2_with fail
 refine (HM4.out _ _ w1 f1).mono ?_
 rintro e w2 ⟨B2, c2, rfl, f2, k2⟩
 have g2 := keepN g1 k2
 have rL1_2 := f1.keepN k2
 clear g1 k2 f1
 clear rL1_2
 go_wp2_with fail
 refine (HS.out w2 g2).mono ?_
 rintro e w3 ⟨B3, c3, rfl, f3, k3⟩
 have g3 := keepN g2 k3
 have rs1_3 := f2.keepN k3
 clear g2 k3 f2
 go_wp2_with fail
 refine (HM5.out _ _ w3 f3).mono ?_
 rintro e w4 ⟨B4, c4, rfl, f4, k4⟩
 have g4 := keepN g3 k4
 have rs1_4 := rs1_3.keepN k4
 have rL1_4 := f3.keepN k4
 clear g3 k4 rs1_3 f3
 clear f4
 clear rL1_4
 go_wp2_with fail
 refine (HS.out w4 g4).mono ?_
 rintro e w5 ⟨B5, c5, rfl, f5, k5⟩
 have g5 := keepN g4 k5
 have rs1_5 := rs1_4.keepN k5
 clear g4 k5 rs1_4
 go_wp2_with fail
 refine (HA6.out _ _ w5 f5).mono ?_
 rintro e w6 ⟨B6, c6, rfl, f6, k6⟩
 have g6 := keepN g5 k6
 have rs1_6 := rs1_5.keepN k6
 have rL1_6 := f5.keepN k6
 clear g5 k6 rs1_5 f5
 clear f6
 clear rL1_6
 go_wp2_with fail
 refine (HS.out w6 g6).mono ?_
 rintro e w7 ⟨B7, c7, rfl, f7, k7⟩
 have g7 := keepN g6 k7
 have rs1_7 := rs1_6.keepN k7
 clear g6 k7 rs1_6
 go_wp2_with fail
 refine (HB5.out _ _ w7 f7).mono ?_
 rintro e w8 ⟨B8, c8, rfl, f8, k8⟩
 have g8 := keepN g7 k8
 have rs1_8 := rs1_7.keepN k8
 have rL1_8 := f7.keepN k8
 clear g7 k8 rs1_7 f7
 clear rL1_8
 go_wp2_with fail
 refine (HS.out w8 g8).mono ?_
 rintro e w9 ⟨B9, c9, rfl, f9, k9⟩
 have g9 := keepN g8 k9
 have rs1_9 := rs1_8.keepN k9
 have rs7_9 := f8.keepN k9
 clear g8 k9 rs1_8 f8
 go_wp2_with fail
 refine (HB6.out _ _ w9 f9).mono ?_
 rintro e w10 ⟨B10, c10, rfl, f10, k10⟩
 have g10 := keepN g9 k10
 have rs1_10 := rs1_9.keepN k10
 have rs7_10 := rs7_9.keepN k10
 have rL1_10 := f9.keepN k10
 clear g9 k10 rs1_9 rs7_9 f9
 clear f10
 clear rL1_10
 go_wp2_with fail
 refine (HS.out w10 g10).mono ?_
 rintro e w11 ⟨B11, c11, rfl, f11, k11⟩
 have g11 := keepN g10 k11
 have rs1_11 := rs1_10.keepN k11
 have rs7_11 := rs7_10.keepN k11
 clear g10 k11 rs1_10 rs7_10
 go_wp2_with fail
 refine (HB0.out _ _ w11 f11).mono ?_
 rintro e w12 ⟨B12, c12, rfl, f12, k12⟩
 have g12 := keepN g11 k12
 have rs1_12 := rs1_11.keepN k12
 have rs7_12 := rs7_11.keepN k12
 have rL1_12 := f11.keepN k12
 clear g11 k12 rs1_11 rs7_11 f11
 clear rL1_12
 have ka13 := (Keep.refl NoB w12).alloc (.cells #[.int .i64 0, .int .i64 3, .int .i64 4] 3)
 have rn13 : Rd (w12.alloc (.cells #[.int .i64 0, .int .i64 3, .int .i64 4] 3)) (some ⟨w12.heap.size, 0, none⟩) (ivs [0, 3, 4]) := W.rd_made rfl rfl
 have g13 := keepN g12 ka13
 have rs1_13 := rs1_12.keepN ka13
 have rs7_13 := rs7_12.keepN ka13
 have rs11_13 := f12.keepN ka13
 clear g12 ka13 rs1_12 rs7_12 f12
 go_wp2_with fail
 refine (HZ034.out _ _ _ _ _ rs1_13 rn13).mono ?_
 rintro e w14 ⟨rfl, k14⟩
 clear rn13
 have g14 := keepN g13 k14
 have rs1_14 := rs1_13.keepN k14
 have rs7_14 := rs7_13.keepN k14
 have rs11_14 := rs11_13.keepN k14
 clear g13 k14 rs1_13 rs7_13 rs11_13
 clear rs1_14
 have ka15 := (Keep.refl NoB w14).alloc (.cells #[.int .i64 6] 3)
 have rn15 : Rd (w14.alloc (.cells #[.int .i64 6] 3)) (some ⟨w14.heap.size, 0, none⟩) (ivs [6]) := W.rd_made rfl rfl
 have g15 := keepN g14 ka15
 have rs7_15 := rs7_14.keepN ka15
 have rs11_15 := rs11_14.keepN ka15
 clear g14 ka15 rs7_14 rs11_14
 go_wp2_with fail
 refine (HZ6.out _ _ _ _ _ rs7_15 rn15).mono ?_
 rintro e w16 ⟨rfl, k16⟩
 clear rn15
 have g16 := keepN g15 k16
 have rs7_16 := rs7_15.keepN k16
 have rs11_16 := rs11_15.keepN k16
 clear g15 k16 rs7_15 rs11_15
 clear rs7_16
 have ka17 := (Keep.refl NoB w16).alloc (.cells #[.int .i64 1, .int .i64 3] 3)
 have rn17 : Rd (w16.alloc (.cells #[.int .i64 1, .int .i64 3] 3)) (some ⟨w16.heap.size, 0, none⟩) (ivs [1, 3]) := W.rd_made rfl rfl
 have g17 := keepN g16 ka17
 have rs11_17 := rs11_16.keepN ka17
 clear g16 ka17 rs11_16
 go_wp2_with fail
 refine (HZ13.out _ _ _ _ _ rs11_17 rn17).mono ?_
 rintro e w18 ⟨rfl, k18⟩
 clear rn17
 have g18 := keepN g17 k18
 have rs11_18 := rs11_17.keepN k18
 clear g17 k18 rs11_17
 clear rs11_18
 go_wp2_with fail
 refine (HS.out w18 g18).mono ?_
 rintro e w19 ⟨B19, c19, rfl, f19, k19⟩
 have g19 := keepN g18 k19
 clear g18 k19
 go_wp2_with fail
 refine (HsMe.out _ _ w19 f19).mono ?_
 rintro e w20 ⟨B20, c20, rfl, o20, k20⟩
 obtain ⟨A20, d20, hv20, hy1, hy2, f20, hy3⟩ := o20.form
 injection hv20 with e1 e2 e3
 subst e1
 clear hy1 hy2 hy3 e2 e3 o20
 have g20 := keepN g19 k20
 have rL1_20 := f19.keepN k20
 clear g19 k20 f19
 clear rL1_20
 have ka21 := (Keep.refl NoB w20).alloc (.cells #[.int .i64 0] 3)
 have rn21 : Rd (w20.alloc (.cells #[.int .i64 0] 3)) (some ⟨w20.heap.size, 0, none⟩) (ivs [0]) := W.rd_made rfl rfl
 have g21 := keepN g20 ka21
 have rm_21 := f20.keepN ka21
 clear g20 ka21 f20
 go_wp2_with fail
 refine (HZ0.out _ _ _ _ _ rm_21 rn21).mono ?_
 rintro e w22 ⟨rfl, k22⟩
 clear rn21
 have g22 := keepN g21 k22
 have rm_22 := rm_21.keepN k22
 clear g21 k22 rm_21
 clear rm_22
 go_wp2_with fail
 refine (HS.out w22 g22).mono ?_
 rintro e w23 ⟨B23, c23, rfl, f23, k23⟩
 have g23 := keepN g22 k23
 clear g22 k23
 go_wp2_with fail
 refine (HsLo.out _ _ w23 f23).mono ?_
 rintro e w24 ⟨B24, c24, rfl, o24, k24⟩
 obtain ⟨A24, d24, hv24, hy1, hy2, f24, hy3⟩ := o24.form
 injection hv24 with e1 e2 e3
 subst e1
 clear hy1 hy2 hy3 e2 e3 o24
 have g24 := keepN g23 k24
 have rL1_24 := f23.keepN k24
 clear g23 k24 f23
 clear rL1_24
 have ka25 := (Keep.refl NoB w24).alloc (.cells #[.int .i64 0, .int .i64 1, .int .i64 2] 3)
 have rn25 : Rd (w24.alloc (.cells #[.int .i64 0, .int .i64 1, .int .i64 2] 3)) (some ⟨w24.heap.size, 0, none⟩) (ivs [0, 1, 2]) := W.rd_made rfl rfl
 have g25 := keepN g24 ka25
 have rm_25 := f24.keepN ka25
 clear g24 ka25 f24
 go_wp2_with fail
 refine (HZ012.out _ _ _ _ _ rm_25 rn25).mono ?_
 rintro e w26 ⟨rfl, k26⟩
 clear rn25
 have g26 := keepN g25 k26
 have rm_26 := rm_25.keepN k26
 clear g25 k26 rm_25
 clear rm_26
 go_wp2_with fail
 refine (HOf2.out w26 g26 _ rfl).mono ?_
 rintro e w27 ⟨B27, c27, rfl, f27, k27⟩
 have g27 := keepN g26 k27
 clear g26 k27
 go_wp2_with fail
 refine (HtB.out _ _ w27 f27).mono ?_
 rintro e w28 ⟨B28, c28, rfl, f28, k28⟩
 have g28 := keepN g27 k28
 have rT_28 := f27.keepN k28
 clear g27 k28 f27
 go_wp2_with fail
 refine (HtA.out _ _ w28 rT_28).mono ?_
 rintro e w29 ⟨B29, c29, rfl, f29, k29⟩
 have g29 := keepN g28 k29
 have rT_29 := rT_28.keepN k29
 have rs15_29 := f28.keepN k29
 clear g28 k29 rT_28 f28
 have ka30 := (Keep.refl NoB w29).alloc (.cells #[.int .i64 1] 3)
 have rn30 : Rd (w29.alloc (.cells #[.int .i64 1] 3)) (some ⟨w29.heap.size, 0, none⟩) (ivs [1]) := W.rd_made rfl rfl
 have g30 := keepN g29 ka30
 have rT_30 := rT_29.keepN ka30
 have rs15_30 := rs15_29.keepN ka30
 have rs17_30 := f29.keepN ka30
 clear g29 ka30 rT_29 rs15_29 f29
 go_wp2_with fail
 refine (HZ1.out _ _ _ _ _ rs15_30 rn30).mono ?_
 rintro e w31 ⟨rfl, k31⟩
 clear rn30
 have g31 := keepN g30 k31
 have rT_31 := rT_30.keepN k31
 have rs15_31 := rs15_30.keepN k31
 have rs17_31 := rs17_30.keepN k31
 clear g30 k31 rT_30 rs15_30 rs17_30
 clear rs15_31
 have ka32 := (Keep.refl NoB w31).alloc (.cells #[.int .i64 1, .int .i64 2] 3)
 have rn32 : Rd (w31.alloc (.cells #[.int .i64 1, .int .i64 2] 3)) (some ⟨w31.heap.size, 0, none⟩) (ivs [1, 2]) := W.rd_made rfl rfl
 have g32 := keepN g31 ka32
 have rT_32 := rT_31.keepN ka32
 have rs17_32 := rs17_31.keepN ka32
 clear g31 ka32 rT_31 rs17_31
 go_wp2_with fail
 refine (HZ12.out _ _ _ _ _ rs17_32 rn32).mono ?_
 rintro e w33 ⟨rfl, k33⟩
 clear rn32
 have g33 := keepN g32 k33
 have rT_33 := rT_32.keepN k33
 have rs17_33 := rs17_32.keepN k33
 clear g32 k33 rT_32 rs17_32
 clear rs17_33
 go_wp2_with fail
 refine (HtMe.out _ _ w33 rT_33).mono ?_
 rintro e w34 ⟨B34, c34, rfl, o34, k34⟩
 obtain ⟨A34, d34, hv34, hy1, hy2, f34, hy3⟩ := o34.form
 injection hv34 with e1 e2 e3
 subst e1
 clear hy1 hy2 hy3 e2 e3 o34
 have g34 := keepN g33 k34
 have rT_34 := rT_33.keepN k34
 clear g33 k34 rT_33
 have ka35 := (Keep.refl NoB w34).alloc (.cells #[.int .i64 0, .int .i64 2] 3)
 have rn35 : Rd (w34.alloc (.cells #[.int .i64 0, .int .i64 2] 3)) (some ⟨w34.heap.size, 0, none⟩) (ivs [0, 2]) := W.rd_made rfl rfl
 have g35 := keepN g34 ka35
 have rT_35 := rT_34.keepN ka35
 have rm_35 := f34.keepN ka35
 clear g34 ka35 rT_34 f34
 go_wp2_with fail
 refine (HZ02.out _ _ _ _ _ rm_35 rn35).mono ?_
 rintro e w36 ⟨rfl, k36⟩
 clear rn35
 have g36 := keepN g35 k36
 have rT_36 := rT_35.keepN k36
 have rm_36 := rm_35.keepN k36
 clear g35 k36 rT_35 rm_35
 clear rm_36
 go_wp2_with fail
 refine (HtLo.out _ _ w36 rT_36).mono ?_
 rintro e w37 ⟨B37, c37, rfl, o37, k37⟩
 obtain ⟨A37, d37, hv37, hy1, hy2, f37, hy3⟩ := o37.form
 injection hv37 with e1 e2 e3
 subst e1
 clear hy1 hy2 hy3 e2 e3 o37
 have g37 := keepN g36 k37
 have rT_37 := rT_36.keepN k37
 clear g36 k37 rT_36
 clear rT_37
 have ka38 := (Keep.refl NoB w37).alloc (.cells #[.int .i64 0, .int .i64 1, .int .i64 2] 3)
 have rn38 : Rd (w37.alloc (.cells #[.int .i64 0, .int .i64 1, .int .i64 2] 3)) (some ⟨w37.heap.size, 0, none⟩) (ivs [0, 1, 2]) := W.rd_made rfl rfl
 have g38 := keepN g37 ka38
 have rm_38 := f37.keepN ka38
 clear g37 ka38 f37
 go_wp2_with fail
 refine (HZ012.out _ _ _ _ _ rm_38 rn38).mono ?_
 rintro e w39 ⟨rfl, k39⟩
 clear rn38
 have g39 := keepN g38 k39
 have rm_39 := rm_38.keepN k39
 clear g38 k39 rm_38
 clear rm_39
 go_wp2_with fail
 refine (HOf1.out w39 g39 _ rfl).mono ?_
 rintro e w40 ⟨B40, c40, rfl, f40, k40⟩
 have g40 := keepN g39 k40
 clear g39 k40
 go_wp2_with fail
 refine (HoD.out _ _ w40 f40).mono ?_
 rintro e w41 ⟨rfl, k41⟩
 have g41 := keepN g40 k41
 have rO_41 := f40.keepN k41
 clear g40 k41 f40
 go_wp2_with fail
 refine (HoM.out _ _ w41 rO_41).mono ?_
 rintro e w42 ⟨B42, c42, rfl, f42, k42⟩
 have g42 := keepN g41 k42
 have rO_42 := rO_41.keepN k42
 clear g41 k42 rO_41
 go_wp2_with fail
 refine (HoB1.out _ _ w42 rO_42).mono ?_
 rintro e w43 ⟨B43, c43, rfl, f43, k43⟩
 have g43 := keepN g42 k43
 have rO_43 := rO_42.keepN k43
 have rs23_43 := f42.keepN k43
 clear g42 k43 rO_42 f42
 clear f43
 go_wp2_with fail
 refine (HoBn.out _ _ w43 rO_43).mono ?_
 rintro e w44 ⟨B44, c44, rfl, f44, k44⟩
 have g44 := keepN g43 k44
 have rO_44 := rO_43.keepN k44
 have rs23_44 := rs23_43.keepN k44
 clear g43 k44 rO_43 rs23_43
 clear f44
 go_wp2_with fail
 refine (HOfn.out w44 g44 _ rfl).mono ?_
 rintro e w45 ⟨B45, c45, rfl, f45, k45⟩
 have g45 := keepN g44 k45
 have rO_45 := rO_44.keepN k45
 have rs23_45 := rs23_44.keepN k45
 clear g44 k45 rO_44 rs23_44
 go_wp2_with fail
 refine (HnB.out _ _ w45 f45).mono ?_
 rintro e w46 ⟨B46, c46, rfl, f46, k46⟩
 have g46 := keepN g45 k46
 have rO_46 := rO_45.keepN k46
 have rs23_46 := rs23_45.keepN k46
 have rN_46 := f45.keepN k46
 clear g45 k46 rO_45 rs23_45 f45
 clear f46
 clear rN_46
 go_wp2_with fail
 refine (HeD.out w46).mono ?_
 rintro e w47 ⟨rfl, k47⟩
 have g47 := keepN g46 k47
 have rO_47 := rO_46.keepN k47
 have rs23_47 := rs23_46.keepN k47
 clear g46 k47 rO_46 rs23_46
 have ka48 := (Keep.refl NoB w47).alloc (.cells #[.int .i64 0] 3)
 have rn48 : Rd (w47.alloc (.cells #[.int .i64 0] 3)) (some ⟨w47.heap.size, 0, none⟩) (ivs [0]) := W.rd_made rfl rfl
 have g48 := keepN g47 ka48
 have rO_48 := rO_47.keepN ka48
 have rs23_48 := rs23_47.keepN ka48
 clear g47 ka48 rO_47 rs23_47
 go_wp2_with fail
 refine (HZ0.out _ _ _ _ _ rs23_48 rn48).mono ?_
 rintro e w49 ⟨rfl, k49⟩
 clear rn48
 have g49 := keepN g48 k49
 have rO_49 := rO_48.keepN k49
 have rs23_49 := rs23_48.keepN k49
 clear g48 k49 rO_48 rs23_48
 clear rs23_49
 go_wp2_with fail
 refine (HOfn.out w49 g49 _ rfl).mono ?_
 rintro e w50 ⟨B50, c50, rfl, f50, k50⟩
 have g50 := keepN g49 k50
 have rO_50 := rO_49.keepN k50
 clear g49 k50 rO_49
 go_wp2_with fail
 refine (HnR.out _ _ w50 f50).mono ?_
 rintro e w51 ⟨B51, c51, rfl, o51, k51⟩
 obtain ⟨A51, d51, hv51, hy1, hy2, f51, hy3⟩ := o51.form
 injection hv51 with e1 e2 e3
 subst e1
 clear hy1 hy2 hy3 e2 e3 o51
 have g51 := keepN g50 k51
 have rO_51 := rO_50.keepN k51
 have rN_51 := f50.keepN k51
 clear g50 k51 rO_50 f50
 clear f51
 clear rN_51
 go_wp2_with fail
 refine (HoMe.out _ _ w51 rO_51).mono ?_
 rintro e w52 ⟨B52, c52, rfl, o52, k52⟩
 obtain ⟨A52, d52, hv52, hy1, hy2, f52, hy3⟩ := o52.form
 injection hv52 with e1 e2 e3
 subst e1
 clear hy1 hy2 hy3 e2 e3 o52
 have g52 := keepN g51 k52
 have rO_52 := rO_51.keepN k52
 clear g51 k52 rO_51
 clear f52
 go_wp2_with fail
 refine (HoLo.out _ _ w52 rO_52).mono ?_
 rintro e w53 ⟨B53, c53, rfl, o53, k53⟩
 obtain ⟨A53, d53, hv53, hy1, hy2, f53, hy3⟩ := o53.form
 injection hv53 with e1 e2 e3
 subst e1
 clear hy1 hy2 hy3 e2 e3 o53
 have g53 := keepN g52 k53
 have rO_53 := rO_52.keepN k53
 clear g52 k53 rO_52
 clear f53
 clear rO_53
 go_wp2_with fail
 refine (HeLo.out w53).mono ?_
 rintro e w54 ⟨B54, c54, rfl, o54, k54⟩
 obtain ⟨A54, d54, hv54, hy1, hy2, f54, hy3⟩ := o54.form
 injection hv54 with e1 e2 e3
 subst e1
 clear hy1 hy2 hy3 e2 e3 o54
 have g54 := keepN g53 k54
 clear g53 k54
 clear f54
 go_wp2_with fail
 refine (HAl.out w54 g54).mono ?_
 rintro e w55 ⟨rfl, k55⟩
 have g55 := keepN g54 k55
 clear g54 k55
 go_wp2_with fail
 go_ret
 exact ⟨rfl, g55⟩
end Go.Proofs.YtghdibbooegocaaGreatDoor.G
