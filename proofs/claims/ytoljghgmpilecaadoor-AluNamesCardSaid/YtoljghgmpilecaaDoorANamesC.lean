/-
  AluNames' walk. Conditions: what Binary and Unary answer (BinC, UnC), and the project's names (NmC, OfC).
-/
import Derived.Test.YtoljghgmpilecaaDoorANamesB
import Derived.Test.YtoljghgmpilecaaDoorALawsA
namespace Go.Proofs.YtoljghgmpilecaaDoor
open Go.RowKit

theorem nt0 : twoN 3 (-9223372036854775808) (-1) = -9223372036854775808 := by decide +kernel
theorem nt1 : twoN 4 (-9223372036854775808) (-1) = 0 := by decide +kernel
theorem nt2 : twoN 0 9223372036854775807 1 = -9223372036854775808 := by decide +kernel
theorem nt3 : twoN 1 (-9223372036854775808) 1 = 9223372036854775807 := by decide +kernel
theorem nt4 : twoN 2 (-9223372036854775808) (-1) = -9223372036854775808 := by decide +kernel
theorem nt5 : twoN 9 1 63 = -9223372036854775808 := by decide +kernel
theorem nt6 : twoN 10 (-9223372036854775808) 63 = -1 := by decide +kernel
theorem nt7 : twoN 10 (-9223372036854775808) 9223372036854775807 = -1 := by decide +kernel
theorem nt8 : twoN 10 9223372036854775807 64 = 0 := by decide +kernel
theorem nt9 : twoN 5 12 10 = 8 := by decide +kernel
theorem nt10 : twoN 6 12 10 = 14 := by decide +kernel
theorem nt11 : twoN 7 12 10 = 6 := by decide +kernel
theorem nt12 : twoN 8 12 10 = 4 := by decide +kernel
theorem nt13 : twoN 11 (-1) 0 = 1 := by decide +kernel
theorem nt14 : twoN 11 0 0 = 0 := by decide +kernel
theorem nt15 : twoN 12 0 0 = 1 := by decide +kernel
theorem nt16 : twoN 13 3 3 = 1 := by decide +kernel
theorem nt17 : twoN 13 3 4 = 0 := by decide +kernel
theorem no0 : oneN 0 (-9223372036854775808) = -9223372036854775808 := by decide +kernel
theorem no1 : oneN 1 0 = -1 := by decide +kernel
theorem no2 : oneN 2 0 = 1 := by decide +kernel
theorem no3 : oneN 2 (-9) = 0 := by decide +kernel
theorem no4 : oneN 5 2147483648 = -2147483648 := by decide +kernel
theorem no5 : oneN 8 (-1) = 4294967295 := by decide +kernel
theorem no6 : oneN 6 300 = 44 := by decide +kernel
theorem no7 : oneN 4 40000 = -25536 := by decide +kernel
theorem nw0 : wrongB 4 5 0 2 = true := by decide +kernel
theorem nw1 : wrongB 10 0 (-1) 4 = true := by decide +kernel
theorem nb0 : binE 14 = 30 := by decide +kernel
theorem nb1 : binE (-1) = 30 := by decide +kernel
theorem nu0 : unE 9 = 30 := by decide +kernel
theorem nf0 : ofE binNs [] = 30 := by decide +kernel
theorem nf1 : ofE unNs [97, 100, 100] = 30 := by decide +kernel
theorem nf2 : ofE binNs [97, 110, 100, 110, 111, 116] = 0 := by decide +kernel
theorem nf3 : ofI binNs [97, 110, 100, 110, 111, 116] = 8 := by decide +kernel
theorem nn0 : nameAt binNs 13 = [101, 113] := by decide +kernel
theorem nn1 : nameAt binNs 14 = [] := by decide +kernel
theorem nn2 : nameAt unNs 8 = [117, 51, 50] := by decide +kernel
theorem nn3 : nameAt unNs (-1) = [] := by decide +kernel
theorem nn4 : nameAt codeNs 3 = [105, 110, 100, 101, 120] := by decide +kernel
theorem nn5 : nameAt codeNs 6 = [] := by decide +kernel

theorem cnt0 (B : Hid BinC) (w : World) : Calls Tryd.prog 15 #[.int .i64 3, .int .i64 (-9223372036854775808), .int .i64 (-1)] w fun e w' => e = .returned (.int .i64 (-9223372036854775808)) ∧ Keep NoB w w' := by
  have := two_any B 3 (-9223372036854775808) (-1) w (by unfold I64; omega) (by unfold I64; omega) (by unfold I64; omega)
  rw [nt0] at this
  exact this
theorem cnt1 (B : Hid BinC) (w : World) : Calls Tryd.prog 15 #[.int .i64 4, .int .i64 (-9223372036854775808), .int .i64 (-1)] w fun e w' => e = .returned (.int .i64 0) ∧ Keep NoB w w' := by
  have := two_any B 4 (-9223372036854775808) (-1) w (by unfold I64; omega) (by unfold I64; omega) (by unfold I64; omega)
  rw [nt1] at this
  exact this
theorem cnt2 (B : Hid BinC) (w : World) : Calls Tryd.prog 15 #[.int .i64 0, .int .i64 9223372036854775807, .int .i64 1] w fun e w' => e = .returned (.int .i64 (-9223372036854775808)) ∧ Keep NoB w w' := by
  have := two_any B 0 9223372036854775807 1 w (by unfold I64; omega) (by unfold I64; omega) (by unfold I64; omega)
  rw [nt2] at this
  exact this
theorem cnt3 (B : Hid BinC) (w : World) : Calls Tryd.prog 15 #[.int .i64 1, .int .i64 (-9223372036854775808), .int .i64 1] w fun e w' => e = .returned (.int .i64 9223372036854775807) ∧ Keep NoB w w' := by
  have := two_any B 1 (-9223372036854775808) 1 w (by unfold I64; omega) (by unfold I64; omega) (by unfold I64; omega)
  rw [nt3] at this
  exact this
theorem cnt4 (B : Hid BinC) (w : World) : Calls Tryd.prog 15 #[.int .i64 2, .int .i64 (-9223372036854775808), .int .i64 (-1)] w fun e w' => e = .returned (.int .i64 (-9223372036854775808)) ∧ Keep NoB w w' := by
  have := two_any B 2 (-9223372036854775808) (-1) w (by unfold I64; omega) (by unfold I64; omega) (by unfold I64; omega)
  rw [nt4] at this
  exact this
theorem cnt5 (B : Hid BinC) (w : World) : Calls Tryd.prog 15 #[.int .i64 9, .int .i64 1, .int .i64 63] w fun e w' => e = .returned (.int .i64 (-9223372036854775808)) ∧ Keep NoB w w' := by
  have := two_any B 9 1 63 w (by unfold I64; omega) (by unfold I64; omega) (by unfold I64; omega)
  rw [nt5] at this
  exact this
theorem cnt6 (B : Hid BinC) (w : World) : Calls Tryd.prog 15 #[.int .i64 10, .int .i64 (-9223372036854775808), .int .i64 63] w fun e w' => e = .returned (.int .i64 (-1)) ∧ Keep NoB w w' := by
  have := two_any B 10 (-9223372036854775808) 63 w (by unfold I64; omega) (by unfold I64; omega) (by unfold I64; omega)
  rw [nt6] at this
  exact this
theorem cnt7 (B : Hid BinC) (w : World) : Calls Tryd.prog 15 #[.int .i64 10, .int .i64 (-9223372036854775808), .int .i64 9223372036854775807] w fun e w' => e = .returned (.int .i64 (-1)) ∧ Keep NoB w w' := by
  have := two_any B 10 (-9223372036854775808) 9223372036854775807 w (by unfold I64; omega) (by unfold I64; omega) (by unfold I64; omega)
  rw [nt7] at this
  exact this
theorem cnt8 (B : Hid BinC) (w : World) : Calls Tryd.prog 15 #[.int .i64 10, .int .i64 9223372036854775807, .int .i64 64] w fun e w' => e = .returned (.int .i64 0) ∧ Keep NoB w w' := by
  have := two_any B 10 9223372036854775807 64 w (by unfold I64; omega) (by unfold I64; omega) (by unfold I64; omega)
  rw [nt8] at this
  exact this
theorem cnt9 (B : Hid BinC) (w : World) : Calls Tryd.prog 15 #[.int .i64 5, .int .i64 12, .int .i64 10] w fun e w' => e = .returned (.int .i64 8) ∧ Keep NoB w w' := by
  have := two_any B 5 12 10 w (by unfold I64; omega) (by unfold I64; omega) (by unfold I64; omega)
  rw [nt9] at this
  exact this
theorem cnt10 (B : Hid BinC) (w : World) : Calls Tryd.prog 15 #[.int .i64 6, .int .i64 12, .int .i64 10] w fun e w' => e = .returned (.int .i64 14) ∧ Keep NoB w w' := by
  have := two_any B 6 12 10 w (by unfold I64; omega) (by unfold I64; omega) (by unfold I64; omega)
  rw [nt10] at this
  exact this
theorem cnt11 (B : Hid BinC) (w : World) : Calls Tryd.prog 15 #[.int .i64 7, .int .i64 12, .int .i64 10] w fun e w' => e = .returned (.int .i64 6) ∧ Keep NoB w w' := by
  have := two_any B 7 12 10 w (by unfold I64; omega) (by unfold I64; omega) (by unfold I64; omega)
  rw [nt11] at this
  exact this
theorem cnt12 (B : Hid BinC) (w : World) : Calls Tryd.prog 15 #[.int .i64 8, .int .i64 12, .int .i64 10] w fun e w' => e = .returned (.int .i64 4) ∧ Keep NoB w w' := by
  have := two_any B 8 12 10 w (by unfold I64; omega) (by unfold I64; omega) (by unfold I64; omega)
  rw [nt12] at this
  exact this
theorem cnt13 (B : Hid BinC) (w : World) : Calls Tryd.prog 15 #[.int .i64 11, .int .i64 (-1), .int .i64 0] w fun e w' => e = .returned (.int .i64 1) ∧ Keep NoB w w' := by
  have := two_any B 11 (-1) 0 w (by unfold I64; omega) (by unfold I64; omega) (by unfold I64; omega)
  rw [nt13] at this
  exact this
theorem cnt14 (B : Hid BinC) (w : World) : Calls Tryd.prog 15 #[.int .i64 11, .int .i64 0, .int .i64 0] w fun e w' => e = .returned (.int .i64 0) ∧ Keep NoB w w' := by
  have := two_any B 11 0 0 w (by unfold I64; omega) (by unfold I64; omega) (by unfold I64; omega)
  rw [nt14] at this
  exact this
theorem cnt15 (B : Hid BinC) (w : World) : Calls Tryd.prog 15 #[.int .i64 12, .int .i64 0, .int .i64 0] w fun e w' => e = .returned (.int .i64 1) ∧ Keep NoB w w' := by
  have := two_any B 12 0 0 w (by unfold I64; omega) (by unfold I64; omega) (by unfold I64; omega)
  rw [nt15] at this
  exact this
theorem cnt16 (B : Hid BinC) (w : World) : Calls Tryd.prog 15 #[.int .i64 13, .int .i64 3, .int .i64 3] w fun e w' => e = .returned (.int .i64 1) ∧ Keep NoB w w' := by
  have := two_any B 13 3 3 w (by unfold I64; omega) (by unfold I64; omega) (by unfold I64; omega)
  rw [nt16] at this
  exact this
theorem cnt17 (B : Hid BinC) (w : World) : Calls Tryd.prog 15 #[.int .i64 13, .int .i64 3, .int .i64 4] w fun e w' => e = .returned (.int .i64 0) ∧ Keep NoB w w' := by
  have := two_any B 13 3 4 w (by unfold I64; omega) (by unfold I64; omega) (by unfold I64; omega)
  rw [nt17] at this
  exact this
theorem cno0 (U1 : Hid UnC) (w : World) : Calls Tryd.prog 17 #[.int .i64 0, .int .i64 (-9223372036854775808)] w fun e w' => e = .returned (.int .i64 (-9223372036854775808)) ∧ Keep NoB w w' := by
  have := one_any U1 0 (-9223372036854775808) w (by unfold I64; omega) (by unfold I64; omega)
  rw [no0] at this
  exact this
theorem cno1 (U1 : Hid UnC) (w : World) : Calls Tryd.prog 17 #[.int .i64 1, .int .i64 0] w fun e w' => e = .returned (.int .i64 (-1)) ∧ Keep NoB w w' := by
  have := one_any U1 1 0 w (by unfold I64; omega) (by unfold I64; omega)
  rw [no1] at this
  exact this
theorem cno2 (U1 : Hid UnC) (w : World) : Calls Tryd.prog 17 #[.int .i64 2, .int .i64 0] w fun e w' => e = .returned (.int .i64 1) ∧ Keep NoB w w' := by
  have := one_any U1 2 0 w (by unfold I64; omega) (by unfold I64; omega)
  rw [no2] at this
  exact this
theorem cno3 (U1 : Hid UnC) (w : World) : Calls Tryd.prog 17 #[.int .i64 2, .int .i64 (-9)] w fun e w' => e = .returned (.int .i64 0) ∧ Keep NoB w w' := by
  have := one_any U1 2 (-9) w (by unfold I64; omega) (by unfold I64; omega)
  rw [no3] at this
  exact this
theorem cno4 (U1 : Hid UnC) (w : World) : Calls Tryd.prog 17 #[.int .i64 5, .int .i64 2147483648] w fun e w' => e = .returned (.int .i64 (-2147483648)) ∧ Keep NoB w w' := by
  have := one_any U1 5 2147483648 w (by unfold I64; omega) (by unfold I64; omega)
  rw [no4] at this
  exact this
theorem cno5 (U1 : Hid UnC) (w : World) : Calls Tryd.prog 17 #[.int .i64 8, .int .i64 (-1)] w fun e w' => e = .returned (.int .i64 4294967295) ∧ Keep NoB w w' := by
  have := one_any U1 8 (-1) w (by unfold I64; omega) (by unfold I64; omega)
  rw [no5] at this
  exact this
theorem cno6 (U1 : Hid UnC) (w : World) : Calls Tryd.prog 17 #[.int .i64 6, .int .i64 300] w fun e w' => e = .returned (.int .i64 44) ∧ Keep NoB w w' := by
  have := one_any U1 6 300 w (by unfold I64; omega) (by unfold I64; omega)
  rw [no6] at this
  exact this
theorem cno7 (U1 : Hid UnC) (w : World) : Calls Tryd.prog 17 #[.int .i64 4, .int .i64 40000] w fun e w' => e = .returned (.int .i64 (-25536)) ∧ Keep NoB w w' := by
  have := one_any U1 4 40000 w (by unfold I64; omega) (by unfold I64; omega)
  rw [no7] at this
  exact this
theorem cnw0 (B : Hid BinC) (w : World) : Calls Tryd.prog 16 #[.int .i64 4, .int .i64 5, .int .i64 0, .int .i64 2] w fun e w' => e = .returned (.bool true) ∧ Keep NoB w w' := wrong_true B 4 5 0 2 w (by unfold I64; omega) (by unfold I64; omega) (by unfold I64; omega) nw0
theorem cnw1 (B : Hid BinC) (w : World) : Calls Tryd.prog 16 #[.int .i64 10, .int .i64 0, .int .i64 (-1), .int .i64 4] w fun e w' => e = .returned (.bool true) ∧ Keep NoB w w' := wrong_true B 10 0 (-1) 4 w (by unfold I64; omega) (by unfold I64; omega) (by unfold I64; omega) nw1

set_option maxRecDepth 100000 in
set_option maxHeartbeats 8000000 in
theorem anames_walk (T : World → Prop) (hT : ∀ W W', T W → Keep NoB W W' → T W') (B : Hid BinC) (U1 : Hid UnC) (N1 : Hid (NmC T 10 binNs)) (N2 : Hid (NmC T 12 unNs)) (N3 : Hid (NmC T 13 codeNs))
    (O1 : Hid (OfC T 5 binNs)) (O2 : Hid (OfC T 8 unNs)) (w : World) (h : T w) :
    Calls Tryd.prog 4 #[] w fun e w' => e = .returned (.bool true) ∧ Keep NoB w w' := by
  have g := Keep.refl NoB w
  have B1 := Lib.hid (fun W => B.out 14 1 1 W (by unfold I64; omega) (by unfold I64; omega) (by unfold I64; omega))
  have B2 := Lib.hid (fun W => B.out (-1) 1 1 W (by unfold I64; omega) (by unfold I64; omega) (by unfold I64; omega))
  have B3 := Lib.hid (fun W => U1.out 9 1 W (by unfold I64; omega) (by unfold I64; omega))
  rw [nb0] at B1
  rw [nb1] at B2
  rw [nu0] at B3
  generalize binN 14 1 1 = x1, binC 14 1 = c1 at B1
  generalize binN (-1) 1 1 = x2, binC (-1) 1 = c2 at B2
  generalize unN 9 1 = x3 at B3
  have F1 := Lib.hid (fun W hW => O1.out ⟨#[]⟩ [] W hW rfl (by decide))
  have F2 := Lib.hid (fun W hW => O2.out ⟨#[97, 100, 100]⟩ [97, 100, 100] W hW rfl (by decide))
  have F3 := Lib.hid (fun W hW => O1.out ⟨#[97, 110, 100, 110, 111, 116]⟩ [97, 110, 100, 110, 111, 116] W hW rfl (by decide))
  rw [nf0] at F1
  rw [nf1] at F2
  rw [nf2, nf3] at F3
  generalize ofI binNs [] = i1 at F1
  generalize ofI unNs [97, 100, 100] = i2 at F2
  have M1 := Lib.hid (fun W hW => N1.out 13 W hW (by omega))
  have M2 := Lib.hid (fun W hW => N1.out 14 W hW (by omega))
  have M3 := Lib.hid (fun W hW => N2.out 8 W hW (by omega))
  have M4 := Lib.hid (fun W hW => N2.out (-1) W hW (by omega))
  have M5 := Lib.hid (fun W hW => N3.out 3 W hW (by omega))
  have M6 := Lib.hid (fun W hW => N3.out 6 W hW (by omega))
  rw [nn0] at M1
  rw [nn1] at M2
  rw [nn2] at M3
  rw [nn3] at M4
  rw [nn4] at M5
  rw [nn5] at M6
  clear N1 N2 N3 O1 O2
  go_enter Tryd.func4, Tryd.ntmps4
  go_wp2_with fail
  refine (cnt0 B _).mono ?_
  rintro e v0 ⟨rfl, g'⟩
  replace g := keepN g g'
  clear g'
  go_wp2_with fail
  refine (cnt1 B _).mono ?_
  rintro e v1 ⟨rfl, g'⟩
  replace g := keepN g g'
  clear g'
  go_wp2_with fail
  refine (cnw0 B _).mono ?_
  rintro e v2 ⟨rfl, g'⟩
  replace g := keepN g g'
  clear g'
  go_wp2_with fail
  refine (cnt2 B _).mono ?_
  rintro e v3 ⟨rfl, g'⟩
  replace g := keepN g g'
  clear g'
  go_wp2_with fail
  refine (cnt3 B _).mono ?_
  rintro e v4 ⟨rfl, g'⟩
  replace g := keepN g g'
  clear g'
  go_wp2_with fail
  refine (cnt4 B _).mono ?_
  rintro e v5 ⟨rfl, g'⟩
  replace g := keepN g g'
  clear g'
  go_wp2_with fail
  refine (cnt5 B _).mono ?_
  rintro e v6 ⟨rfl, g'⟩
  replace g := keepN g g'
  clear g'
  go_wp2_with fail
  refine (cnt6 B _).mono ?_
  rintro e v7 ⟨rfl, g'⟩
  replace g := keepN g g'
  clear g'
  go_wp2_with fail
  refine (cnt7 B _).mono ?_
  rintro e v8 ⟨rfl, g'⟩
  replace g := keepN g g'
  clear g'
  go_wp2_with fail
  refine (cnt8 B _).mono ?_
  rintro e v9 ⟨rfl, g'⟩
  replace g := keepN g g'
  clear g'
  go_wp2_with fail
  refine (cnw1 B _).mono ?_
  rintro e v10 ⟨rfl, g'⟩
  replace g := keepN g g'
  clear g'
  go_wp2_with fail
  refine (cno0 U1 _).mono ?_
  rintro e v11 ⟨rfl, g'⟩
  replace g := keepN g g'
  clear g'
  go_wp2_with fail
  refine (cno1 U1 _).mono ?_
  rintro e v12 ⟨rfl, g'⟩
  replace g := keepN g g'
  clear g'
  go_wp2_with fail
  refine (cnt9 B _).mono ?_
  rintro e v13 ⟨rfl, g'⟩
  replace g := keepN g g'
  clear g'
  go_wp2_with fail
  refine (cnt10 B _).mono ?_
  rintro e v14 ⟨rfl, g'⟩
  replace g := keepN g g'
  clear g'
  go_wp2_with fail
  refine (cnt11 B _).mono ?_
  rintro e v15 ⟨rfl, g'⟩
  replace g := keepN g g'
  clear g'
  go_wp2_with fail
  refine (cnt12 B _).mono ?_
  rintro e v16 ⟨rfl, g'⟩
  replace g := keepN g g'
  clear g'
  go_wp2_with fail
  refine (cnt13 B _).mono ?_
  rintro e v17 ⟨rfl, g'⟩
  replace g := keepN g g'
  clear g'
  go_wp2_with fail
  refine (cnt14 B _).mono ?_
  rintro e v18 ⟨rfl, g'⟩
  replace g := keepN g g'
  clear g'
  go_wp2_with fail
  refine (cnt15 B _).mono ?_
  rintro e v19 ⟨rfl, g'⟩
  replace g := keepN g g'
  clear g'
  go_wp2_with fail
  refine (cnt16 B _).mono ?_
  rintro e v20 ⟨rfl, g'⟩
  replace g := keepN g g'
  clear g'
  go_wp2_with fail
  refine (cnt17 B _).mono ?_
  rintro e v21 ⟨rfl, g'⟩
  replace g := keepN g g'
  clear g'
  go_wp2_with fail
  refine (cno2 U1 _).mono ?_
  rintro e v22 ⟨rfl, g'⟩
  replace g := keepN g g'
  clear g'
  go_wp2_with fail
  refine (cno3 U1 _).mono ?_
  rintro e v23 ⟨rfl, g'⟩
  replace g := keepN g g'
  clear g'
  go_wp2_with fail
  refine (cno4 U1 _).mono ?_
  rintro e v24 ⟨rfl, g'⟩
  replace g := keepN g g'
  clear g'
  go_wp2_with fail
  refine (cno5 U1 _).mono ?_
  rintro e v25 ⟨rfl, g'⟩
  replace g := keepN g g'
  clear g'
  go_wp2_with fail
  refine (cno6 U1 _).mono ?_
  rintro e v26 ⟨rfl, g'⟩
  replace g := keepN g g'
  clear g'
  go_wp2_with fail
  refine (cno7 U1 _).mono ?_
  rintro e v27 ⟨rfl, g'⟩
  replace g := keepN g g'
  clear g'
  go_wp2_with fail
  refine (B1.out _).mono ?_
  rintro e v28 ⟨rfl, g'⟩
  replace g := keepN g g'
  clear g'
  go_wp2_with fail
  refine (B2.out _).mono ?_
  rintro e v29 ⟨rfl, g'⟩
  replace g := keepN g g'
  clear g'
  go_wp2_with fail
  refine (B3.out _).mono ?_
  rintro e v30 ⟨rfl, g'⟩
  replace g := keepN g g'
  clear g'
  go_wp2_with fail
  refine (F1.out _ (hT _ _ h g)).mono ?_
  rintro e v31 ⟨rfl, g'⟩
  replace g := keepN g g'
  clear g'
  go_wp2_with fail
  refine (F2.out _ (hT _ _ h g)).mono ?_
  rintro e v32 ⟨rfl, g'⟩
  replace g := keepN g g'
  clear g'
  go_wp2_with fail
  refine (F3.out _ (hT _ _ h g)).mono ?_
  rintro e v33 ⟨rfl, g'⟩
  replace g := keepN g g'
  clear g'
  go_wp2_with fail
  refine (M1.out _ (hT _ _ h g)).mono ?_
  rintro e v34 ⟨rfl, g'⟩
  replace g := keepN g g'
  clear g'
  go_wp2_with fail
  refine (M2.out _ (hT _ _ h g)).mono ?_
  rintro e v35 ⟨rfl, g'⟩
  replace g := keepN g g'
  clear g'
  go_wp2_with fail
  refine (M3.out _ (hT _ _ h g)).mono ?_
  rintro e v36 ⟨rfl, g'⟩
  replace g := keepN g g'
  clear g'
  go_wp2_with fail
  refine (M4.out _ (hT _ _ h g)).mono ?_
  rintro e v37 ⟨rfl, g'⟩
  replace g := keepN g g'
  clear g'
  go_wp2_with fail
  refine (M5.out _ (hT _ _ h g)).mono ?_
  rintro e v38 ⟨rfl, g'⟩
  replace g := keepN g g'
  clear g'
  go_wp2_with fail
  refine (M6.out _ (hT _ _ h g)).mono ?_
  rintro e v39 ⟨rfl, g'⟩
  replace g := keepN g g'
  clear g'
  go_wp2_with fail
  refine (alive_any B U1 _).mono ?_
  rintro e v40 ⟨rfl, g'⟩
  replace g := keepN g g'
  clear g'
  go_wp2
  go_ret
  exact ⟨rfl, g⟩

end Go.Proofs.YtoljghgmpilecaaDoor
