/-
  Show and Encode of any instruction; the law's own bytes, of, alive. Conditions: the listed package-level variables hold what their initialisers lay; numbers fit an int64.
-/
import Derived.Test.YtpkcjokkadfhcaaDoorOEnc
import Derived.Test.YtpkcjokkadfhcaaDoorOAsk
namespace Go.Proofs.YtpkcjokkadfhcaaDoor.O
open Go.RowKit

set_option maxHeartbeats 1000000 in
theorem show_any (op a b : Int) (w : World) (ha : I64 a) (hb : I64 b) (hL : LaidO w) :
    Calls Tryd.prog 14 #[instV op a b] w fun e w' => e = .returned (.string (str (showI op a b))) ∧ Keep NoB w w' := by
  cases hok : okI op a b
  · have hK := (Keep.refl NoB w).alloc (.cells #[.int .i64 op, .int .i64 a, .int .i64 b] 23)
    have HR := Lib.hid (fun w => rowFor_any op a b row0 w (rowR_no hok))
    rw [hok] at HR
    have HX : Hid (showI op a b = []) := by show _ = _; unfold showI; rw [if_neg (by rw [hok]; decide)]
    clear hok ha hb hL
    go_enter Tryd.func14, Tryd.ntmps14
    go_wp2_with fail
    refine (HR.out _).mono ?_
    rintro e w1 ⟨rfl, k1⟩
    go_wp2
    go_ret
    exact ⟨by rw [HX.out]; rfl, (keepN hK k1).alloc _⟩
  · refine (show_yes op a b w hok ha hb hL).mono ?_
    rintro e w' ⟨d, rfl, hd, hk⟩
    exact ⟨by rw [hd.out]; unfold showI; rw [if_pos hok], hk⟩

set_option maxHeartbeats 1000000 in
theorem encode_any (op a b : Int) (w : World) (ha : I64 a) (hb : I64 b) :
    Calls Tryd.prog 20 #[instV op a b] w fun e w' => ∃ v, e = .returned (.tuple #[v, .int .i64 (chk op a b)]) ∧ V.OwnB w' (Fresh w) v (encI op a b) ∧ Keep NoB w w' := by
  cases hok : okI op a b
  · have hK := (Keep.refl NoB w).alloc (.cells #[.int .i64 op, .int .i64 a, .int .i64 b] 23)
    have HR := Lib.hid (fun w => rowFor_any op a b row0 w (rowR_no hok))
    rw [hok] at HR
    have HX : Hid (encI op a b = [] ∧ chk op a b = 40) := ⟨by unfold encI; rw [if_neg (by rw [hok]; decide)], by unfold chk; rw [if_neg (by rw [hok]; decide)]⟩
    clear hok ha hb
    go_enter Tryd.func20, Tryd.ntmps20
    go_wp2_with fail
    refine (HR.out _).mono ?_
    rintro e w1 ⟨rfl, k1⟩
    go_wp2
    go_ret2
    rw [HX.out.1, HX.out.2]
    exact ⟨_, rfl, V.OwnB.nil _ _, (keepN hK k1).alloc _⟩
  · refine (encode_yes op a b w hok ha hb).mono ?_
    rintro e w' ⟨v, rfl, hv, hk⟩
    refine ⟨v, ?_, ?_, hk⟩
    · unfold chk; rw [if_pos hok]
    · unfold encI; rw [if_pos hok]; exact hv

set_option maxHeartbeats 1000000 in
theorem bytes_any (op a b : Int) (w : World) (ha : I64 a) (hb : I64 b) :
    Calls Tryd.prog 13 #[instV op a b] w fun e w' => e = .returned (.string (str (encI op a b))) ∧ Keep NoB w w' := by
  have hK := (Keep.refl NoB w).alloc (.cells #[.int .i64 op, .int .i64 a, .int .i64 b] 23)
  have HE := Lib.hid (fun w => encode_any op a b w ha hb)
  clear ha hb
  go_enter Tryd.func13, Tryd.ntmps13
  go_wp2_with fail
  refine (HE.out _).mono ?_
  rintro e w1 ⟨v, rfl, hv, k1⟩
  obtain ⟨A, c, rfl, _, hr, _⟩ := hv.form
  have hcv : (convert 49 9 (.slice A (encI op a b).length c)).run Tryd.prog w1 = .ok (.string (str (encI op a b))) w1 := V.conv_rd hr
  clear hv hr
  go_wp2
  go_ret
  exact ⟨rfl, keepN hK k1⟩

set_option maxHeartbeats 1000000 in
theorem of_any (op a b : Int) (w : World) :
    Calls Tryd.prog 16 #[.int .i64 op, .int .i64 a, .int .i64 b] w fun e w' => e = .returned (instV op a b) ∧ Keep NoB w w' := by
  go_enter Tryd.func16, Tryd.ntmps16
  go_wp2
  exact bodyPost_ret (v := instV op a b) (by simp [results, Tryd.results16, go_sem]) rfl ⟨rfl, (Keep.refl NoB w).alloc _⟩

theorem show_at (op a b : Int) (s : List UInt8) (w : World) (hs : showI op a b = s) (ha : I64 a) (hb : I64 b) (hL : LaidO w) :
    Calls Tryd.prog 14 #[instV op a b] w fun e w' => e = .returned (.string (str s)) ∧ Keep NoB w w' := by subst hs; exact show_any op a b w ha hb hL
theorem bytes_at (op a b : Int) (s : List UInt8) (w : World) (hs : encI op a b = s) (ha : I64 a) (hb : I64 b) :
    Calls Tryd.prog 13 #[instV op a b] w fun e w' => e = .returned (.string (str s)) ∧ Keep NoB w w' := by subst hs; exact bytes_any op a b w ha hb
theorem al_0 : showI 1 (-5) 0 = [105, 110, 116, 32, 45, 53] := by decide +kernel
theorem al_1 : showI 9 2 1 = [103, 101, 116, 32, 50, 32, 73] := by decide +kernel
theorem al_2 : showI 15 3 0 = [98, 105, 110, 32, 100, 105, 118] := by decide +kernel
theorem al_3 : showI 19 17 0 = [106, 122, 32, 49, 55] := by decide +kernel
theorem al_4 : encI 1 (-5) 0 = [1, 9] := by decide +kernel
theorem al_5 : encI 9 2 1 = [9, 2, 1] := by decide +kernel

set_option maxRecDepth 100000 in
set_option maxHeartbeats 4000000 in
theorem alive_any (w : World) (hL : LaidO w) :
    Calls Tryd.prog 5 #[] w fun e w' => e = .returned (.bool true) ∧ Keep NoB w w' := by
  have HL := Lib.hid hL
  clear hL
  go_enter Tryd.func5, Tryd.ntmps5
  go_wp2_with fail
  refine (of_any _ _ _ _).mono ?_
  rintro e w1 ⟨rfl, g⟩
  go_wp2_with fail
  refine (show_at 1 (-5) 0 _ _ al_0 (by unfold I64; omega) (by unfold I64; omega) (HL.out.keep g)).mono ?_
  rintro e w2 ⟨rfl, k2⟩
  replace g := keepN g k2
  go_wp2_with fail
  refine (of_any _ _ _ _).mono ?_
  rintro e w3 ⟨rfl, k3⟩
  replace g := keepN g k3
  go_wp2_with fail
  refine (show_at 9 2 1 _ _ al_1 (by unfold I64; omega) (by unfold I64; omega) (HL.out.keep g)).mono ?_
  rintro e w4 ⟨rfl, k4⟩
  replace g := keepN g k4
  go_wp2_with fail
  refine (of_any _ _ _ _).mono ?_
  rintro e w5 ⟨rfl, k5⟩
  replace g := keepN g k5
  go_wp2_with fail
  refine (show_at 15 3 0 _ _ al_2 (by unfold I64; omega) (by unfold I64; omega) (HL.out.keep g)).mono ?_
  rintro e w6 ⟨rfl, k6⟩
  replace g := keepN g k6
  go_wp2_with fail
  refine (of_any _ _ _ _).mono ?_
  rintro e w7 ⟨rfl, k7⟩
  replace g := keepN g k7
  go_wp2_with fail
  refine (show_at 19 17 0 _ _ al_3 (by unfold I64; omega) (by unfold I64; omega) (HL.out.keep g)).mono ?_
  rintro e w8 ⟨rfl, k8⟩
  replace g := keepN g k8
  go_wp2_with fail
  refine (of_any _ _ _ _).mono ?_
  rintro e w9 ⟨rfl, k9⟩
  replace g := keepN g k9
  go_wp2_with fail
  refine (bytes_at 1 (-5) 0 _ _ al_4 (by unfold I64; omega) (by unfold I64; omega)).mono ?_
  rintro e x1 ⟨rfl, k1⟩
  replace g := keepN g k1
  go_wp2_with fail
  refine (of_any _ _ _ _).mono ?_
  rintro e x2 ⟨rfl, k1⟩
  replace g := keepN g k1
  go_wp2_with fail
  refine (bytes_at 9 2 1 _ _ al_5 (by unfold I64; omega) (by unfold I64; omega)).mono ?_
  rintro e x3 ⟨rfl, k1⟩
  replace g := keepN g k1
  go_wp2
  go_ret
  exact ⟨rfl, g⟩

end Go.Proofs.YtpkcjokkadfhcaaDoor.O
