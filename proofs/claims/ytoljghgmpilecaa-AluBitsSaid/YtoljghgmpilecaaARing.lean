/-
  AluRing's walk. Conditions: what Binary and Unary answer (BinC, UnC).
-/
import Derived.Test.YtoljghgmpilecaaADiv
namespace Go.Proofs.Ytoljghgmpilecaa
open Go.RowKit

theorem one_ok {op a v : Int} (h1 : unN op a = v) (h3 : unE op = 0) : oneN op a = v := by unfold oneN; rw [h3]; simpa using h1
theorem one_neg (a : Int) : oneN 0 a = wrap64 (-a) := one_ok (un_neg a) rfl
theorem one_not (a : Int) : oneN 1 a = -1 - a := one_ok (by unfold unN; simp) rfl
theorem one_at (B : Hid UnC) (op a v : Int) (w : World) (ho : I64 op) (ha : I64 a) (hv : oneN op a = v) :
    Calls Try.prog 16 #[.int .i64 op, .int .i64 a] w fun e w' => e = .returned (.int .i64 v) ∧ Keep NoB w w' := by
  subst hv; exact one_any B op a w ho ha

set_option maxRecDepth 100000 in
set_option maxHeartbeats 8000000 in
theorem ring_walk (B : Hid BinC) (U1 : Hid UnC) (a b c : Int) (w : World) (ha : I64 a) (hb : I64 b) (hc : I64 c) :
    Calls Try.prog 6 #[.int .i64 a, .int .i64 b, .int .i64 c] w fun e w' => e = .returned (.bool true) ∧ Keep NoB w w' := by
  have g := Keep.refl NoB w
  have HAl := Lib.hid (fun W => alive_any B U1 W)
  have z0 : I64 0 := by unfold I64; omega
  have z1 : I64 1 := by unfold I64; omega
  have z2 : I64 2 := by unfold I64; omega
  have H1 := Lib.hid (fun W => two_at B 0 b c ((wrap64 (b + c))) W z0 hb hc (two_add b c))
  have H2 := Lib.hid (fun W => two_at B 2 b c ((wrap64 (b * c))) W z2 hb hc (two_mul b c))
  have H3 := Lib.hid (fun W => two_at B 0 a b ((wrap64 (a + b))) W z0 ha hb (two_add a b))
  have H4 := Lib.hid (fun W => two_at B 0 b a ((wrap64 (a + b))) W z0 hb ha ((two_add b a).trans (by rw [Int.add_comm])))
  have H5 := Lib.hid (fun W => two_at B 2 a b ((wrap64 (a * b))) W z2 ha hb (two_mul a b))
  have H6 := Lib.hid (fun W => two_at B 2 b a ((wrap64 (a * b))) W z2 hb ha ((two_mul b a).trans (by rw [Int.mul_comm])))
  have H7 := Lib.hid (fun W => two_at B 0 a (wrap64 (b + c)) (wrap64 (a + b + c)) W z0 ha (w_I64 _) ((two_add a _).trans (by rw [w_add_r, Int.add_assoc])))
  have H8 := Lib.hid (fun W => two_at B 0 a b ((wrap64 (a + b))) W z0 ha hb (two_add a b))
  have H9 := Lib.hid (fun W => two_at B 0 (wrap64 (a + b)) c (wrap64 (a + b + c)) W z0 (w_I64 _) hc ((two_add _ c).trans (by rw [w_add_l])))
  have H10 := Lib.hid (fun W => two_at B 2 a (wrap64 (b * c)) (wrap64 (a * b * c)) W z2 ha (w_I64 _) ((two_mul a _).trans (by rw [w_mul_r, Int.mul_assoc])))
  have H11 := Lib.hid (fun W => two_at B 2 a b ((wrap64 (a * b))) W z2 ha hb (two_mul a b))
  have H12 := Lib.hid (fun W => two_at B 2 (wrap64 (a * b)) c (wrap64 (a * b * c)) W z2 (w_I64 _) hc ((two_mul _ c).trans (by rw [w_mul_l])))
  have H13 := Lib.hid (fun W => two_at B 2 a (wrap64 (b + c)) (wrap64 (a * (b + c))) W z2 ha (w_I64 _) ((two_mul a _).trans (by rw [w_mul_r])))
  have H14 := Lib.hid (fun W => two_at B 2 a b ((wrap64 (a * b))) W z2 ha hb (two_mul a b))
  have H15 := Lib.hid (fun W => two_at B 2 a c ((wrap64 (a * c))) W z2 ha hc (two_mul a c))
  have H16 := Lib.hid (fun W => two_at B 0 (wrap64 (a * b)) (wrap64 (a * c)) (wrap64 (a * (b + c))) W z0 (w_I64 _) (w_I64 _) ((two_add _ _).trans (by rw [w_add_l, w_add_r, Int.mul_add])))
  have H17 := Lib.hid (fun W => two_at B 1 a b (wrap64 (a - b)) W z1 ha hb (two_sub a b))
  have H18 := Lib.hid (fun W => one_at U1 0 b (wrap64 (-b)) W z0 hb (one_neg b))
  have H19 := Lib.hid (fun W => two_at B 0 a (wrap64 (-b)) (wrap64 (a - b)) W z0 ha (w_I64 _) ((two_add a _).trans (by rw [w_add_r, Int.sub_eq_add_neg])))
  have H20 := Lib.hid (fun W => two_at B 1 a a (0) W z1 ha ha ((two_sub a a).trans (by rw [Int.sub_self]; exact w_in (by unfold I64; omega))))
  clear ha hb hc z0 z1 z2
  generalize wrap64 (a + b + c) = X3 at *
  generalize wrap64 (a * b * c) = X4 at *
  generalize wrap64 (a * (b + c)) = X5 at *
  generalize wrap64 (b + c) = S at *
  generalize wrap64 (b * c) = T at *
  generalize wrap64 (a + b) = X1 at *
  generalize wrap64 (a * b) = X2 at *
  generalize wrap64 (a * c) = X6 at *
  generalize wrap64 (a - b) = X7 at *
  generalize wrap64 (-b) = X8 at *
  go_enter Try.func6, Try.ntmps6
  go_wp2_with fail
  refine (HAl.out _).mono ?_
  rintro e w1 ⟨rfl, k1⟩
  replace g := keepN g k1
  clear k1
  go_wp2_with fail
  refine (H1.out _).mono ?_
  rintro e w2 ⟨rfl, k1⟩
  replace g := keepN g k1
  clear k1
  go_wp2_with fail
  refine (H2.out _).mono ?_
  rintro e w3 ⟨rfl, k1⟩
  replace g := keepN g k1
  clear k1
  go_wp2_with fail
  refine (H3.out _).mono ?_
  rintro e w4 ⟨rfl, k1⟩
  replace g := keepN g k1
  clear k1
  go_wp2_with fail
  refine (H4.out _).mono ?_
  rintro e w5 ⟨rfl, k1⟩
  replace g := keepN g k1
  clear k1
  go_wp2_with fail
  refine (H5.out _).mono ?_
  rintro e w6 ⟨rfl, k1⟩
  replace g := keepN g k1
  clear k1
  go_wp2_with fail
  refine (H6.out _).mono ?_
  rintro e w7 ⟨rfl, k1⟩
  replace g := keepN g k1
  clear k1
  go_wp2_with fail
  refine (H7.out _).mono ?_
  rintro e w8 ⟨rfl, k1⟩
  replace g := keepN g k1
  clear k1
  go_wp2_with fail
  refine (H8.out _).mono ?_
  rintro e w9 ⟨rfl, k1⟩
  replace g := keepN g k1
  clear k1
  go_wp2_with fail
  refine (H9.out _).mono ?_
  rintro e w10 ⟨rfl, k1⟩
  replace g := keepN g k1
  clear k1
  go_wp2_with fail
  refine (H10.out _).mono ?_
  rintro e w11 ⟨rfl, k1⟩
  replace g := keepN g k1
  clear k1
  go_wp2_with fail
  refine (H11.out _).mono ?_
  rintro e w12 ⟨rfl, k1⟩
  replace g := keepN g k1
  clear k1
  go_wp2_with fail
  refine (H12.out _).mono ?_
  rintro e w13 ⟨rfl, k1⟩
  replace g := keepN g k1
  clear k1
  go_wp2_with fail
  refine (H13.out _).mono ?_
  rintro e w14 ⟨rfl, k1⟩
  replace g := keepN g k1
  clear k1
  go_wp2_with fail
  refine (H14.out _).mono ?_
  rintro e w15 ⟨rfl, k1⟩
  replace g := keepN g k1
  clear k1
  go_wp2_with fail
  refine (H15.out _).mono ?_
  rintro e w16 ⟨rfl, k1⟩
  replace g := keepN g k1
  clear k1
  go_wp2_with fail
  refine (H16.out _).mono ?_
  rintro e w17 ⟨rfl, k1⟩
  replace g := keepN g k1
  clear k1
  go_wp2_with fail
  refine (H17.out _).mono ?_
  rintro e w18 ⟨rfl, k1⟩
  replace g := keepN g k1
  clear k1
  go_wp2_with fail
  refine (H18.out _).mono ?_
  rintro e w19 ⟨rfl, k1⟩
  replace g := keepN g k1
  clear k1
  go_wp2_with fail
  refine (H19.out _).mono ?_
  rintro e w20 ⟨rfl, k1⟩
  replace g := keepN g k1
  clear k1
  go_wp2_with fail
  refine (H20.out _).mono ?_
  rintro e w21 ⟨rfl, k1⟩
  replace g := keepN g k1
  clear k1
  go_wp2
  go_ret
  exact ⟨rfl, g⟩

end Go.Proofs.Ytoljghgmpilecaa
