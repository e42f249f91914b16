/-
  AluDivides' walk. Conditions: what Binary and Unary answer (BinC, UnC).
-/
import Derived.Test.YtoljghgmpilecaaALaws
namespace Go.Proofs.Ytoljghgmpilecaa
open Go.RowKit

theorem two_ok {op a b v : Int} (h1 : binN op a b = v) (h2 : binC op b = 0) (h3 : binE op = 0) : twoN op a b = v := by unfold twoN; rw [h2, h3]; simpa using h1
theorem two_add (a b : Int) : twoN 0 a b = wrap64 (a + b) := two_ok rfl (by unfold binC; simp) rfl
theorem two_sub (a b : Int) : twoN 1 a b = wrap64 (a - b) := two_ok (by unfold binN; simp) (by unfold binC; simp) rfl
theorem two_mul (a b : Int) : twoN 2 a b = wrap64 (a * b) := two_ok (by unfold binN; simp) (by unfold binC; simp) rfl
theorem two_div (a b : Int) (h : b ≠ 0) : twoN 3 a b = wrap64 (a.tdiv b) := two_ok (by unfold binN; simp [h]) (by unfold binC; simp [h]) rfl
theorem two_rem (a b : Int) (h : b ≠ 0) : twoN 4 a b = a.tmod b := two_ok (by unfold binN; simp [h]) (by unfold binC; simp [h]) rfl
theorem wr_div (a : Int) : wrongB 3 a 0 2 = true := by unfold wrongB binN binC binE; simp
theorem wr_rem (a : Int) : wrongB 4 a 0 2 = true := by unfold wrongB binN binC binE; simp
theorem two_at (B : Hid BinC) (op a b v : Int) (w : World) (ho : I64 op) (ha : I64 a) (hb : I64 b) (hv : twoN op a b = v) :
    Calls Try.prog 15 #[.int .i64 op, .int .i64 a, .int .i64 b] w fun e w' => e = .returned (.int .i64 v) ∧ Keep NoB w w' := by
  subst hv; exact two_any B op a b w ho ha hb
theorem u_neg_in {a : Int} (h : a < 0) (hl : -9223372036854775808 ≤ a) : IntKind.u64.wrap (-IntKind.u64.wrap a) = -a := by rw [IntKind.wrap_u64, IntKind.wrap_u64]; omega

set_option maxRecDepth 100000 in
set_option maxHeartbeats 8000000 in
theorem divides_walk (B : Hid BinC) (U1 : Hid UnC) (a b : Int) (w : World) (ha : I64 a) (hb : I64 b) :
    Calls Try.prog 5 #[.int .i64 a, .int .i64 b] w fun e w' => e = .returned (.bool true) ∧ Keep NoB w w' := by
  have g := Keep.refl NoB w
  have HAl := Lib.hid (fun W => alive_any B U1 W)
  by_cases h0 : b = 0
  · subst h0
    go_enter Try.func5, Try.ntmps5
    go_wp2_with fail
    refine (HAl.out _).mono ?_
    rintro e w1 ⟨rfl, k1⟩
    go_wp2_with fail
    refine (wrong_true B 3 a 0 2 _ (by unfold I64; omega) ha hb (wr_div a)).mono ?_
    rintro e w2 ⟨rfl, k2⟩
    go_wp2_with fail
    refine (wrong_true B 4 a 0 2 _ (by unfold I64; omega) ha hb (wr_rem a)).mono ?_
    rintro e w3 ⟨rfl, k3⟩
    go_wp2
    go_ret
    exact ⟨rfl, keepN (keepN k1 k2) k3⟩
  · have hb0 : (b == 0) = false := by simpa using h0
    obtain ⟨hr1, hr2, hr3⟩ := tmod_in ha h0
    have H3 := Lib.hid (fun W => two_at B 3 a b _ W (by unfold I64; omega) ha hb (two_div a b h0))
    have H4 := Lib.hid (fun W => two_at B 4 a b _ W (by unfold I64; omega) ha hb (two_rem a b h0))
    have H2 := Lib.hid (fun W => two_at B 2 (wrap64 (a.tdiv b)) b _ W (by unfold I64; omega) (w_I64 _) hb (two_mul _ _))
    have H1 := Lib.hid (fun W => two_at B 0 (wrap64 (wrap64 (a.tdiv b) * b)) (a.tmod b) _ W (by unfold I64; omega) (w_I64 _) hr1 ((two_add _ _).trans (div_again b ha)))
    generalize wrap64 (wrap64 (a.tdiv b) * b) = M at H1 H2
    generalize wrap64 (a.tdiv b) = Q at H2 H3
    generalize a.tmod b = R at H1 H4 hr1 hr2 hr3
    obtain ⟨a1, a2⟩ := ha
    obtain ⟨b1, b2⟩ := hb
    obtain ⟨r1, r2⟩ := hr1
    have main : ∀ (sz ov : Int), (0 ≤ R → sz = R) → (R < 0 → sz = -R) → (0 ≤ b → ov = b) → (b < 0 → ov = -b) → sz < ov := by
      intro sz ov c1 c2 c3 c4
      rcases Int.lt_or_le R 0 with h | h <;> rcases Int.lt_or_le b 0 with h' | h' <;> first | (have := c2 h; have := c4 h'; omega) | (have := c2 h; have := c3 h'; omega) | (have := c1 h; have := c4 h'; omega) | (have := c1 h; have := c3 h'; omega)
    have HMn := Lib.hid main
    clear main hr2
    by_cases nb : b < 0
    · have wb := u_neg_in nb b1
      by_cases nr : R < 0
      · have wr := u_neg_in nr r1
        have na : a < 0 := by rcases hr3 with h | h <;> omega
        have nr0 : (R == 0) = false := by simp; omega
        have hlt : -R < -b := HMn.out _ _ (by omega) (by omega) (by omega) (by omega)
        clear hr3 HMn
        go_enter Try.func5, Try.ntmps5
        go_wp2_with fail
        refine (HAl.out _).mono ?_
        rintro e w1 ⟨rfl, k1⟩
        replace g := keepN g k1
        go_wp2_with fail
        refine (H3.out _).mono ?_
        rintro e w2 ⟨rfl, k2⟩
        replace g := keepN g k2
        go_wp2_with fail
        refine (H4.out _).mono ?_
        rintro e w3 ⟨rfl, k3⟩
        replace g := keepN g k3
        go_wp2_with fail
        refine (H2.out _).mono ?_
        rintro e w4 ⟨rfl, k4⟩
        replace g := keepN g k4
        go_wp2_with fail
        refine (H1.out _).mono ?_
        rintro e w5 ⟨rfl, k5⟩
        replace g := keepN g k5
        go_wp2
        go_ret
        exact ⟨rfl, g⟩
      · have na : R = 0 ∨ ¬ a < 0 := by rcases hr3 with h | h <;> omega
        have hlt : R < -b := HMn.out _ _ (by omega) (by omega) (by omega) (by omega)
        clear hr3 HMn
        rcases na with rfl | na
        · go_enter Try.func5, Try.ntmps5
          go_wp2_with fail
          refine (HAl.out _).mono ?_
          rintro e w1 ⟨rfl, k1⟩
          replace g := keepN g k1
          go_wp2_with fail
          refine (H3.out _).mono ?_
          rintro e w2 ⟨rfl, k2⟩
          replace g := keepN g k2
          go_wp2_with fail
          refine (H4.out _).mono ?_
          rintro e w3 ⟨rfl, k3⟩
          replace g := keepN g k3
          go_wp2_with fail
          refine (H2.out _).mono ?_
          rintro e w4 ⟨rfl, k4⟩
          replace g := keepN g k4
          go_wp2_with fail
          refine (H1.out _).mono ?_
          rintro e w5 ⟨rfl, k5⟩
          replace g := keepN g k5
          go_wp2
          go_ret
          exact ⟨rfl, g⟩
        · by_cases nr0 : R = 0
          · subst nr0
            go_enter Try.func5, Try.ntmps5
            go_wp2_with fail
            refine (HAl.out _).mono ?_
            rintro e w1 ⟨rfl, k1⟩
            replace g := keepN g k1
            go_wp2_with fail
            refine (H3.out _).mono ?_
            rintro e w2 ⟨rfl, k2⟩
            replace g := keepN g k2
            go_wp2_with fail
            refine (H4.out _).mono ?_
            rintro e w3 ⟨rfl, k3⟩
            replace g := keepN g k3
            go_wp2_with fail
            refine (H2.out _).mono ?_
            rintro e w4 ⟨rfl, k4⟩
            replace g := keepN g k4
            go_wp2_with fail
            refine (H1.out _).mono ?_
            rintro e w5 ⟨rfl, k5⟩
            replace g := keepN g k5
            go_wp2
            go_ret
            exact ⟨rfl, g⟩
          · have nr0 : (R == 0) = false := by simpa using nr0
            have nr' : decide (R < 0) = false := by simpa using nr
            have na' : decide (a < 0) = false := by simpa using na
            go_enter Try.func5, Try.ntmps5
            go_wp2_with fail
            refine (HAl.out _).mono ?_
            rintro e w1 ⟨rfl, k1⟩
            replace g := keepN g k1
            go_wp2_with fail
            refine (H3.out _).mono ?_
            rintro e w2 ⟨rfl, k2⟩
            replace g := keepN g k2
            go_wp2_with fail
            refine (H4.out _).mono ?_
            rintro e w3 ⟨rfl, k3⟩
            replace g := keepN g k3
            go_wp2_with fail
            refine (H2.out _).mono ?_
            rintro e w4 ⟨rfl, k4⟩
            replace g := keepN g k4
            go_wp2_with fail
            refine (H1.out _).mono ?_
            rintro e w5 ⟨rfl, k5⟩
            replace g := keepN g k5
            go_wp2
            go_ret
            exact ⟨rfl, g⟩
    · have nb' : decide (b < 0) = false := by simpa using nb
      by_cases nr : R < 0
      · have wr := u_neg_in nr r1
        have na : a < 0 := by rcases hr3 with h | h <;> omega
        have nr0 : (R == 0) = false := by simp; omega
        have hlt : -R < b := HMn.out _ _ (by omega) (by omega) (by omega) (by omega)
        clear hr3 HMn
        go_enter Try.func5, Try.ntmps5
        go_wp2_with fail
        refine (HAl.out _).mono ?_
        rintro e w1 ⟨rfl, k1⟩
        replace g := keepN g k1
        go_wp2_with fail
        refine (H3.out _).mono ?_
        rintro e w2 ⟨rfl, k2⟩
        replace g := keepN g k2
        go_wp2_with fail
        refine (H4.out _).mono ?_
        rintro e w3 ⟨rfl, k3⟩
        replace g := keepN g k3
        go_wp2_with fail
        refine (H2.out _).mono ?_
        rintro e w4 ⟨rfl, k4⟩
        replace g := keepN g k4
        go_wp2_with fail
        refine (H1.out _).mono ?_
        rintro e w5 ⟨rfl, k5⟩
        replace g := keepN g k5
        go_wp2
        go_ret
        exact ⟨rfl, g⟩
      · have na : R = 0 ∨ ¬ a < 0 := by rcases hr3 with h | h <;> omega
        have hlt : R < b := HMn.out _ _ (by omega) (by omega) (by omega) (by omega)
        clear hr3 HMn
        rcases na with rfl | na
        · go_enter Try.func5, Try.ntmps5
          go_wp2_with fail
          refine (HAl.out _).mono ?_
          rintro e w1 ⟨rfl, k1⟩
          replace g := keepN g k1
          go_wp2_with fail
          refine (H3.out _).mono ?_
          rintro e w2 ⟨rfl, k2⟩
          replace g := keepN g k2
          go_wp2_with fail
          refine (H4.out _).mono ?_
          rintro e w3 ⟨rfl, k3⟩
          replace g := keepN g k3
          go_wp2_with fail
          refine (H2.out _).mono ?_
          rintro e w4 ⟨rfl, k4⟩
          replace g := keepN g k4
          go_wp2_with fail
          refine (H1.out _).mono ?_
          rintro e w5 ⟨rfl, k5⟩
          replace g := keepN g k5
          go_wp2
          go_ret
          exact ⟨rfl, g⟩
        · by_cases nr0 : R = 0
          · subst nr0
            go_enter Try.func5, Try.ntmps5
            go_wp2_with fail
            refine (HAl.out _).mono ?_
            rintro e w1 ⟨rfl, k1⟩
            replace g := keepN g k1
            go_wp2_with fail
            refine (H3.out _).mono ?_
            rintro e w2 ⟨rfl, k2⟩
            replace g := keepN g k2
            go_wp2_with fail
            refine (H4.out _).mono ?_
            rintro e w3 ⟨rfl, k3⟩
            replace g := keepN g k3
            go_wp2_with fail
            refine (H2.out _).mono ?_
            rintro e w4 ⟨rfl, k4⟩
            replace g := keepN g k4
            go_wp2_with fail
            refine (H1.out _).mono ?_
            rintro e w5 ⟨rfl, k5⟩
            replace g := keepN g k5
            go_wp2
            go_ret
            exact ⟨rfl, g⟩
          · have nr0 : (R == 0) = false := by simpa using nr0
            have nr' : decide (R < 0) = false := by simpa using nr
            have na' : decide (a < 0) = false := by simpa using na
            go_enter Try.func5, Try.ntmps5
            go_wp2_with fail
            refine (HAl.out _).mono ?_
            rintro e w1 ⟨rfl, k1⟩
            replace g := keepN g k1
            go_wp2_with fail
            refine (H3.out _).mono ?_
            rintro e w2 ⟨rfl, k2⟩
            replace g := keepN g k2
            go_wp2_with fail
            refine (H4.out _).mono ?_
            rintro e w3 ⟨rfl, k3⟩
            replace g := keepN g k3
            go_wp2_with fail
            refine (H2.out _).mono ?_
            rintro e w4 ⟨rfl, k4⟩
            replace g := keepN g k4
            go_wp2_with fail
            refine (H1.out _).mono ?_
            rintro e w5 ⟨rfl, k5⟩
            replace g := keepN g k5
            go_wp2
            go_ret
            exact ⟨rfl, g⟩

end Go.Proofs.Ytoljghgmpilecaa
