/-
  VaryZigs: whatever a number, two signed numbers and two bounds, the law returns true, and all read as they did. No conditions.
-/
import Derived.Test.YtfdgdheopifnjaaVZigs
import Derived.OpenShut
namespace Go.Proofs.Ytfdgdheopifnjaa
open Go.ChangeShapes Go.WideShapes Go.ChangeAt Go.RowKit

theorem zigs_walk (n : Nat) (a b lo hi : Int) (w : World) (hn : Hid (n < 18446744073709551616)) (a1 : -9223372036854775808 ≤ a) (a2 : a ≤ 9223372036854775807) (b1 : -9223372036854775808 ≤ b) (b2 : b ≤ 9223372036854775807) :
    Calls Try.prog 8 #[.int .u64 n, .int .i64 a, .int .i64 b, .int .i64 lo, .int .i64 hi] w fun e w' => e = .returned (.bool true) ∧ Keep NoB w w' := by
  rcases (show (lo ≤ a ∧ a ≤ hi) ∨ a < lo ∨ (lo ≤ a ∧ hi < a) by omega) with ⟨i1, i2⟩ | i1 | ⟨i1, i2⟩
  all_goals rcases (show (a ≤ -4611686018427387904) ∨ (-4611686018427387904 < a ∧ 4611686018427387904 ≤ a) ∨ (-4611686018427387904 < a ∧ a < 4611686018427387904 ∧ b ≤ -4611686018427387904) ∨ (-4611686018427387904 < a ∧ a < 4611686018427387904 ∧ -4611686018427387904 < b ∧ 4611686018427387904 ≤ b) ∨ (-4611686018427387904 < a ∧ a < 4611686018427387904 ∧ -4611686018427387904 < b ∧ b < 4611686018427387904 ∧ max b (-b) ≤ max a (-a)) ∨ (-4611686018427387904 < a ∧ a < 4611686018427387904 ∧ -4611686018427387904 < b ∧ b < 4611686018427387904 ∧ max a (-a) < max b (-b)) by omega) with f1 | ⟨f1, f2⟩ | ⟨f1, f2, f3⟩ | ⟨f1, f2, f3, f4⟩ | ⟨f1, f2, f3, f4, f5⟩ | ⟨f1, f2, f3, f4, f5⟩
  · exact zigs_far1_in n a b lo hi w hn a1 a2 b1 b2 f1 i1 i2
  · exact zigs_far2_in n a b lo hi w hn a1 a2 b1 b2 f1 f2 i1 i2
  · exact zigs_far3_in n a b lo hi w hn a1 a2 b1 b2 f1 f2 f3 i1 i2
  · exact zigs_far4_in n a b lo hi w hn a1 a2 b1 b2 f1 f2 f3 f4 i1 i2
  · exact zigs_far5_in n a b lo hi w hn a1 a2 b1 b2 f1 f2 f3 f4 f5 i1 i2
  · exact zigs_near_in n a b lo hi w hn a1 a2 b1 b2 f1 f2 f3 f4 f5 i1 i2
  · exact zigs_far1_lo n a b lo hi w hn a1 a2 b1 b2 f1 i1
  · exact zigs_far2_lo n a b lo hi w hn a1 a2 b1 b2 f1 f2 i1
  · exact zigs_far3_lo n a b lo hi w hn a1 a2 b1 b2 f1 f2 f3 i1
  · exact zigs_far4_lo n a b lo hi w hn a1 a2 b1 b2 f1 f2 f3 f4 i1
  · exact zigs_far5_lo n a b lo hi w hn a1 a2 b1 b2 f1 f2 f3 f4 f5 i1
  · exact zigs_near_lo n a b lo hi w hn a1 a2 b1 b2 f1 f2 f3 f4 f5 i1
  · exact zigs_far1_hi n a b lo hi w hn a1 a2 b1 b2 f1 i1 i2
  · exact zigs_far2_hi n a b lo hi w hn a1 a2 b1 b2 f1 f2 i1 i2
  · exact zigs_far3_hi n a b lo hi w hn a1 a2 b1 b2 f1 f2 f3 i1 i2
  · exact zigs_far4_hi n a b lo hi w hn a1 a2 b1 b2 f1 f2 f3 f4 i1 i2
  · exact zigs_far5_hi n a b lo hi w hn a1 a2 b1 b2 f1 f2 f3 f4 f5 i1 i2
  · exact zigs_near_hi n a b lo hi w hn a1 a2 b1 b2 f1 f2 f3 f4 f5 i1 i2

theorem i64_bounds {n : Int} (h : (Lit.int .i64 n).wf = true) : -9223372036854775808 ≤ n ∧ n ≤ 9223372036854775807 := by
  have hmin : IntKind.i64.min = -9223372036854775808 := rfl
  have hmax : IntKind.i64.max = 9223372036854775807 := rfl
  simp only [Lit.wf, Bool.and_eq_true, decide_eq_true_eq] at h
  omega

set_option maxRecDepth 100000 in
theorem zigs_lifted (os : Os) (started : os.Started) (H : Type) (enc : TypeId × Value → H) :
    ReturnsInHanded {} Try.checked os 8 .any (Rows.varyZigsSpec.pre6 enc Try.prog Try.f8 Rows.varyZigsRow.domain false) (Rows.varyZigsSpec.post enc Try.prog Try.f8 false true false false) := by
  refine returnsInHanded_of_change (C := Try.checked) Try.own started (by kernel_rfl) Try.func8
    (ChangeSpec.witness6 (enc := enc) (C := Try.checked) false ⟨#[], #[.int .u64 0, .int .i64 0, .int .i64 0, .int .i64 0, .int .i64 0], []⟩ 8 (by kernel_rfl) (by kernel_rfl) (by kernel_rfl) (by kernel_rfl)) ?_
  intro W base args ds gs before hval0 hW _ _
  have hval : ∀ (j : Nat) t v, Try.f8.params[j]? = some t → args[j]? = some v → Value.okWide Try.prog W .any base t v := hval0
  have hW' := hW
  obtain ⟨p, q, hA0, hV, hpq, hfz, hnd⟩ := hW
  have hA : DataW.TrodAll enc Try.prog W 0 (fun _ => true) true Try.f8.params.toList args.toList ds p := hA0
  rw [Try.params8] at hA hval
  obtain ⟨v0, vs0, d0, ds0, p0, q0, hargs, rfl, rfl, h0, r0⟩ := trodAll_cons hA
  obtain ⟨v1, vs1, d1, ds1, p1, q1, rfl, rfl, rfl, h1, r1⟩ := trodAll_cons r0
  obtain ⟨v2, vs2, d2, ds2, p2, q2, rfl, rfl, rfl, h2, r2⟩ := trodAll_cons r1
  obtain ⟨v3, vs3, d3, ds3, p3, q3, rfl, rfl, rfl, h3, r3⟩ := trodAll_cons r2
  obtain ⟨v4, vs4, d4, ds4, p4, q4, rfl, rfl, rfl, h4, r4⟩ := trodAll_cons r3
  obtain ⟨rfl, rfl, rfl⟩ := trodAll_nil r4
  obtain rfl : args = #[v0, v1, v2, v3, v4] := by rw [← Array.toArray_toList (xs := args), hargs]
  obtain ⟨rfl, rfl⟩ := trodVars_none hV
  obtain ⟨n, rfl, rfl, rfl, wn⟩ := open_int Try.underlying29 (hval 0 29 v0 rfl rfl) h0
  obtain ⟨a, rfl, rfl, rfl, wa⟩ := open_int Try.underlying2 (hval 1 2 v1 rfl rfl) h1
  obtain ⟨b, rfl, rfl, rfl, wb⟩ := open_int Try.underlying2 (hval 2 2 v2 rfl rfl) h2
  obtain ⟨lo, rfl, rfl, rfl, wlo⟩ := open_int Try.underlying2 (hval 3 2 v3 rfl rfl) h3
  obtain ⟨hi, rfl, rfl, rfl, whi⟩ := open_int Try.underlying2 (hval 4 2 v4 rfl rfl) h4
  clear hA0 hval0
  obtain ⟨ln, un⟩ := u64_bounds wn
  obtain ⟨nn, rfl⟩ := Int.eq_ofNat_of_zero_le ln
  obtain ⟨a1, a2⟩ := i64_bounds wa
  obtain ⟨b1, b2⟩ := i64_bounds wb
  refine (zigs_walk nn a b lo hi W (by show nn < _; omega) a1 a2 b1 b2).mono fun e W' ⟨he, hw⟩ => ?_
  subst he
  have hb := hw.below (fun _ hf => hf.elim)
  exact ⟨_, rfl, _, _, _, [], _, [], hW', trodAll_mk1 (shut_bool Try.underlying4 true), trodAll_cons_mk (shut_int Try.underlying29 wn) (trodAll_cons_mk (shut_int Try.underlying2 wa) (trodAll_cons_mk (shut_int Try.underlying2 wb) (trodAll_cons_mk (shut_int Try.underlying2 wlo) (trodAll_cons_mk (shut_int Try.underlying2 whi) trodAll_mk0)))), rfl, hb.frame _, fun h => by cases h⟩

theorem zigs_holds : Rows.VaryZigsSaid :=
  OpenClaim.holds_of_wide 8 Try.f8 rfl rfl rfl rfl rfl rfl rfl ⟨rfl, rfl, rfl, rfl, rfl⟩ rfl rfl rfl rfl rfl (by kernel_rfl) Try.func8 (by kernel_rfl)
    (of_decide_eq_true (by kernel_rfl)) (by unfold Func.isWrapper; rw [if_neg (of_decide_eq_false (by kernel_rfl))]; exact ⟨rfl, rfl⟩)
    (fun os started H enc _ => zigs_lifted os started H enc)

end Go.Proofs.Ytfdgdheopifnjaa
