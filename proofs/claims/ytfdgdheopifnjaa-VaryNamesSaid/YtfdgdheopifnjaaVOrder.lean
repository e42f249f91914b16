/-
  VaryOrder: whatever two numbers, the law returns true. No conditions.
-/
import Derived.Test.YtfdgdheopifnjaaVAlive
import Derived.Test.YtfdgdheopifnjaaVBe
import Derived.Test.YtfdgdheopifnjaaRows
import Derived.ProofKit
namespace Go.Proofs.Ytfdgdheopifnjaa
open Go.ChangeShapes Go.WideShapes Go.ChangeAt Go.RowKit

theorem hp_at (a b : Nat) (w : World) (ha : a < 18446744073709551616) (hb : b < 18446744073709551616) :
    Calls Try.prog 41 #[.string (str (encL b)), .string (str (encL a))] w fun e w' => e = .returned (.bool ((a : Int) == (b : Int))) ∧ w = w' := by
  refine (Try.strings_HasPrefix (str (encL b)) (str (encL a)) w).mono ?_
  rintro e w' ⟨he, hw⟩
  refine ⟨he.trans ?_, hw.symm⟩
  have : ((a : Int) == (b : Int)) = decide (a = b) := by rw [Bool.eq_iff_iff]; simp; omega
  rw [this, ← encL_prefix a b ha hb]

set_option maxRecDepth 100000 in
set_option maxHeartbeats 1000000 in
theorem order_walk (a b : Nat) (w : World) (ha : Hid (a < 18446744073709551616)) (hb : Hid (b < 18446744073709551616)) :
    Calls Try.prog 7 #[.int .u64 a, .int .u64 b] w fun e w' => e = .returned (.bool true) ∧ Keep NoB w w' := by
  have HL := Lib.hid (encL_less a b ha.out hb.out)
  have hq : (((encL a).length : Int) == ((wd a : Nat) : Int)) = true := by rw [encL_length a ha.out]; simp
  by_cases hba : b < a
  all_goals
    try have hle : (encL a).length ≤ (encL b).length := by rw [encL_length a ha.out, encL_length b hb.out]; exact wd_mono (by omega)
    go_enter Try.func7, Try.ntmps7
    go_wp2_with fail
    refine (alive_any _).mono ?_
    rintro e w1 ⟨rfl, hk1⟩
    go_wp2_with fail
    refine (number_any a _).mono ?_
    rintro e w2 ⟨rfl, hk2⟩
    go_wp2_with fail
    refine (number_any b _).mono ?_
    rintro e w3 ⟨rfl, hk3⟩
    go_wp2_with fail
    refine (hp_at a b _ ha.out hb.out).mono ?_
    rintro e w4 ⟨rfl, rfl⟩
    go_wp2_with fail
    refine (width_any a _).mono ?_
    rintro e w5 ⟨rfl, rfl⟩
    go_wp2_with fail
    go_ret
    exact ⟨rfl, keepN (keepN hk1 hk2) hk3⟩

theorem Try.own : ownKnob Try.prog.godebug = none := by kernel_rfl
theorem Try.laidOut : laidOutB Try.prog = true := by kernel_rfl

theorem u64_bounds {n : Int} (h : (Lit.int .u64 n).wf = true) : 0 ≤ n ∧ n < 18446744073709551616 := by
  have hmin : IntKind.u64.min = 0 := rfl
  have hmax : IntKind.u64.max = 18446744073709551615 := rfl
  simp only [Lit.wf, Bool.and_eq_true, decide_eq_true_eq] at h
  omega

set_option maxRecDepth 100000 in
theorem order_lifted (os : Os) (started : os.Started) (H : Type) (enc : TypeId × Value → H) :
    ReturnsInHanded {} Try.checked os 7 .any (Rows.varyOrderSpec.pre6 enc Try.prog Try.f7 Rows.varyOrderRow.domain false) (Rows.varyOrderSpec.post enc Try.prog Try.f7 false true false false) := by
  refine returnsInHanded_of_change (C := Try.checked) Try.own started (by kernel_rfl) Try.func7
    (ChangeSpec.witness6 (enc := enc) (C := Try.checked) false ⟨#[], #[.int .u64 0, .int .u64 0], []⟩ 8 (by kernel_rfl) (by kernel_rfl) (by kernel_rfl) (by kernel_rfl)) ?_
  intro W base args ds gs before hval0 hW _ _
  have hval : ∀ (j : Nat) t v, Try.f7.params[j]? = some t → args[j]? = some v → Value.okWide Try.prog W .any base t v := hval0
  have hW' := hW
  obtain ⟨p, q, hA0, hV, rfl, hfz, hnd⟩ := hW
  have hA : DataW.TrodAll enc Try.prog W 0 (fun _ => true) true Try.f7.params.toList args.toList ds p := hA0
  rw [Try.params7] at hA hval
  obtain ⟨v0, v1, d0, d1, p0, p1, rfl, rfl, rfl, h0, h1⟩ := trodAll_two hA
  obtain ⟨rfl, rfl⟩ := trodVars_none hV
  obtain ⟨a, rfl, rfl, rfl, wa⟩ := open_int Try.underlying29 (hval 0 29 v0 rfl rfl) h0
  obtain ⟨b, rfl, rfl, rfl, wb⟩ := open_int Try.underlying29 (hval 1 29 v1 rfl rfl) h1
  clear hA0 hval0
  simp only [List.append_nil] at hW'
  obtain ⟨la, ua⟩ := u64_bounds wa
  obtain ⟨lb, ub⟩ := u64_bounds wb
  obtain ⟨na, rfl⟩ := Int.eq_ofNat_of_zero_le la
  obtain ⟨nb, rfl⟩ := Int.eq_ofNat_of_zero_le lb
  refine (order_walk na nb W (by show na < _; omega) (by show nb < _; omega)).mono fun e W' ⟨he, hw⟩ => ?_
  subst he
  have hb := hw.below (fun _ hf => hf.elim)
  exact ⟨_, rfl, _, _, _, [], [], [], hW', trodAll_mk1 (shut_bool Try.underlying4 true), trodAll_mk2 (shut_int Try.underlying29 wa) (shut_int Try.underlying29 wb), rfl, hb.frame _, fun h => by cases h⟩

theorem order_holds : Rows.VaryOrderSaid :=
  OpenClaim.holds_of_wide 7 Try.f7 rfl rfl rfl rfl rfl rfl rfl ⟨rfl, rfl, rfl, rfl, rfl⟩ rfl rfl rfl rfl rfl (by kernel_rfl) Try.func7 (by kernel_rfl)
    (of_decide_eq_true (by kernel_rfl)) (by unfold Func.isWrapper; rw [if_neg (of_decide_eq_false (by kernel_rfl))]; exact ⟨rfl, rfl⟩)
    (fun os started H enc _ => order_lifted os started H enc)

end Go.Proofs.Ytfdgdheopifnjaa
