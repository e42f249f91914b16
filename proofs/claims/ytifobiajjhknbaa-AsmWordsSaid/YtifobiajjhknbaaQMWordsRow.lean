/-
  AsmWords: whatever text, the law returns true, and it reads as it did. No conditions.
-/
import Derived.Test.YtifobiajjhknbaaQ2
import Derived.Test.YtifobiajjhknbaaRows
import Derived.ProofKit
import Derived.OpenShut
import Derived.SizedLaws
namespace Go.Proofs.Ytifobiajjhknbaa
namespace M
open Go.RowKit W
theorem words_c : WordsC := fun S s W hs hl => (words_any S s W hs hl).mono (by
  rintro e w' ⟨A, c, rfl, ho, k⟩
  obtain ⟨A', c', e', _, _, hr, _⟩ := ho.form
  injection e' with e1 e2 e3
  clear e2
  subst e1 e3
  exact ⟨_, _, rfl, hr, k⟩)
theorem norm_c : NormC := fun S s W hs hl => normal_any S s W hs hl
end M
open Go.ChangeShapes Go.WideShapes Go.ChangeAt Go.RowKit

theorem Try.own : ownKnob Try.prog.godebug = none := by kernel_rfl

set_option maxRecDepth 100000 in
theorem words_lifted (os : Os) (started : os.Started) (H : Type) (enc : TypeId × Value → H) :
    ReturnsInHanded {} Try.checked os 3 .any (Rows.asmWordsSpec.pre6 enc Try.prog Try.f3 Rows.asmWordsRow.domain false) (Rows.asmWordsSpec.post enc Try.prog Try.f3 false true false false) := by
  refine returnsInHanded_of_change (C := Try.checked) Try.own started (by kernel_rfl) Try.func3
    (ChangeSpec.witness6 (enc := enc) (C := Try.checked) false ⟨#[], #[.string ⟨#[]⟩], []⟩ 8 (by kernel_rfl) (by kernel_rfl) (by kernel_rfl) (by kernel_rfl)) ?_
  intro W base args ds gs before hval0 hW _ _
  have hval : ∀ (j : Nat) t v, Try.f3.params[j]? = some t → args[j]? = some v → Value.okWide Try.prog W .any base t v := hval0
  have hW' := hW
  obtain ⟨p, q, hA0, hV, rfl, hfz, hnd⟩ := hW
  have hA : DataW.TrodAll enc Try.prog W 0 (fun _ => true) true Try.f3.params.toList args.toList ds p := hA0
  rw [Try.params3] at hA hval
  obtain ⟨v1, d1, rfl, rfl, h1⟩ := trodAll_one hA
  obtain ⟨rfl, rfl⟩ := trodVars_none hV
  obtain ⟨S1, rfl, rfl, rfl, hS1⟩ := ChangeMaps.open_string Try.underlying9 (hval 0 9 v1 rfl rfl) h1
  clear hA0 hval0
  simp only [List.append_nil] at hW'
  refine (M.words_walk (Lib.hid M.words_c) (Lib.hid M.norm_c) S1 W).mono fun e W' ⟨he, hw⟩ => ?_
  subst he
  have hb := hw.below (fun _ hf => hf.elim)
  exact ⟨_, rfl, _, _, _, [], [], [], hW', trodAll_mk1 (shut_bool Try.underlying4 true), trodAll_mk1 (ChangeMaps.shut_string Try.underlying9 hS1), rfl, hb.frame _, fun h => by cases h⟩

theorem words_holds : Rows.AsmWordsSaid :=
  OpenClaim.holds_of_wide 3 Try.f3 rfl rfl rfl rfl rfl rfl rfl ⟨rfl, rfl, rfl, rfl, rfl⟩ rfl rfl rfl rfl rfl (by kernel_rfl) Try.func3 (by kernel_rfl)
    (of_decide_eq_true (by kernel_rfl)) (by unfold Func.isWrapper; rw [if_neg (of_decide_eq_false (by kernel_rfl))]; exact ⟨rfl, rfl⟩)
    (fun os started H enc _ => words_lifted os started H enc)

end Go.Proofs.Ytifobiajjhknbaa
