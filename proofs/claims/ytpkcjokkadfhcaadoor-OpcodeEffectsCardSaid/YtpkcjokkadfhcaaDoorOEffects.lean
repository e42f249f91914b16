/-
  OpcodeEffects' walk, whole. Conditions: the listed package-level variables hold what their initialisers lay.
-/
import Derived.Test.YtpkcjokkadfhcaaDoorOEffectsG
import Derived.Test.YtpkcjokkadfhcaaDoorOEffectsE
import Derived.Test.YtpkcjokkadfhcaaDoorOEffectsP
import Derived.Test.YtpkcjokkadfhcaaDoorOEffectsQ
import Derived.Test.YtpkcjokkadfhcaaDoorOEffectsN
namespace Go.Proofs.YtpkcjokkadfhcaaDoor.O
open Go.RowKit

theorem effects_walk (op a b op' a' b' : Int) (w : World) (hL : LaidO w) :
    Calls Tryd.prog 3 #[instV op a b, instV op' a' b'] w fun e w' => e = .returned (.bool true) ∧ Keep NoB w w' := by
  obtain ⟨h1, h2⟩ := eff_two op a b
  have dn : decide ((2 : Int) < ((takesI op a b).length : Int)) = false := by rw [decide_eq_false_iff_not]; omega
  have dm : decide ((2 : Int) < ((leavesI op a b).length : Int)) = false := by rw [decide_eq_false_iff_not]; omega
  have hk : Hid (∀ t ∈ takesI op a b ++ leavesI op a b, W.knownB t = true) := eff_known op a b
  have hx : ∀ f, fixedI op a b = f → Hid ((takesI op a b = takesI op a b ∧ leavesI op a b = leavesI op a b) ∧ (fixedI op a b = f ∧ (takesI op a b).length = (takesI op a b).length ∧ (leavesI op a b).length = (leavesI op a b).length)) := fun f h => ⟨⟨rfl, rfl⟩, h, rfl, rfl⟩
  cases ho : okI op a b
  · have hf : fixedI op a b = false := by unfold fixedI; rw [ho]; rfl
    have hg : goesI op a b = false := by
      rw [Bool.eq_false_iff]; intro h; rw [(eff_goes (.inl h)).1] at ho; cases ho
    have he : endsI op a b = false := by
      rw [Bool.eq_false_iff]; intro h; rw [(eff_goes (.inr h)).1] at ho; cases ho
    by_cases e : op' = op
    · exact effects_N_M op a b op' a' b' w hL _ _ _ _ (hx _ hf) (chk_no ho) he _ ⟨rfl, hg⟩ h1 h2 dn dm hk (by simp [e])
    · exact effects_N_D op a b op' a' b' w hL _ _ _ _ (hx _ hf) (chk_no ho) he _ ⟨rfl, hg⟩ h1 h2 dn dm hk (by simpa using e)
  · cases hg : goesI op a b
    · cases he : endsI op a b
      · cases hf : fixedI op a b
        · exact effects_Q op a b op' a' b' w hL _ _ _ _ (hx _ hf) (chk_ok ho) he _ ⟨rfl, hg⟩ h1 h2 dn dm hk ho
        · exact effects_P op a b op' a' b' w hL _ _ _ _ (hx _ hf) (chk_ok ho) he _ ⟨rfl, hg⟩ h1 h2 dn dm hk ho
      · obtain ⟨_, hf, h0⟩ := eff_goes (.inr he)
        exact effects_E op a b op' a' b' w hL _ _ _ _ (hx _ hf) (chk_ok ho) he _ ⟨rfl, hg⟩ h1 h2 dn dm (by rw [h0]; rfl) hk ho
    · obtain ⟨_, hf, h0⟩ := eff_goes (.inl hg)
      exact effects_G op a b op' a' b' w hL _ _ _ _ (hx _ hf) (chk_ok ho) _ ⟨rfl, hg⟩ h1 h2 dn dm (by rw [h0]; rfl) hk ho

end Go.Proofs.YtpkcjokkadfhcaaDoor.O
