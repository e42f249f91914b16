/-
  AsmPlain: whatever the input, the law returns true, and all reads as it did. Conditions: the row's laid variables; the card ties them.
-/
import Derived.SevenTiedAt
import Derived.Test.YtifobiajjhknbaaGreatDoorCards
import Derived.Test.YtifobiajjhknbaaGreatDoorTie
import Derived.Test.YtifobiajjhknbaaGreatDoorQ1
import Derived.Test.YtifobiajjhknbaaGreatDoorQ2
import Derived.Test.YtifobiajjhknbaaGreatDoorQ3
import Derived.Test.YtifobiajjhknbaaGreatDoorQ4
import Derived.Test.YtifobiajjhknbaaGreatDoorQ5
import Derived.Test.YtifobiajjhknbaaGreatDoorQ6
import Derived.Test.YtifobiajjhknbaaGreatDoorQ7
import Derived.Test.YtifobiajjhknbaaGreatDoorQ8
import Derived.Test.YtifobiajjhknbaaGreatDoorQ9
import Derived.Test.YtifobiajjhknbaaGreatDoorQ10
import Derived.Test.YtifobiajjhknbaaGreatDoorQ11
import Derived.Test.YtifobiajjhknbaaGreatDoorQ12
import Derived.Test.YtifobiajjhknbaaGreatDoorQ13
import Derived.Test.YtifobiajjhknbaaGreatDoorQ14
import Derived.Test.YtifobiajjhknbaaGreatDoorQ15
import Derived.Test.YtifobiajjhknbaaGreatDoorQ16
import Derived.Test.YtifobiajjhknbaaGreatDoorQ18
import Derived.Test.YtifobiajjhknbaaGreatDoorQ19
namespace Go.Proofs.YtifobiajjhknbaaGreatDoor.M
open Go.ChangeShapes Go.WideShapes Go.ChangeAt Go.RowKit O I

theorem asmPlain_met (os : Os) (args : Array Value) : laidMetH Tryz.prog Rows.asmPlainRow.laid ((World.doorLaid Tryz.prog 400 os).forCall (fun _ _ => 0) ⟨#[], args, []⟩).memory :=
  laidMetH_of_parts3 (fuel := 8) (laidMet_of_run' 8 (by kernel_rfl) (by kernel_rfl)) (by kernel_rfl) (by kernel_rfl)

set_option maxRecDepth 100000 in
theorem asmPlain_lifted (os : Os) (started : os.Started) (H : Type) (enc : TypeId × Value → H) :
    ReturnsInHanded {} Tryz.checked os 4 .any (fun w args => (Rows.asmPlainSpec.pre enc Tryz.prog Tryz.f4 [] false w args ∧ laidMetH Tryz.prog Rows.asmPlainRow.laid w) ∧ sizedMet enc Tryz.prog Tryz.f4 (OpenSpec.ofChange Rows.asmPlainSpec) false w args)
      (Rows.asmPlainSpec.post enc Tryz.prog Tryz.f4 false true false false) := by
  refine handed_sized (C := Tryz.checked) (X := fun w _ => laidMetH Tryz.prog Rows.asmPlainRow.laid w) (fun _ _ _ hh h => h.of_heap hh) seatOwn started (by kernel_rfl) Tryz.func4
    (ChangeSpec.witness_shaped (enc := enc) (C := Tryz.checked) (os := os) (X := fun w _ => laidMetH Tryz.prog Rows.asmPlainRow.laid w) false (World.doorLaid Tryz.prog 400 os) #[.agg #[.slice none 0 0, .slice none 0 0]] 8 rfl (World.shaped_of_RefB (by kernel_rfl) (by kernel_rfl)) (by kernel_rfl) (by kernel_rfl) (by kernel_rfl) (asmPlain_met os _)) ?_
  intro W base args ds gs before hval0 hW hSh hL hWt
  have hval : ∀ (j : Nat) t v, Tryz.f4.params[j]? = some t → args[j]? = some v → Value.okWide Tryz.prog W .any base t v := hval0
  have hW' := hW
  obtain ⟨p, q, hA0, hV, rfl, hfz, hnd⟩ := hW
  have hA : DataW.TrodAll enc Tryz.prog W 0 (fun _ => true) true Tryz.f4.params.toList args.toList ds p := hA0
  rw [Tryz.params4] at hA hval hWt
  obtain ⟨v0, d0, rfl, rfl, h0⟩ := trodAll_one hA
  obtain ⟨rfl, rfl⟩ := trodVars_none hV
  have h0k := h0
  obtain ⟨iv0, es0, fs0, rfl, hi0, hl0_⟩ := open_img (hval 0 27 v0 rfl rfl) h0
  have hl0 := hl0_ (wt_arg hWt (j := 0) rfl rfl)
  clear hA0 hval0
  rw [MakeChecks.laidMetH_plain _ _ _ (by kernel_rfl)] at hL
  simp only [List.append_nil] at hW'
  have hlt0 : ∀ x ∈ p, x.block < W.heap.size := fun x hx => hW'.lt x (by simp [hx])
  refine (asmPlain_walk iv0 es0 fs0 W ⟨(laidP_of hL).1, O.cutAt_of hSh⟩ (laidP_of hL).2 hi0 hl0).mono fun e W' ⟨he, hw⟩ => ?_
  subst he
  have hb := hw.below (fun _ hf => hf.elim)
  have hT := trodAll_mk1 (Below.trod seatLaidOut (by kernel_rfl) (of_decide_eq_true (by kernel_rfl)) h0k hb (fun x hx => hlt0 x hx))
  exact ⟨_, rfl, _, _, _, [], p, [], hW', trodAll_mk1 (shut_bool Tryz.underlying4 true), hT, rfl, hb.frame _, fun h => by cases h⟩

theorem asmPlain_row_holds : Rows.AsmPlainSaid :=
  OpenClaim.holds_of_wide 4 Tryz.f4 rfl rfl rfl rfl rfl rfl rfl ⟨rfl, rfl, rfl, rfl, rfl⟩ rfl rfl rfl rfl rfl (by kernel_rfl) Tryz.func4 (by kernel_rfl)
    (of_decide_eq_true (by kernel_rfl)) (by unfold Func.isWrapper; rw [if_neg (of_decide_eq_false (by kernel_rfl))]; exact ⟨rfl, rfl⟩)
    (fun os started H enc _ => asmPlain_lifted os started H enc)

end Go.Proofs.YtifobiajjhknbaaGreatDoor.M
namespace Go.Proofs.YtifobiajjhknbaaGreatDoor
open Go.ChangeShapes Go.WideShapes Go.ChangeAt Go.RowKit

theorem asmPlain_holds : Rows.AsmPlainCardSaid :=
  Claim7.holds_tied_plain_at .later [] [.data, .data, .data, .data, .data, .sentinel, .sentinel, .listed, .data, .data] true (true, "bc5477604405b1a0f68746d9525e442ca0fe9f7b84b1d93c1f05f0c46f68db3f") true
    M.asmPlain_row_holds (fun _ h => by cases h) (by kernel_rfl) (fun _ h => by cases h) asmPlain_row_tie rfl ⟨rfl, rfl⟩ (by kernel_rfl) rfl
    (fun f fn hf hfn => by
      obtain rfl : f = 4 := Option.some.inj ((show Tryz.prog.funcNamed "backstay/backstaylaw09.AsmPlain" = some 4 by kernel_rfl).symm.trans hf) |>.symm
      obtain rfl : fn = Tryz.f4 := (Option.some.inj (Tryz.func4.symm.trans hfn)).symm
      exact ⟨by kernel_rfl, fun j t ht => by
        rw [Tryz.params4] at ht
        have hm : t ∈ [27] := by simpa using Array.mem_of_getElem? ht
        have hall : ([27].all fun u => !Tryz.prog.wantsStandIn u) = true := by kernel_rfl
        exact (show Tryz.prog.wantsStandIn t = false by simpa using List.all_eq_true.1 hall t hm)⟩)
    (by kernel_rfl)

end Go.Proofs.YtifobiajjhknbaaGreatDoor
