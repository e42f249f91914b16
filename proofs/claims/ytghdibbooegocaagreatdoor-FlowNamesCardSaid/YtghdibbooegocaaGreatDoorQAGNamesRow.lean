/-
  FlowNames: the law, which takes nothing, returns true. Conditions: the row's laid variables; the card ties them.
-/
import Derived.Test.YtghdibbooegocaaGreatDoorQA16
import Derived.Test.YtghdibbooegocaaGreatDoorQA13
import Derived.Test.YtghdibbooegocaaGreatDoorCards
import Derived.Test.YtghdibbooegocaaGreatDoorTie
import Derived.SevenTiedAt
namespace Go.Proofs.YtghdibbooegocaaGreatDoor.G
open Go.ChangeShapes Go.WideShapes Go.ChangeAt Go.RowKit O

theorem flowNames_met (os : Os) (args : Array Value) : laidMetH Tryz.prog Rows.flowNamesRow.laid ((World.doorLaid Tryz.prog 400 os).forCall (fun _ _ => 0) ⟨#[], args, []⟩).memory :=
  laidMetH_of_parts3 (fuel := 8) (laidMet_of_run' 8 (by kernel_rfl) (by kernel_rfl)) (by kernel_rfl) (by kernel_rfl)

set_option maxRecDepth 100000 in
theorem flowNames_lifted (os : Os) (started : os.Started) (H : Type) (enc : TypeId × Value → H) :
    ReturnsInHanded {} Tryz.checked os 4 .any (fun w args => (Rows.flowNamesSpec.pre enc Tryz.prog Tryz.f4 [] false w args ∧ laidMetH Tryz.prog Rows.flowNamesRow.laid w) ∧ sizedMet enc Tryz.prog Tryz.f4 (OpenSpec.ofChange Rows.flowNamesSpec) false w args)
      (Rows.flowNamesSpec.post enc Tryz.prog Tryz.f4 false true false false) := by
  refine handed_and (C := Tryz.checked) (X := fun w _ => laidMetH Tryz.prog Rows.flowNamesRow.laid w) (fun _ _ _ hh h => h.of_heap hh) seatOwn started (by kernel_rfl) Tryz.func4
    (ChangeSpec.witness_shaped (enc := enc) (C := Tryz.checked) (os := os) (X := fun w _ => laidMetH Tryz.prog Rows.flowNamesRow.laid w) false (World.doorLaid Tryz.prog 400 os) #[] 8 rfl (World.shaped_of_RefB (by kernel_rfl) (by kernel_rfl)) (by kernel_rfl) (by kernel_rfl) (by kernel_rfl) (flowNames_met os _)) ?_
  intro W base args ds gs before hval0 hW hSh hL
  have hW' := hW
  obtain ⟨p, q, hA0, hV, rfl, hfz, hnd⟩ := hW
  have hA : DataW.TrodAll enc Tryz.prog W 0 (fun _ => true) true Tryz.f4.params.toList args.toList ds p := hA0
  rw [Tryz.params4] at hA
  obtain ⟨rfl, rfl, rfl⟩ := trodAll_none hA
  obtain ⟨rfl, rfl⟩ := trodVars_none hV
  clear hA0 hval0
  rw [MakeChecks.laidMetH_plain _ _ _ (by kernel_rfl)] at hL
  refine (flowNames_walk W (laidO_of hL) (cutAt_of hSh)).mono fun e W' ⟨he, hw⟩ => ?_
  subst he
  have hb := hw.below (fun _ hf => hf.elim)
  exact ⟨_, rfl, _, _, _, [], [], [], hW', trodAll_mk1 (shut_bool Tryz.underlying4 true), trodAll_mk0, rfl, hb.frame _, fun h => by cases h⟩

theorem flowNames_j1 : (Rows.flowNamesRow.inPlace == Tryz.pinned.checked.prog.inPlace 4) = true := by kernel_rfl
theorem flowNames_j2 : (Rows.flowNamesRow.unfollowed == Tryz.pinned.checked.prog.unfollowed 4) = true := by kernel_rfl
theorem flowNames_j3 : (Rows.flowNamesRow.recurses == Tryz.pinned.checked.prog.recurses 4) = true := by kernel_rfl
theorem flowNames_j4 : (Rows.flowNamesRow.named == Tryz.pinned.checked.prog.varsNamed 4) = true := by kernel_rfl
set_option maxRecDepth 100000 in
theorem flowNames_closed : joinedFacts Tryz.pinned.checked.prog 4 Tryz.f4 Rows.flowNamesSpec Rows.flowNamesRow = true := by
  unfold joinedFacts
  rw [flowNames_j1, flowNames_j2, flowNames_j3, flowNames_j4]
  kernel_rfl

theorem flowNames_row_holds : Rows.FlowNamesSaid :=
  OpenClaim.holds_of_wide 4 Tryz.f4 rfl rfl rfl rfl rfl rfl rfl ⟨rfl, rfl, rfl, rfl, rfl⟩ rfl rfl rfl rfl rfl (by kernel_rfl) Tryz.func4 flowNames_closed
    (of_decide_eq_true (by kernel_rfl)) (by unfold Func.isWrapper; rw [if_neg (of_decide_eq_false (by kernel_rfl))]; exact ⟨rfl, rfl⟩)
    (fun os started H enc _ => flowNames_lifted os started H enc)

end Go.Proofs.YtghdibbooegocaaGreatDoor.G
namespace Go.Proofs.YtghdibbooegocaaGreatDoor
open Go.ChangeShapes Go.WideShapes Go.ChangeAt Go.RowKit

theorem flowNames_k1 : Rows.flowNamesRow.wfByText (OpenSpec.ofChange Rows.flowNamesSpec) = true := by kernel_rfl
theorem flowNames_k2 : Tryz.pinned.checked.prog.mainIs = some (((true, "289d2c0d8bf26f7b6da9893d8c96adf9eafcc3446c792151e4f6e33cf17d1c00")).1, ((true, "289d2c0d8bf26f7b6da9893d8c96adf9eafcc3446c792151e4f6e33cf17d1c00")).2.toList) := by kernel_rfl
theorem flowNames_k3 : true = Tryz.pinned.checked.prog.looks [] := by kernel_rfl
theorem flowNames_k4 : false = Rows.flowNamesRow.goesBy Tryz.pinned.checked.prog := by kernel_rfl

theorem flowNames_holds : Rows.FlowNamesCardSaid :=
  Claim7.holds_tied_plain_at .later [] [.data, .data, .data, .data, .data, .sentinel, .sentinel, .data] true (true, "289d2c0d8bf26f7b6da9893d8c96adf9eafcc3446c792151e4f6e33cf17d1c00") true
    G.flowNames_row_holds (fun _ h => by cases h) flowNames_k1 (fun _ h => by cases h) flowNames_row_tie rfl ⟨rfl, rfl⟩ flowNames_k2 rfl
    (fun f fn hf hfn => by
      obtain rfl : f = 4 := Option.some.inj ((show Tryz.prog.funcNamed "backstay/backstaylaw11.FlowNames" = some 4 by kernel_rfl).symm.trans hf) |>.symm
      obtain rfl : fn = Tryz.f4 := (Option.some.inj (Tryz.func4.symm.trans hfn)).symm
      exact ⟨flowNames_k3, fun j t ht => by
        rw [Tryz.params4] at ht
        simp at ht⟩)
    flowNames_k4

end Go.Proofs.YtghdibbooegocaaGreatDoor
