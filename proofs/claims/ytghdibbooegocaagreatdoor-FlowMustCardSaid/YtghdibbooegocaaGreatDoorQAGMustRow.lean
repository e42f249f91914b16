/-
  FlowMust: whatever the input, the law returns true, and all reads as it did. Conditions: the row's laid variables; the card ties them.
-/
import Derived.Test.YtghdibbooegocaaGreatDoorQA15
import Derived.Test.YtghdibbooegocaaGreatDoorQA13
import Derived.Test.YtghdibbooegocaaGreatDoorCards
import Derived.Test.YtghdibbooegocaaGreatDoorTie
import Derived.SevenTiedAt
namespace Go.Proofs.YtghdibbooegocaaGreatDoor.G
open Go.ChangeShapes Go.WideShapes Go.ChangeAt Go.RowKit O

theorem flowMust_met (os : Os) (args : Array Value) : laidMetH Tryz.prog Rows.flowMustRow.laid ((World.doorLaid Tryz.prog 400 os).forCall (fun _ _ => 0) ⟨#[], args, []⟩).memory :=
  laidMetH_of_parts3 (fuel := 8) (laidMet_of_run' 8 (by kernel_rfl) (by kernel_rfl)) (by kernel_rfl) (by kernel_rfl)

set_option maxRecDepth 100000 in
theorem flowMust_lifted (os : Os) (started : os.Started) (H : Type) (enc : TypeId × Value → H) :
    ReturnsInHanded {} Tryz.checked os 6 .any (fun w args => (Rows.flowMustSpec.pre enc Tryz.prog Tryz.f6 [] false w args ∧ laidMetH Tryz.prog Rows.flowMustRow.laid w) ∧ sizedMet enc Tryz.prog Tryz.f6 (OpenSpec.ofChange Rows.flowMustSpec) false w args)
      (Rows.flowMustSpec.post enc Tryz.prog Tryz.f6 false true false false) := by
  refine handed_and (C := Tryz.checked) (X := fun w _ => laidMetH Tryz.prog Rows.flowMustRow.laid w) (fun _ _ _ hh h => h.of_heap hh) seatOwn started (by kernel_rfl) Tryz.func6
    (ChangeSpec.witness_shaped (enc := enc) (C := Tryz.checked) (os := os) (X := fun w _ => laidMetH Tryz.prog Rows.flowMustRow.laid w) false (World.doorLaid Tryz.prog 400 os) #[.slice none 0 0] 8 rfl (World.shaped_of_RefB (by kernel_rfl) (by kernel_rfl)) (by kernel_rfl) (by kernel_rfl) (by kernel_rfl) (flowMust_met os _)) ?_
  intro W base args ds gs before hval0 hW hSh hL
  have hval : ∀ (j : Nat) t v, Tryz.f6.params[j]? = some t → args[j]? = some v → Value.okWide Tryz.prog W .any base t v := hval0
  have hW' := hW
  obtain ⟨p, q, hA0, hV, rfl, hfz, hnd⟩ := hW
  have hA : DataW.TrodAll enc Tryz.prog W 0 (fun _ => true) true Tryz.f6.params.toList args.toList ds p := hA0
  rw [Tryz.params6] at hA hval
  obtain ⟨v0, d0, rfl, rfl, h0⟩ := trodAll_one hA
  obtain ⟨rfl, rfl⟩ := trodVars_none hV
  have h0k := h0
  obtain ⟨A0, l0, c0, rfl, hr0, hc0, hm0, hI0⟩ := C.open_insts (hval 0 22 v0 rfl rfl) h0
  clear hA0 hval0
  rw [MakeChecks.laidMetH_plain _ _ _ (by kernel_rfl)] at hL
  simp only [List.append_nil] at hW'
  have hlt0 : ∀ x ∈ p, x.block < W.heap.size := fun x hx => hW'.lt x (by simp [hx])
  refine (flowMust_walk A0 l0 _ c0 W hr0 (Lib.hid rfl) (Nat.le_trans hc0 (Nat.le_trans hm0 (by decide))) (laidO_of hL) (cutAt_of hSh)).mono fun e W' ⟨he, hw⟩ => ?_
  subst he
  have hb := hw.below (fun _ hf => hf.elim)
  have hT := trodAll_mk1 (Below.trod seatLaidOut (by kernel_rfl) (of_decide_eq_true (by kernel_rfl)) h0k hb (fun x hx => hlt0 x hx))
  exact ⟨_, rfl, _, _, _, [], p, [], hW', trodAll_mk1 (shut_bool Tryz.underlying4 true), hT, rfl, hb.frame _, fun h => by cases h⟩

theorem flowMust_j1 : (Rows.flowMustRow.inPlace == Tryz.pinned.checked.prog.inPlace 6) = true := by kernel_rfl
theorem flowMust_j2 : (Rows.flowMustRow.unfollowed == Tryz.pinned.checked.prog.unfollowed 6) = true := by kernel_rfl
theorem flowMust_j3 : (Rows.flowMustRow.recurses == Tryz.pinned.checked.prog.recurses 6) = true := by kernel_rfl
theorem flowMust_j4 : (Rows.flowMustRow.named == Tryz.pinned.checked.prog.varsNamed 6) = true := by kernel_rfl
set_option maxRecDepth 100000 in
theorem flowMust_closed : joinedFacts Tryz.pinned.checked.prog 6 Tryz.f6 Rows.flowMustSpec Rows.flowMustRow = true := by
  unfold joinedFacts
  rw [flowMust_j1, flowMust_j2, flowMust_j3, flowMust_j4]
  kernel_rfl

theorem flowMust_row_holds : Rows.FlowMustSaid :=
  OpenClaim.holds_of_wide 6 Tryz.f6 rfl rfl rfl rfl rfl rfl rfl ⟨rfl, rfl, rfl, rfl, rfl⟩ rfl rfl rfl rfl rfl (by kernel_rfl) Tryz.func6 flowMust_closed
    (of_decide_eq_true (by kernel_rfl)) (by unfold Func.isWrapper; rw [if_neg (of_decide_eq_false (by kernel_rfl))]; exact ⟨rfl, rfl⟩)
    (fun os started H enc _ => flowMust_lifted os started H enc)

end Go.Proofs.YtghdibbooegocaaGreatDoor.G
namespace Go.Proofs.YtghdibbooegocaaGreatDoor
open Go.ChangeShapes Go.WideShapes Go.ChangeAt Go.RowKit

theorem flowMust_k1 : Rows.flowMustRow.wfByText (OpenSpec.ofChange Rows.flowMustSpec) = true := by kernel_rfl
theorem flowMust_k2 : Tryz.pinned.checked.prog.mainIs = some (((true, "289d2c0d8bf26f7b6da9893d8c96adf9eafcc3446c792151e4f6e33cf17d1c00")).1, ((true, "289d2c0d8bf26f7b6da9893d8c96adf9eafcc3446c792151e4f6e33cf17d1c00")).2.toList) := by kernel_rfl
theorem flowMust_k3 : true = Tryz.pinned.checked.prog.looks [] := by kernel_rfl
theorem flowMust_k4 : false = Rows.flowMustRow.goesBy Tryz.pinned.checked.prog := by kernel_rfl

theorem flowMust_holds : Rows.FlowMustCardSaid :=
  Claim7.holds_tied_plain_at .later [] [.data, .data, .data, .data, .data, .sentinel, .sentinel, .data] true (true, "289d2c0d8bf26f7b6da9893d8c96adf9eafcc3446c792151e4f6e33cf17d1c00") true
    G.flowMust_row_holds (fun _ h => by cases h) flowMust_k1 (fun _ h => by cases h) flowMust_row_tie rfl ⟨rfl, rfl⟩ flowMust_k2 rfl
    (fun f fn hf hfn => by
      obtain rfl : f = 6 := Option.some.inj ((show Tryz.prog.funcNamed "backstay/backstaylaw11.FlowMust" = some 6 by kernel_rfl).symm.trans hf) |>.symm
      obtain rfl : fn = Tryz.f6 := (Option.some.inj (Tryz.func6.symm.trans hfn)).symm
      exact ⟨flowMust_k3, fun j t ht => by
        rw [Tryz.params6] at ht
        have hm : t ∈ [22] := by simpa using Array.mem_of_getElem? ht
        have hall : ([22].all fun u => !Tryz.prog.wantsStandIn u) = true := by kernel_rfl
        exact (show Tryz.prog.wantsStandIn t = false by simpa using List.all_eq_true.1 hall t hm)⟩)
    flowMust_k4

end Go.Proofs.YtghdibbooegocaaGreatDoor
