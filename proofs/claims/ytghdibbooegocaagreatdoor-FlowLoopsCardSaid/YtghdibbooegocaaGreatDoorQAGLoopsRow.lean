/-
  FlowLoops: whatever the input, the law returns true, and all reads as it did. Conditions: the row's laid variables; the card ties them.
-/
import Derived.Test.YtghdibbooegocaaGreatDoorQA12
import Derived.Test.YtghdibbooegocaaGreatDoorQA13
import Derived.Test.YtghdibbooegocaaGreatDoorCards
import Derived.Test.YtghdibbooegocaaGreatDoorTie
import Derived.SevenTiedAt
namespace Go.Proofs.YtghdibbooegocaaGreatDoor.G
open Go.ChangeShapes Go.WideShapes Go.ChangeAt Go.RowKit O

theorem flowLoops_met (os : Os) (args : Array Value) : laidMetH Tryz.prog Rows.flowLoopsRow.laid ((World.doorLaid Tryz.prog 400 os).forCall (fun _ _ => 0) ⟨#[], args, []⟩).memory :=
  laidMetH_of_parts3 (fuel := 8) (laidMet_of_run' 8 (by kernel_rfl) (by kernel_rfl)) (by kernel_rfl) (by kernel_rfl)

set_option maxRecDepth 100000 in
theorem flowLoops_lifted (os : Os) (started : os.Started) (H : Type) (enc : TypeId × Value → H) :
    ReturnsInHanded {} Tryz.checked os 7 .any (fun w args => (Rows.flowLoopsSpec.pre enc Tryz.prog Tryz.f7 [] false w args ∧ laidMetH Tryz.prog Rows.flowLoopsRow.laid w) ∧ sizedMet enc Tryz.prog Tryz.f7 (OpenSpec.ofChange Rows.flowLoopsSpec) false w args)
      (Rows.flowLoopsSpec.post enc Tryz.prog Tryz.f7 false true false false) := by
  refine handed_and (C := Tryz.checked) (X := fun w _ => laidMetH Tryz.prog Rows.flowLoopsRow.laid w) (fun _ _ _ hh h => h.of_heap hh) seatOwn started (by kernel_rfl) Tryz.func7
    (ChangeSpec.witness_shaped (enc := enc) (C := Tryz.checked) (os := os) (X := fun w _ => laidMetH Tryz.prog Rows.flowLoopsRow.laid w) false (World.doorLaid Tryz.prog 400 os) #[.slice none 0 0] 8 rfl (World.shaped_of_RefB (by kernel_rfl) (by kernel_rfl)) (by kernel_rfl) (by kernel_rfl) (by kernel_rfl) (flowLoops_met os _)) ?_
  intro W base args ds gs before hval0 hW hSh hL
  have hval : ∀ (j : Nat) t v, Tryz.f7.params[j]? = some t → args[j]? = some v → Value.okWide Tryz.prog W .any base t v := hval0
  have hW' := hW
  obtain ⟨p, q, hA0, hV, rfl, hfz, hnd⟩ := hW
  have hA : DataW.TrodAll enc Tryz.prog W 0 (fun _ => true) true Tryz.f7.params.toList args.toList ds p := hA0
  rw [Tryz.params7] at hA hval
  obtain ⟨v0, d0, rfl, rfl, h0⟩ := trodAll_one hA
  obtain ⟨rfl, rfl⟩ := trodVars_none hV
  have h0k := h0
  obtain ⟨A0, l0, c0, rfl, hr0, hc0, hm0, hI0⟩ := C.open_insts (hval 0 22 v0 rfl rfl) h0
  clear hA0 hval0
  rw [MakeChecks.laidMetH_plain _ _ _ (by kernel_rfl)] at hL
  simp only [List.append_nil] at hW'
  have hlt0 : ∀ x ∈ p, x.block < W.heap.size := fun x hx => hW'.lt x (by simp [hx])
  refine (flowLoops_walk A0 l0 _ c0 W hr0 (Lib.hid rfl) (Nat.le_trans hc0 (Nat.le_trans hm0 (by decide))) (laidO_of hL) (cutAt_of hSh)).mono fun e W' ⟨he, hw⟩ => ?_
  subst he
  have hb := hw.below (fun _ hf => hf.elim)
  have hT := trodAll_mk1 (Below.trod seatLaidOut (by kernel_rfl) (of_decide_eq_true (by kernel_rfl)) h0k hb (fun x hx => hlt0 x hx))
  exact ⟨_, rfl, _, _, _, [], p, [], hW', trodAll_mk1 (shut_bool Tryz.underlying4 true), hT, rfl, hb.frame _, fun h => by cases h⟩

theorem flowLoops_j1 : (Rows.flowLoopsRow.inPlace == Tryz.pinned.checked.prog.inPlace 7) = true := by kernel_rfl
theorem flowLoops_j2 : (Rows.flowLoopsRow.unfollowed == Tryz.pinned.checked.prog.unfollowed 7) = true := by kernel_rfl
theorem flowLoops_j3 : (Rows.flowLoopsRow.recurses == Tryz.pinned.checked.prog.recurses 7) = true := by kernel_rfl
theorem flowLoops_j4 : (Rows.flowLoopsRow.named == Tryz.pinned.checked.prog.varsNamed 7) = true := by kernel_rfl
set_option maxRecDepth 100000 in
theorem flowLoops_closed : joinedFacts Tryz.pinned.checked.prog 7 Tryz.f7 Rows.flowLoopsSpec Rows.flowLoopsRow = true := by
  unfold joinedFacts
  rw [flowLoops_j1, flowLoops_j2, flowLoops_j3, flowLoops_j4]
  kernel_rfl

theorem flowLoops_row_holds : Rows.FlowLoopsSaid :=
  OpenClaim.holds_of_wide 7 Tryz.f7 rfl rfl rfl rfl rfl rfl rfl ⟨rfl, rfl, rfl, rfl, rfl⟩ rfl rfl rfl rfl rfl (by kernel_rfl) Tryz.func7 flowLoops_closed
    (of_decide_eq_true (by kernel_rfl)) (by unfold Func.isWrapper; rw [if_neg (of_decide_eq_false (by kernel_rfl))]; exact ⟨rfl, rfl⟩)
    (fun os started H enc _ => flowLoops_lifted os started H enc)

end Go.Proofs.YtghdibbooegocaaGreatDoor.G
namespace Go.Proofs.YtghdibbooegocaaGreatDoor
open Go.ChangeShapes Go.WideShapes Go.ChangeAt Go.RowKit

theorem flowLoops_k1 : Rows.flowLoopsRow.wfByText (OpenSpec.ofChange Rows.flowLoopsSpec) = true := by kernel_rfl
theorem flowLoops_k2 : Tryz.pinned.checked.prog.mainIs = some (((true, "289d2c0d8bf26f7b6da9893d8c96adf9eafcc3446c792151e4f6e33cf17d1c00")).1, ((true, "289d2c0d8bf26f7b6da9893d8c96adf9eafcc3446c792151e4f6e33cf17d1c00")).2.toList) := by kernel_rfl
theorem flowLoops_k3 : true = Tryz.pinned.checked.prog.looks [] := by kernel_rfl
theorem flowLoops_k4 : false = Rows.flowLoopsRow.goesBy Tryz.pinned.checked.prog := by kernel_rfl

theorem flowLoops_holds : Rows.FlowLoopsCardSaid :=
  Claim7.holds_tied_plain_at .later [] [.data, .data, .data, .data, .data, .sentinel, .sentinel, .data] true (true, "289d2c0d8bf26f7b6da9893d8c96adf9eafcc3446c792151e4f6e33cf17d1c00") true
    G.flowLoops_row_holds (fun _ h => by cases h) flowLoops_k1 (fun _ h => by cases h) flowLoops_row_tie rfl ⟨rfl, rfl⟩ flowLoops_k2 rfl
    (fun f fn hf hfn => by
      obtain rfl : f = 7 := Option.some.inj ((show Tryz.prog.funcNamed "backstay/backstaylaw11.FlowLoops" = some 7 by kernel_rfl).symm.trans hf) |>.symm
      obtain rfl : fn = Tryz.f7 := (Option.some.inj (Tryz.func7.symm.trans hfn)).symm
      exact ⟨flowLoops_k3, fun j t ht => by
        rw [Tryz.params7] at ht
        have hm : t ∈ [22] := by simpa using Array.mem_of_getElem? ht
        have hall : ([22].all fun u => !Tryz.prog.wantsStandIn u) = true := by kernel_rfl
        exact (show Tryz.prog.wantsStandIn t = false by simpa using List.all_eq_true.1 hall t hm)⟩)
    flowLoops_k4

end Go.Proofs.YtghdibbooegocaaGreatDoor
