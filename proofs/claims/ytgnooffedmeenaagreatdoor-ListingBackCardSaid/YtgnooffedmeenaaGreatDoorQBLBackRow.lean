/-
  ListingBack: whatever the input, the law returns true, and all reads as it did. Conditions: the row's laid variables; the card ties them.
-/
import Derived.Test.YtgnooffedmeenaaGreatDoorQB23
import Derived.Test.YtgnooffedmeenaaGreatDoorQB24
import Derived.Test.YtgnooffedmeenaaGreatDoorCards
import Derived.Test.YtgnooffedmeenaaGreatDoorTie
import Derived.SevenTiedAt
namespace Go.Proofs.YtgnooffedmeenaaGreatDoor.L
open Go.ChangeShapes Go.WideShapes Go.ChangeAt Go.RowKit O I

theorem lback_met (os : Os) (args : Array Value) : laidMetH Tryz.prog Rows.listingBackRow.laid ((World.doorLaid Tryz.prog 400 os).forCall (fun _ _ => 0) ⟨#[], args, []⟩).memory :=
  laidMetH_of_parts3 (fuel := 8) (laidMet_of_run' 8 (by kernel_rfl) (by kernel_rfl)) (by kernel_rfl) (by kernel_rfl)

set_option maxRecDepth 100000 in
theorem lback_lifted (os : Os) (started : os.Started) (H : Type) (enc : TypeId × Value → H) :
    ReturnsInHanded {} Tryz.checked os 6 .any (fun w args => (Rows.listingBackSpec.pre enc Tryz.prog Tryz.f6 [] false w args ∧ laidMetH Tryz.prog Rows.listingBackRow.laid w) ∧ sizedMet enc Tryz.prog Tryz.f6 (OpenSpec.ofChange Rows.listingBackSpec) false w args)
      (Rows.listingBackSpec.post enc Tryz.prog Tryz.f6 false true false false) := by
  refine handed_sized (C := Tryz.checked) (X := fun w _ => laidMetH Tryz.prog Rows.listingBackRow.laid w) (fun _ _ _ hh h => h.of_heap hh) seatOwn started (by kernel_rfl) Tryz.func6
    (ChangeSpec.witness_shaped (enc := enc) (C := Tryz.checked) (os := os) (X := fun w _ => laidMetH Tryz.prog Rows.listingBackRow.laid w) false (World.doorLaid Tryz.prog 400 os) #[.agg #[.slice none 0 0, .slice none 0 0]] 8 rfl (World.shaped_of_RefB (by kernel_rfl) (by kernel_rfl)) (by kernel_rfl) (by kernel_rfl) (by kernel_rfl) (lback_met os _)) ?_
  intro W base args ds gs before hval0 hW hSh hL hWt
  have hval : ∀ (j : Nat) t v, Tryz.f6.params[j]? = some t → args[j]? = some v → Value.okWide Tryz.prog W .any base t v := hval0
  have hW' := hW
  obtain ⟨p, q, hA0, hV, rfl, hfz, hnd⟩ := hW
  have hA : DataW.TrodAll enc Tryz.prog W 0 (fun _ => true) true Tryz.f6.params.toList args.toList ds p := hA0
  rw [Tryz.params6] at hA hval hWt
  obtain ⟨v0, d0, rfl, rfl, h0⟩ := trodAll_one hA
  obtain ⟨rfl, rfl⟩ := trodVars_none hV
  have h0k := h0
  obtain ⟨iv0, es0, fs0, rfl, hi0, hl0_⟩ := open_img (hval 0 25 v0 rfl rfl) h0
  have hl0 := hl0_ (wt_arg hWt (j := 0) rfl rfl)
  clear hA0 hval0
  rw [MakeChecks.laidMetH_plain _ _ _ (by kernel_rfl)] at hL
  simp only [List.append_nil] at hW'
  have hlt0 : ∀ x ∈ p, x.block < W.heap.size := fun x hx => hW'.lt x (by simp [hx])
  refine (M.L.back_walk iv0 es0 fs0 W hi0 hl0 ⟨laidO_of hL, cutAt_of hSh⟩).mono fun e W' ⟨he, hw⟩ => ?_
  subst he
  have hb := hw.below (fun _ hf => hf.elim)
  have hT := trodAll_mk1 (Below.trod seatLaidOut (by kernel_rfl) (of_decide_eq_true (by kernel_rfl)) h0k hb (fun x hx => hlt0 x hx))
  exact ⟨_, rfl, _, _, _, [], p, [], hW', trodAll_mk1 (shut_bool Tryz.underlying4 true), hT, rfl, hb.frame _, fun h => by cases h⟩

theorem lback_j1 : (Rows.listingBackRow.inPlace == Tryz.pinned.checked.prog.inPlace 6) = true := by kernel_rfl
theorem lback_j2 : (Rows.listingBackRow.unfollowed == Tryz.pinned.checked.prog.unfollowed 6) = true := by kernel_rfl
theorem lback_j3 : (Rows.listingBackRow.recurses == Tryz.pinned.checked.prog.recurses 6) = true := by kernel_rfl
theorem lback_j4 : (Rows.listingBackRow.named == Tryz.pinned.checked.prog.varsNamed 6) = true := by kernel_rfl
set_option maxRecDepth 100000 in
theorem lback_closed : joinedFacts Tryz.pinned.checked.prog 6 Tryz.f6 Rows.listingBackSpec Rows.listingBackRow = true := by
  unfold joinedFacts
  rw [lback_j1, lback_j2, lback_j3, lback_j4]
  kernel_rfl

theorem lback_row_holds : Rows.ListingBackSaid :=
  OpenClaim.holds_of_wide 6 Tryz.f6 rfl rfl rfl rfl rfl rfl rfl ⟨rfl, rfl, rfl, rfl, rfl⟩ rfl rfl rfl rfl rfl (by kernel_rfl) Tryz.func6 lback_closed
    (of_decide_eq_true (by kernel_rfl)) (by unfold Func.isWrapper; rw [if_neg (of_decide_eq_false (by kernel_rfl))]; exact ⟨rfl, rfl⟩)
    (fun os started H enc _ => lback_lifted os started H enc)

end Go.Proofs.YtgnooffedmeenaaGreatDoor.L
namespace Go.Proofs.YtgnooffedmeenaaGreatDoor
open Go.ChangeShapes Go.WideShapes Go.ChangeAt Go.RowKit

theorem lback_k1 : Rows.listingBackRow.wfByText (OpenSpec.ofChange Rows.listingBackSpec) = true := by kernel_rfl
theorem lback_k2 : Tryz.pinned.checked.prog.mainIs = some (((true, "acddc640d6ff97f2824c124d592d35ca842c9c7c7be254951f17021abf6ff03b")).1, ((true, "acddc640d6ff97f2824c124d592d35ca842c9c7c7be254951f17021abf6ff03b")).2.toList) := by kernel_rfl
theorem lback_k3 : true = Tryz.pinned.checked.prog.looks [] := by kernel_rfl
theorem lback_k4 : false = Rows.listingBackRow.goesBy Tryz.pinned.checked.prog := by kernel_rfl

theorem lback_holds : Rows.ListingBackCardSaid :=
  Claim7.holds_tied_plain_at .later [] [.data, .data, .data, .data, .data, .sentinel, .sentinel, .data] true (true, "acddc640d6ff97f2824c124d592d35ca842c9c7c7be254951f17021abf6ff03b") true
    L.lback_row_holds (fun _ h => by cases h) lback_k1 (fun _ h => by cases h) listingBack_row_tie rfl ⟨rfl, rfl⟩ lback_k2 rfl
    (fun f fn hf hfn => by
      obtain rfl : f = 6 := Option.some.inj ((show Tryz.prog.funcNamed "backstay/backstaylaw10.ListingBack" = some 6 by kernel_rfl).symm.trans hf) |>.symm
      obtain rfl : fn = Tryz.f6 := (Option.some.inj (Tryz.func6.symm.trans hfn)).symm
      exact ⟨lback_k3, fun j t ht => by
        rw [Tryz.params6] at ht
        have hm : t ∈ [25] := by simpa using Array.mem_of_getElem? ht
        have hall : ([25].all fun u => !Tryz.prog.wantsStandIn u) = true := by kernel_rfl
        exact (show Tryz.prog.wantsStandIn t = false by simpa using List.all_eq_true.1 hall t hm)⟩)
    lback_k4

end Go.Proofs.YtgnooffedmeenaaGreatDoor
