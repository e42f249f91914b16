/-
  ListingNames: the law, which takes nothing, returns true. Conditions: the row's laid variables; the card ties them.
-/
import Derived.Test.YtgnooffedmeenaaGreatDoorQC15
import Derived.Test.YtgnooffedmeenaaGreatDoorQC16
import Derived.Test.YtgnooffedmeenaaGreatDoorCards
import Derived.Test.YtgnooffedmeenaaGreatDoorTie
import Derived.SevenTiedAt
namespace Go.Proofs.YtgnooffedmeenaaGreatDoor.L
open Go.ChangeShapes Go.WideShapes Go.ChangeAt Go.RowKit O I

theorem lnames_met (os : Os) (args : Array Value) : laidMetH Tryz.prog Rows.listingNamesRow.laid ((World.doorLaid Tryz.prog 400 os).forCall (fun _ _ => 0) ⟨#[], args, []⟩).memory :=
  laidMetH_of_parts3 (fuel := 8) (laidMet_of_run' 8 (by kernel_rfl) (by kernel_rfl)) (by kernel_rfl) (by kernel_rfl)

set_option maxRecDepth 100000 in
theorem lnames_lifted (os : Os) (started : os.Started) (H : Type) (enc : TypeId × Value → H) :
    ReturnsInHanded {} Tryz.checked os 5 .any (fun w args => (Rows.listingNamesSpec.pre enc Tryz.prog Tryz.f5 [] false w args ∧ laidMetH Tryz.prog Rows.listingNamesRow.laid w) ∧ sizedMet enc Tryz.prog Tryz.f5 (OpenSpec.ofChange Rows.listingNamesSpec) false w args)
      (Rows.listingNamesSpec.post enc Tryz.prog Tryz.f5 false true false false) := by
  refine handed_and (C := Tryz.checked) (X := fun w _ => laidMetH Tryz.prog Rows.listingNamesRow.laid w) (fun _ _ _ hh h => h.of_heap hh) seatOwn started (by kernel_rfl) Tryz.func5
    (ChangeSpec.witness_shaped (enc := enc) (C := Tryz.checked) (os := os) (X := fun w _ => laidMetH Tryz.prog Rows.listingNamesRow.laid w) false (World.doorLaid Tryz.prog 400 os) #[] 8 rfl (World.shaped_of_RefB (by kernel_rfl) (by kernel_rfl)) (by kernel_rfl) (by kernel_rfl) (by kernel_rfl) (lnames_met os _)) ?_
  intro W base args ds gs before hval0 hW hSh hL
  have hW' := hW
  obtain ⟨p, q, hA0, hV, rfl, hfz, hnd⟩ := hW
  have hA : DataW.TrodAll enc Tryz.prog W 0 (fun _ => true) true Tryz.f5.params.toList args.toList ds p := hA0
  rw [Tryz.params5] at hA
  obtain ⟨rfl, rfl, rfl⟩ := trodAll_none hA
  obtain ⟨rfl, rfl⟩ := trodVars_none hV
  clear hA0 hval0
  rw [MakeChecks.laidMetH_plain _ _ _ (by kernel_rfl)] at hL
  refine (M.L.names_walk W (laidO_of hL)).mono fun e W' ⟨he, hw⟩ => ?_
  subst he
  have hb := hw.below (fun _ hf => hf.elim)
  exact ⟨_, rfl, _, _, _, [], [], [], hW', trodAll_mk1 (shut_bool Tryz.underlying4 true), trodAll_mk0, rfl, hb.frame _, fun h => by cases h⟩

theorem lnames_j1 : (Rows.listingNamesRow.inPlace == Tryz.pinned.checked.prog.inPlace 5) = true := by kernel_rfl
theorem lnames_j2 : (Rows.listingNamesRow.unfollowed == Tryz.pinned.checked.prog.unfollowed 5) = true := by kernel_rfl
theorem lnames_j3 : (Rows.listingNamesRow.recurses == Tryz.pinned.checked.prog.recurses 5) = true := by kernel_rfl
theorem lnames_j4 : (Rows.listingNamesRow.named == Tryz.pinned.checked.prog.varsNamed 5) = true := by kernel_rfl
set_option maxRecDepth 100000 in
theorem lnames_closed : joinedFacts Tryz.pinned.checked.prog 5 Tryz.f5 Rows.listingNamesSpec Rows.listingNamesRow = true := by
  unfold joinedFacts
  rw [lnames_j1, lnames_j2, lnames_j3, lnames_j4]
  kernel_rfl

theorem lnames_row_holds : Rows.ListingNamesSaid :=
  OpenClaim.holds_of_wide 5 Tryz.f5 rfl rfl rfl rfl rfl rfl rfl ⟨rfl, rfl, rfl, rfl, rfl⟩ rfl rfl rfl rfl rfl (by kernel_rfl) Tryz.func5 lnames_closed
    (of_decide_eq_true (by kernel_rfl)) (by unfold Func.isWrapper; rw [if_neg (of_decide_eq_false (by kernel_rfl))]; exact ⟨rfl, rfl⟩)
    (fun os started H enc _ => lnames_lifted os started H enc)

end Go.Proofs.YtgnooffedmeenaaGreatDoor.L
namespace Go.Proofs.YtgnooffedmeenaaGreatDoor
open Go.ChangeShapes Go.WideShapes Go.ChangeAt Go.RowKit

theorem lnames_k1 : Rows.listingNamesRow.wfByText (OpenSpec.ofChange Rows.listingNamesSpec) = true := by kernel_rfl
theorem lnames_k2 : Tryz.pinned.checked.prog.mainIs = some (((true, "acddc640d6ff97f2824c124d592d35ca842c9c7c7be254951f17021abf6ff03b")).1, ((true, "acddc640d6ff97f2824c124d592d35ca842c9c7c7be254951f17021abf6ff03b")).2.toList) := by kernel_rfl
theorem lnames_k3 : true = Tryz.pinned.checked.prog.looks [] := by kernel_rfl
theorem lnames_k4 : false = Rows.listingNamesRow.goesBy Tryz.pinned.checked.prog := by kernel_rfl

theorem lnames_holds : Rows.ListingNamesCardSaid :=
  Claim7.holds_tied_plain_at .later [] [.data, .data, .data, .data, .data, .sentinel, .sentinel, .data] true (true, "acddc640d6ff97f2824c124d592d35ca842c9c7c7be254951f17021abf6ff03b") true
    L.lnames_row_holds (fun _ h => by cases h) lnames_k1 (fun _ h => by cases h) listingNames_row_tie rfl ⟨rfl, rfl⟩ lnames_k2 rfl
    (fun f fn hf hfn => by
      obtain rfl : f = 5 := Option.some.inj ((show Tryz.prog.funcNamed "backstay/backstaylaw10.ListingNames" = some 5 by kernel_rfl).symm.trans hf) |>.symm
      obtain rfl : fn = Tryz.f5 := (Option.some.inj (Tryz.func5.symm.trans hfn)).symm
      exact ⟨lnames_k3, fun j t ht => by
        rw [Tryz.params5] at ht
        simp at ht⟩)
    lnames_k4

end Go.Proofs.YtgnooffedmeenaaGreatDoor
