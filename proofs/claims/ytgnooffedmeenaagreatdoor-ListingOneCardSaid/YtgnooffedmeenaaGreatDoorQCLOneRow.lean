/-
  ListingOne: whatever the input, the law returns true, and all reads as it did. Conditions: the row's laid variables; the card ties them.
-/
import Derived.Test.YtgnooffedmeenaaGreatDoorQC17
import Derived.Test.YtgnooffedmeenaaGreatDoorQC18
import Derived.Test.YtgnooffedmeenaaGreatDoorQC16
import Derived.Test.YtgnooffedmeenaaGreatDoorCards
import Derived.Test.YtgnooffedmeenaaGreatDoorTie
import Derived.SevenTiedAt
import Derived.Lay
namespace Go.Proofs.YtgnooffedmeenaaGreatDoor.L
open Go.ChangeShapes Go.WideShapes Go.ChangeAt Go.RowKit O I

set_option maxRecDepth 100000 in
theorem lone_lifted (os : Os) (started : os.Started) (H : Type) (enc : TypeId × Value → H) :
    ReturnsInHanded {} Tryz.checked os 7 .any (fun w args => (Rows.listingOneSpec.pre enc Tryz.prog Tryz.f7 [] false w args ∧ laidMetH Tryz.prog Rows.listingOneRow.laid w) ∧ sizedMet enc Tryz.prog Tryz.f7 (OpenSpec.ofChange Rows.listingOneSpec) false w args)
      (Rows.listingOneSpec.post enc Tryz.prog Tryz.f7 false true false false) := by
  refine handed_sized (C := Tryz.checked) (X := fun w _ => laidMetH Tryz.prog Rows.listingOneRow.laid w) (fun _ _ _ hh h => h.of_heap hh) seatOwn started (by kernel_rfl) Tryz.func7
    (ChangeSpec.witness_shaped (enc := enc) (C := Tryz.checked) (os := os) (X := fun w _ => laidMetH Tryz.prog Rows.listingOneRow.laid w) false (World.laidAll Tryz.prog os Rows.listingOneRow.laid) #[.agg #[.slice none 0 0, .slice none 0 0]] 8 (World.laidAll_os _ _ _)
      (World.shaped_of_ZipB (by kernel_rfl) (by kernel_rfl)) (by kernel_rfl) (by kernel_rfl) (by kernel_rfl)
      (by rw [MakeChecks.laidMetH_plain _ _ _ (by kernel_rfl)]; exact laidMet_laidAll _ (by kernel_rfl) (by kernel_rfl))) ?_
  intro W base args ds gs before hval0 hW hSh hL hWt
  have hval : ∀ (j : Nat) t v, Tryz.f7.params[j]? = some t → args[j]? = some v → Value.okWide Tryz.prog W .any base t v := hval0
  have hW' := hW
  obtain ⟨p, q, hA0, hV, rfl, hfz, hnd⟩ := hW
  have hA : DataW.TrodAll enc Tryz.prog W 0 (fun _ => true) true Tryz.f7.params.toList args.toList ds p := hA0
  rw [Tryz.params7] at hA hval hWt
  obtain ⟨v0, d0, rfl, rfl, h0⟩ := trodAll_one hA
  obtain ⟨rfl, rfl⟩ := trodVars_none hV
  have h0k := h0
  obtain ⟨iv0, es0, fs0, rfl, hi0, hl0_⟩ := open_img (hval 0 25 v0 rfl rfl) h0
  have hl0 := hl0_ (wt_arg hWt (j := 0) rfl rfl)
  clear hA0 hval0
  rw [MakeChecks.laidMetH_plain _ _ _ (by kernel_rfl)] at hL
  simp only [List.append_nil] at hW'
  have hlt0 : ∀ x ∈ p, x.block < W.heap.size := fun x hx => hW'.lt x (by simp [hx])
  refine (M.L.one_walk iv0 es0 fs0 W hi0 hl0 ⟨laidOne_of hL, cutAt_of hSh⟩).mono fun e W' ⟨he, hw⟩ => ?_
  subst he
  have hb := hw.below (fun _ hf => hf.elim)
  have hT := trodAll_mk1 (Below.trod seatLaidOut (by kernel_rfl) (of_decide_eq_true (by kernel_rfl)) h0k hb (fun x hx => hlt0 x hx))
  exact ⟨_, rfl, _, _, _, [], p, [], hW', trodAll_mk1 (shut_bool Tryz.underlying4 true), hT, rfl, hb.frame _, fun h => by cases h⟩

theorem lone_j1 : (Rows.listingOneRow.inPlace == Tryz.pinned.checked.prog.inPlace 7) = true := by kernel_rfl
theorem lone_j2 : (Rows.listingOneRow.unfollowed == Tryz.pinned.checked.prog.unfollowed 7) = true := by kernel_rfl
theorem lone_j3 : (Rows.listingOneRow.recurses == Tryz.pinned.checked.prog.recurses 7) = true := by kernel_rfl
theorem lone_j4 : (Rows.listingOneRow.named == Tryz.pinned.checked.prog.varsNamed 7) = true := by kernel_rfl
set_option maxRecDepth 100000 in
theorem lone_closed : joinedFacts Tryz.pinned.checked.prog 7 Tryz.f7 Rows.listingOneSpec Rows.listingOneRow = true := by
  unfold joinedFacts
  rw [lone_j1, lone_j2, lone_j3, lone_j4]
  kernel_rfl

theorem lone_row_holds : Rows.ListingOneSaid :=
  OpenClaim.holds_of_wide 7 Tryz.f7 rfl rfl rfl rfl rfl rfl rfl ⟨rfl, rfl, rfl, rfl, rfl⟩ rfl rfl rfl rfl rfl (by kernel_rfl) Tryz.func7 lone_closed
    (of_decide_eq_true (by kernel_rfl)) (by unfold Func.isWrapper; rw [if_neg (of_decide_eq_false (by kernel_rfl))]; exact ⟨rfl, rfl⟩)
    (fun os started H enc _ => lone_lifted os started H enc)

end Go.Proofs.YtgnooffedmeenaaGreatDoor.L
namespace Go.Proofs.YtgnooffedmeenaaGreatDoor
open Go.ChangeShapes Go.WideShapes Go.ChangeAt Go.RowKit

theorem lone_k1 : Rows.listingOneRow.wfByText (OpenSpec.ofChange Rows.listingOneSpec) = true := by kernel_rfl
theorem lone_k2 : Tryz.pinned.checked.prog.mainIs = some (((true, "acddc640d6ff97f2824c124d592d35ca842c9c7c7be254951f17021abf6ff03b")).1, ((true, "acddc640d6ff97f2824c124d592d35ca842c9c7c7be254951f17021abf6ff03b")).2.toList) := by kernel_rfl
theorem lone_k3 : true = Tryz.pinned.checked.prog.looks [] := by kernel_rfl
theorem lone_k4 : false = Rows.listingOneRow.goesBy Tryz.pinned.checked.prog := by kernel_rfl

theorem lone_holds : Rows.ListingOneCardSaid :=
  Claim7.holds_tied_plain_at .later [] [.data, .data, .data, .data, .data, .data, .sentinel, .sentinel, .data, .pinned] true (true, "acddc640d6ff97f2824c124d592d35ca842c9c7c7be254951f17021abf6ff03b") true
    L.lone_row_holds (fun _ h => by cases h) lone_k1 (fun _ h => by cases h) listingOne_row_tie rfl ⟨rfl, rfl⟩ lone_k2 rfl
    (fun f fn hf hfn => by
      obtain rfl : f = 7 := Option.some.inj ((show Tryz.prog.funcNamed "backstay/backstaylaw10.ListingOne" = some 7 by kernel_rfl).symm.trans hf) |>.symm
      obtain rfl : fn = Tryz.f7 := (Option.some.inj (Tryz.func7.symm.trans hfn)).symm
      exact ⟨lone_k3, fun j t ht => by
        rw [Tryz.params7] at ht
        have hm : t ∈ [25] := by simpa using Array.mem_of_getElem? ht
        have hall : ([25].all fun u => !Tryz.prog.wantsStandIn u) = true := by kernel_rfl
        exact (show Tryz.prog.wantsStandIn t = false by simpa using List.all_eq_true.1 hall t hm)⟩)
    lone_k4

end Go.Proofs.YtgnooffedmeenaaGreatDoor
