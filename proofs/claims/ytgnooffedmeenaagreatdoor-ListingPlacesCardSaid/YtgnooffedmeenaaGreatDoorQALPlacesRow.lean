/-
  ListingPlaces: whatever the input, the law returns true, and all reads as it did. Conditions: the row's laid variables; the card ties them.
-/
import Derived.Test.YtgnooffedmeenaaGreatDoorQA17
import Derived.Test.YtgnooffedmeenaaGreatDoorQA16
import Derived.Test.YtgnooffedmeenaaGreatDoorCards
import Derived.Test.YtgnooffedmeenaaGreatDoorTie
import Derived.SevenTiedAt
namespace Go.Proofs.YtgnooffedmeenaaGreatDoor.L
open Go.ChangeShapes Go.WideShapes Go.ChangeAt Go.RowKit O I

theorem lplaces_met (os : Os) (args : Array Value) : laidMetH Tryz.prog Rows.listingPlacesRow.laid ((World.doorLaid Tryz.prog 400 os).forCall (fun _ _ => 0) ⟨#[], args, []⟩).memory :=
  laidMetH_of_parts3 (fuel := 8) (laidMet_of_run' 8 (by kernel_rfl) (by kernel_rfl)) (by kernel_rfl) (by kernel_rfl)

set_option maxRecDepth 100000 in
theorem lplaces_lifted (os : Os) (started : os.Started) (H : Type) (enc : TypeId × Value → H) :
    ReturnsInHanded {} Tryz.checked os 4 .any (fun w args => (Rows.listingPlacesSpec.pre enc Tryz.prog Tryz.f4 [] false w args ∧ laidMetH Tryz.prog Rows.listingPlacesRow.laid w) ∧ sizedMet enc Tryz.prog Tryz.f4 (OpenSpec.ofChange Rows.listingPlacesSpec) false w args)
      (Rows.listingPlacesSpec.post enc Tryz.prog Tryz.f4 false true false false) := by
  refine handed_sized (C := Tryz.checked) (X := fun w _ => laidMetH Tryz.prog Rows.listingPlacesRow.laid w) (fun _ _ _ hh h => h.of_heap hh) seatOwn started (by kernel_rfl) Tryz.func4
    (ChangeSpec.witness_shaped (enc := enc) (C := Tryz.checked) (os := os) (X := fun w _ => laidMetH Tryz.prog Rows.listingPlacesRow.laid w) false (World.doorLaid Tryz.prog 400 os) #[.agg #[.slice none 0 0, .slice none 0 0], .agg #[.string ⟨#[]⟩, .slice none 0 0, .slice none 0 0, .slice none 0 0, .slice none 0 0], .int .i64 0, .int .i64 0, .int .i64 0] 8 rfl (World.shaped_of_RefB (by kernel_rfl) (by kernel_rfl)) (by kernel_rfl) (by kernel_rfl) (by kernel_rfl) (lplaces_met os _)) ?_
  intro W base args ds gs before hval0 hW hSh hL hWt
  have hval : ∀ (j : Nat) t v, Tryz.f4.params[j]? = some t → args[j]? = some v → Value.okWide Tryz.prog W .any base t v := hval0
  have hW' := hW
  obtain ⟨p, q, hA0, hV, rfl, hfz, hnd⟩ := hW
  have hA : DataW.TrodAll enc Tryz.prog W 0 (fun _ => true) true Tryz.f4.params.toList args.toList ds p := hA0
  rw [Tryz.params4] at hA hval hWt
  obtain ⟨v0, v1, v2, v3, v4, d0, d1, d2, d3, d4, p0, p1, p2, p3, p4, rfl, rfl, rfl, h0, h1, h2, h3, h4⟩ := trodAll_five hA
  obtain ⟨rfl, rfl⟩ := trodVars_none hV
  have h0k := h0
  have h1k := h1
  have h2k := h2
  have h3k := h3
  have h4k := h4
  obtain ⟨iv0, es0, fs0, rfl, hi0, hl0_⟩ := open_img (hval 0 25 v0 rfl rfl) h0
  have hl0 := hl0_ (wt_arg hWt (j := 0) rfl rfl)
  obtain ⟨fv1, f1, rfl, hf1⟩ := F.open_fun (hval 1 37 v1 rfl rfl) h1
  obtain ⟨n2, rfl, rfl, rfl, _⟩ := open_int Tryz.underlying3 (hval 2 3 v2 rfl rfl) h2
  obtain ⟨n3, rfl, rfl, rfl, _⟩ := open_int Tryz.underlying3 (hval 3 3 v3 rfl rfl) h3
  obtain ⟨n4, rfl, rfl, rfl, _⟩ := open_int Tryz.underlying3 (hval 4 3 v4 rfl rfl) h4
  clear hA0 hval0
  rw [MakeChecks.laidMetH_plain _ _ _ (by kernel_rfl)] at hL
  simp only [List.append_nil] at hW'
  have hlt0 : ∀ x ∈ p0, x.block < W.heap.size := fun x hx => hW'.lt x (by simp [hx])
  have hlt1 : ∀ x ∈ p1, x.block < W.heap.size := fun x hx => hW'.lt x (by simp [hx])
  refine (M.L.places_walk iv0 es0 fs0 fv1 f1 n2 n3 n4 W hi0 hl0 hf1).mono fun e W' ⟨he, hw⟩ => ?_
  subst he
  have hb := hw.below (fun _ hf => hf.elim)
  have hT := trodAll_mk5 (Below.trod seatLaidOut (by kernel_rfl) (of_decide_eq_true (by kernel_rfl)) h0k hb (fun x hx => hlt0 x hx)) (Below.trod seatLaidOut (by kernel_rfl) (of_decide_eq_true (by kernel_rfl)) h1k hb (fun x hx => hlt1 x hx)) (Below.trod seatLaidOut (by kernel_rfl) (of_decide_eq_true (by kernel_rfl)) h2k hb (by simp)) (Below.trod seatLaidOut (by kernel_rfl) (of_decide_eq_true (by kernel_rfl)) h3k hb (by simp)) (Below.trod seatLaidOut (by kernel_rfl) (of_decide_eq_true (by kernel_rfl)) h4k hb (by simp))
  try simp only [List.append_nil] at hT
  exact ⟨_, rfl, _, _, _, [], p0 ++ (p1), [], hW', trodAll_mk1 (shut_bool Tryz.underlying4 true), hT, rfl, hb.frame _, fun h => by cases h⟩

theorem lplaces_j1 : (Rows.listingPlacesRow.inPlace == Tryz.pinned.checked.prog.inPlace 4) = true := by kernel_rfl
theorem lplaces_j2 : (Rows.listingPlacesRow.unfollowed == Tryz.pinned.checked.prog.unfollowed 4) = true := by kernel_rfl
theorem lplaces_j3 : (Rows.listingPlacesRow.recurses == Tryz.pinned.checked.prog.recurses 4) = true := by kernel_rfl
theorem lplaces_j4 : (Rows.listingPlacesRow.named == Tryz.pinned.checked.prog.varsNamed 4) = true := by kernel_rfl
set_option maxRecDepth 100000 in
theorem lplaces_closed : joinedFacts Tryz.pinned.checked.prog 4 Tryz.f4 Rows.listingPlacesSpec Rows.listingPlacesRow = true := by
  unfold joinedFacts
  rw [lplaces_j1, lplaces_j2, lplaces_j3, lplaces_j4]
  kernel_rfl

theorem lplaces_row_holds : Rows.ListingPlacesSaid :=
  OpenClaim.holds_of_wide 4 Tryz.f4 rfl rfl rfl rfl rfl rfl rfl ⟨rfl, rfl, rfl, rfl, rfl⟩ rfl rfl rfl rfl rfl (by kernel_rfl) Tryz.func4 lplaces_closed
    (of_decide_eq_true (by kernel_rfl)) (by unfold Func.isWrapper; rw [if_neg (of_decide_eq_false (by kernel_rfl))]; exact ⟨rfl, rfl⟩)
    (fun os started H enc _ => lplaces_lifted os started H enc)

end Go.Proofs.YtgnooffedmeenaaGreatDoor.L
namespace Go.Proofs.YtgnooffedmeenaaGreatDoor
open Go.ChangeShapes Go.WideShapes Go.ChangeAt Go.RowKit

theorem lplaces_k1 : Rows.listingPlacesRow.wfByText (OpenSpec.ofChange Rows.listingPlacesSpec) = true := by kernel_rfl
theorem lplaces_k2 : Tryz.pinned.checked.prog.mainIs = some (((true, "acddc640d6ff97f2824c124d592d35ca842c9c7c7be254951f17021abf6ff03b")).1, ((true, "acddc640d6ff97f2824c124d592d35ca842c9c7c7be254951f17021abf6ff03b")).2.toList) := by kernel_rfl
theorem lplaces_k3 : true = Tryz.pinned.checked.prog.looks [] := by kernel_rfl
theorem lplaces_k4 : false = Rows.listingPlacesRow.goesBy Tryz.pinned.checked.prog := by kernel_rfl

theorem lplaces_holds : Rows.ListingPlacesCardSaid :=
  Claim7.holds_tied_plain_at .later [] [.data, .data, .data, .data, .data, .sentinel, .sentinel, .data] true (true, "acddc640d6ff97f2824c124d592d35ca842c9c7c7be254951f17021abf6ff03b") true
    L.lplaces_row_holds (fun _ h => by cases h) lplaces_k1 (fun _ h => by cases h) listingPlaces_row_tie rfl ⟨rfl, rfl⟩ lplaces_k2 rfl
    (fun f fn hf hfn => by
      obtain rfl : f = 4 := Option.some.inj ((show Tryz.prog.funcNamed "backstay/backstaylaw10.ListingPlaces" = some 4 by kernel_rfl).symm.trans hf) |>.symm
      obtain rfl : fn = Tryz.f4 := (Option.some.inj (Tryz.func4.symm.trans hfn)).symm
      exact ⟨lplaces_k3, fun j t ht => by
        rw [Tryz.params4] at ht
        have hm : t ∈ [25, 37, 3, 3, 3] := by simpa using Array.mem_of_getElem? ht
        have hall : ([25, 37, 3, 3, 3].all fun u => !Tryz.prog.wantsStandIn u) = true := by kernel_rfl
        exact (show Tryz.prog.wantsStandIn t = false by simpa using List.all_eq_true.1 hall t hm)⟩)
    lplaces_k4

end Go.Proofs.YtgnooffedmeenaaGreatDoor
