/-
  ShapeSignatures: whatever the input, the law returns true, and all reads as it did. Conditions: the row's laid variables; the card ties them.
-/
import Derived.Test.YtieejecodfeodaaDoorQ12
import Derived.Test.YtieejecodfeodaaDoorQ8
import Derived.Test.YtieejecodfeodaaDoorCards
import Derived.Test.YtieejecodfeodaaDoorTie
import Derived.SevenTiedAt
namespace Go.Proofs.YtieejecodfeodaaDoor.S
open Go.ChangeShapes Go.WideShapes Go.ChangeAt Go.RowKit W

theorem sigs_met (os : Os) (args : Array Value) : laidMetH Tryd.prog Rows.shapeSignaturesRow.laid ((World.doorLaid Tryd.prog 400 os).forCall (fun _ _ => 0) ⟨#[], args, []⟩).memory :=
  laidMetH_of_parts3 (fuel := 8) (laidMet_of_run' 8 (by kernel_rfl) (by kernel_rfl)) (by kernel_rfl) (by kernel_rfl)

set_option maxRecDepth 100000 in
theorem sigs_lifted (os : Os) (started : os.Started) (H : Type) (enc : TypeId × Value → H) :
    ReturnsInHanded {} Tryd.checked os 4 .any (fun w args => (Rows.shapeSignaturesSpec.pre enc Tryd.prog Tryd.f4 [] false w args ∧ laidMetH Tryd.prog Rows.shapeSignaturesRow.laid w) ∧ sizedMet enc Tryd.prog Tryd.f4 (OpenSpec.ofChange Rows.shapeSignaturesSpec) false w args)
      (Rows.shapeSignaturesSpec.post enc Tryd.prog Tryd.f4 false true false false) := by
  refine handed_and (C := Tryd.checked) (X := fun w _ => laidMetH Tryd.prog Rows.shapeSignaturesRow.laid w) (fun _ _ _ hh h => h.of_heap hh) seatOwn started (by kernel_rfl) Tryd.func4
    (ChangeSpec.witness_shaped (enc := enc) (C := Tryd.checked) (os := os) (X := fun w _ => laidMetH Tryd.prog Rows.shapeSignaturesRow.laid w) false (World.doorLaid Tryd.prog 400 os) #[.agg #[.slice none 0 0, .slice none 0 0], .agg #[.slice none 0 0, .slice none 0 0], .slice none 0 0, .string ⟨#[]⟩] 8 rfl (World.shaped_of_RefB (by kernel_rfl) (by kernel_rfl)) (by kernel_rfl) (by kernel_rfl) (by kernel_rfl) (sigs_met os _)) ?_
  intro W base args ds gs before hval0 hW hSh hL
  have hval : ∀ (j : Nat) t v, Tryd.f4.params[j]? = some t → args[j]? = some v → Value.okWide Tryd.prog W .any base t v := hval0
  have hW' := hW
  obtain ⟨p, q, hA0, hV, rfl, hfz, hnd⟩ := hW
  have hA : DataW.TrodAll enc Tryd.prog W 0 (fun _ => true) true Tryd.f4.params.toList args.toList ds p := hA0
  rw [Tryd.params4] at hA hval
  obtain ⟨v0, v1, v2, v3, d0, d1, d2, d3, p0, p1, p2, p3, rfl, rfl, rfl, h0, h1, h2, h3⟩ := trodAll_four hA
  obtain ⟨rfl, rfl⟩ := trodVars_none hV
  have h0k := h0
  have h1k := h1
  have h2k := h2
  have h3k := h3
  obtain ⟨A0, a0, c0, B0, r0, d0_, rfl, ha0, hb0, _, _, _, _⟩ := S.open_sig (hval 0 26 v0 rfl rfl) h0
  obtain ⟨A1, a1, c1, B1, r1, d1_, rfl, ha1, hb1, _, _, _, _⟩ := S.open_sig (hval 1 26 v1 rfl rfl) h1
  obtain ⟨S3, rfl, rfl, rfl, _⟩ := ChangeMaps.open_string Tryd.underlying9 (hval 3 9 v3 rfl rfl) h3
  obtain ⟨A2, l2, c2, rfl, hr2, _, _⟩ := V.open_bytes (hval 2 23 v2 rfl rfl) h2
  clear hA0 hval0
  rw [MakeChecks.laidMetH_plain _ _ _ (by kernel_rfl)] at hL
  simp only [List.append_nil] at hW'
  have hlt0 : ∀ x ∈ p0, x.block < W.heap.size := fun x hx => hW'.lt x (by simp [hx])
  have hlt1 : ∀ x ∈ p1, x.block < W.heap.size := fun x hx => hW'.lt x (by simp [hx])
  have hlt2 : ∀ x ∈ p2, x.block < W.heap.size := fun x hx => hW'.lt x (by simp [hx])
  refine (sigs_walk A0 a0 _ c0 B0 r0 _ d0_ A1 a1 _ c1 B1 r1 _ d1_ A2 l2 c2 S3 W (letAt_of hL) ha0 hb0 rfl rfl ha1 hb1 rfl rfl hr2).mono fun e W' ⟨he, hw⟩ => ?_
  subst he
  have hb := hw.below (fun _ hf => hf.elim)
  have hT := trodAll_mk4 (Below.trod seatLaidOut (by kernel_rfl) (of_decide_eq_true (by kernel_rfl)) h0k hb (fun x hx => hlt0 x hx)) (Below.trod seatLaidOut (by kernel_rfl) (of_decide_eq_true (by kernel_rfl)) h1k hb (fun x hx => hlt1 x hx)) (Below.trod seatLaidOut (by kernel_rfl) (of_decide_eq_true (by kernel_rfl)) h2k hb (fun x hx => hlt2 x hx)) (Below.trod seatLaidOut (by kernel_rfl) (of_decide_eq_true (by kernel_rfl)) h3k hb (by simp))
  simp only [List.append_nil] at hT
  exact ⟨_, rfl, _, _, _, [], p0 ++ (p1 ++ p2), [], hW', trodAll_mk1 (shut_bool Tryd.underlying4 true), hT, rfl, hb.frame _, fun h => by cases h⟩

theorem sigs_row_holds : Rows.ShapeSignaturesSaid :=
  OpenClaim.holds_of_wide 4 Tryd.f4 rfl rfl rfl rfl rfl rfl rfl ⟨rfl, rfl, rfl, rfl, rfl⟩ rfl rfl rfl rfl rfl (by kernel_rfl) Tryd.func4 (by kernel_rfl)
    (of_decide_eq_true (by kernel_rfl)) (by unfold Func.isWrapper; rw [if_neg (of_decide_eq_false (by kernel_rfl))]; exact ⟨rfl, rfl⟩)
    (fun os started H enc _ => sigs_lifted os started H enc)

end Go.Proofs.YtieejecodfeodaaDoor.S
namespace Go.Proofs.YtieejecodfeodaaDoor
open Go.ChangeShapes Go.WideShapes Go.ChangeAt Go.RowKit

theorem sigs_holds : Rows.ShapeSignaturesCardSaid :=
  Claim7.holds_tied_plain_at .later [] [.data] true (true, "c4b4753bfc25f66cc97d98892ad01ee46cc687c2336bf159dc8d722f877331d9") false
    S.sigs_row_holds (fun _ h => by cases h) (by kernel_rfl) (fun _ h => by cases h) shapeSignatures_row_tie rfl ⟨rfl, rfl⟩ (by kernel_rfl) rfl
    (fun f fn hf hfn => by
      obtain rfl : f = 4 := Option.some.inj ((show Tryd.prog.funcNamed "backstay/backstaylaw06.ShapeSignatures" = some 4 by kernel_rfl).symm.trans hf) |>.symm
      obtain rfl : fn = Tryd.f4 := (Option.some.inj (Tryd.func4.symm.trans hfn)).symm
      exact ⟨by kernel_rfl, fun j t ht => by
        rw [Tryd.params4] at ht
        have hm : t ∈ [26, 26, 23, 9] := by simpa using Array.mem_of_getElem? ht
        have hall : ([26, 26, 23, 9].all fun u => !Tryd.prog.wantsStandIn u) = true := by kernel_rfl
        exact (show Tryd.prog.wantsStandIn t = false by simpa using List.all_eq_true.1 hall t hm)⟩)
    (by kernel_rfl)

end Go.Proofs.YtieejecodfeodaaDoor
