/-
  FlowAsks: whatever the input, the law returns true, and all reads as it did. Conditions: the row's laid variables; the card ties them.
-/
import Derived.Test.YtghdibbooegocaaGreatDoorQB11
import Derived.Test.YtghdibbooegocaaGreatDoorCards
import Derived.Test.YtghdibbooegocaaGreatDoorTie
import Derived.SevenTiedAt
namespace Go.Proofs.YtghdibbooegocaaGreatDoor.G
open Go.ChangeShapes Go.WideShapes Go.ChangeAt Go.RowKit O

theorem flowAsks_met (os : Os) (args : Array Value) : laidMetH Tryz.prog Rows.flowAsksRow.laid ((World.doorLaid Tryz.prog 400 os).forCall (fun _ _ => 0) ⟨#[], args, []⟩).memory :=
  laidMetH_of_parts3 (fuel := 8) (laidMet_of_run' 8 (by kernel_rfl) (by kernel_rfl)) (by kernel_rfl) (by kernel_rfl)

set_option maxRecDepth 100000 in
theorem flowAsks_lifted (os : Os) (started : os.Started) (H : Type) (enc : TypeId × Value → H) :
    ReturnsInHanded {} Tryz.checked os 3 .any (fun w args => (Rows.flowAsksSpec.pre enc Tryz.prog Tryz.f3 [] false w args ∧ laidMetH Tryz.prog Rows.flowAsksRow.laid w) ∧ sizedMet enc Tryz.prog Tryz.f3 (OpenSpec.ofChange Rows.flowAsksSpec) false w args)
      (Rows.flowAsksSpec.post enc Tryz.prog Tryz.f3 false true false false) := by
  refine handed_and (C := Tryz.checked) (X := fun w _ => laidMetH Tryz.prog Rows.flowAsksRow.laid w) (fun _ _ _ hh h => h.of_heap hh) seatOwn started (by kernel_rfl) Tryz.func3
    (ChangeSpec.witness_shaped (enc := enc) (C := Tryz.checked) (os := os) (X := fun w _ => laidMetH Tryz.prog Rows.flowAsksRow.laid w) false (World.doorLaid Tryz.prog 400 os) #[.slice none 0 0, .int .i64 0] 8 rfl (World.shaped_of_RefB (by kernel_rfl) (by kernel_rfl)) (by kernel_rfl) (by kernel_rfl) (by kernel_rfl) (flowAsks_met os _)) ?_
  intro W base args ds gs before hval0 hW hSh hL
  have hval : ∀ (j : Nat) t v, Tryz.f3.params[j]? = some t → args[j]? = some v → Value.okWide Tryz.prog W .any base t v := hval0
  have hW' := hW
  obtain ⟨p, q, hA0, hV, rfl, hfz, hnd⟩ := hW
  have hA : DataW.TrodAll enc Tryz.prog W 0 (fun _ => true) true Tryz.f3.params.toList args.toList ds p := hA0
  rw [Tryz.params3] at hA hval
  obtain ⟨v0, v1, d0, d1, p0, p1, rfl, rfl, rfl, h0, h1⟩ := trodAll_two hA
  obtain ⟨rfl, rfl⟩ := trodVars_none hV
  have h0k := h0
  have h1k := h1
  obtain ⟨n1, rfl, rfl, rfl, hw1⟩ := open_int Tryz.underlying3 (hval 1 3 v1 rfl rfl) h1
  obtain ⟨A0, l0, c0, rfl, hr0, hc0, hm0, hI0⟩ := C.open_insts (hval 0 22 v0 rfl rfl) h0
  clear hA0 hval0
  rw [MakeChecks.laidMetH_plain _ _ _ (by kernel_rfl)] at hL
  simp only [List.append_nil] at hW'
  have hlt0 : ∀ x ∈ p0, x.block < W.heap.size := fun x hx => hW'.lt x (by simp [hx])
  refine (flowAsks_walk A0 l0 _ c0 n1 W hr0 (Lib.hid rfl) (Lib.hid hI0) (Nat.le_trans hc0 (Nat.le_trans hm0 (by decide))) hw1).mono fun e W' ⟨he, hw⟩ => ?_
  subst he
  have hb := hw.below (fun _ hf => hf.elim)
  have hT := trodAll_mk2 (Below.trod seatLaidOut (by kernel_rfl) (of_decide_eq_true (by kernel_rfl)) h0k hb (fun x hx => hlt0 x hx)) (Below.trod seatLaidOut (by kernel_rfl) (of_decide_eq_true (by kernel_rfl)) h1k hb (by simp))
  try simp only [List.append_nil] at hT
  exact ⟨_, rfl, _, _, _, [], p0, [], hW', trodAll_mk1 (shut_bool Tryz.underlying4 true), hT, rfl, hb.frame _, fun h => by cases h⟩

theorem flowAsks_j1 : (Rows.flowAsksRow.inPlace == Tryz.pinned.checked.prog.inPlace 3) = true := by kernel_rfl
theorem flowAsks_j2 : (Rows.flowAsksRow.unfollowed == Tryz.pinned.checked.prog.unfollowed 3) = true := by kernel_rfl
theorem flowAsks_j3 : (Rows.flowAsksRow.recurses == Tryz.pinned.checked.prog.recurses 3) = true := by kernel_rfl
theorem flowAsks_j4 : (Rows.flowAsksRow.named == Tryz.pinned.checked.prog.varsNamed 3) = true := by kernel_rfl
set_option maxRecDepth 100000 in
theorem flowAsks_closed : joinedFacts Tryz.pinned.checked.prog 3 Tryz.f3 Rows.flowAsksSpec Rows.flowAsksRow = true := by
  unfold joinedFacts
  rw [flowAsks_j1, flowAsks_j2, flowAsks_j3, flowAsks_j4]
  kernel_rfl

theorem flowAsks_row_holds : Rows.FlowAsksSaid :=
  OpenClaim.holds_of_wide 3 Tryz.f3 rfl rfl rfl rfl rfl rfl rfl ⟨rfl, rfl, rfl, rfl, rfl⟩ rfl rfl rfl rfl rfl (by kernel_rfl) Tryz.func3 flowAsks_closed
    (of_decide_eq_true (by kernel_rfl)) (by unfold Func.isWrapper; rw [if_neg (of_decide_eq_false (by kernel_rfl))]; exact ⟨rfl, rfl⟩)
    (fun os started H enc _ => flowAsks_lifted os started H enc)

end Go.Proofs.YtghdibbooegocaaGreatDoor.G
namespace Go.Proofs.YtghdibbooegocaaGreatDoor
open Go.ChangeShapes Go.WideShapes Go.ChangeAt Go.RowKit

theorem flowAsks_k1 : Rows.flowAsksRow.wfByText (OpenSpec.ofChange Rows.flowAsksSpec) = true := by kernel_rfl
theorem flowAsks_k2 : Tryz.pinned.checked.prog.mainIs = some (((true, "289d2c0d8bf26f7b6da9893d8c96adf9eafcc3446c792151e4f6e33cf17d1c00")).1, ((true, "289d2c0d8bf26f7b6da9893d8c96adf9eafcc3446c792151e4f6e33cf17d1c00")).2.toList) := by kernel_rfl
theorem flowAsks_k3 : true = Tryz.pinned.checked.prog.looks [] := by kernel_rfl
theorem flowAsks_k4 : false = Rows.flowAsksRow.goesBy Tryz.pinned.checked.prog := by kernel_rfl

theorem flowAsks_holds : Rows.FlowAsksCardSaid :=
  Claim7.holds_tied_plain_at .later [] [.data, .data, .data, .data, .data, .sentinel, .sentinel, .data] true (true, "289d2c0d8bf26f7b6da9893d8c96adf9eafcc3446c792151e4f6e33cf17d1c00") true
    G.flowAsks_row_holds (fun _ h => by cases h) flowAsks_k1 (fun _ h => by cases h) flowAsks_row_tie rfl ⟨rfl, rfl⟩ flowAsks_k2 rfl
    (fun f fn hf hfn => by
      obtain rfl : f = 3 := Option.some.inj ((show Tryz.prog.funcNamed "backstay/backstaylaw11.FlowAsks" = some 3 by kernel_rfl).symm.trans hf) |>.symm
      obtain rfl : fn = Tryz.f3 := (Option.some.inj (Tryz.func3.symm.trans hfn)).symm
      exact ⟨flowAsks_k3, fun j t ht => by
        rw [Tryz.params3] at ht
        have hm : t ∈ [22, 3] := by simpa using Array.mem_of_getElem? ht
        have hall : ([22, 3].all fun u => !Tryz.prog.wantsStandIn u) = true := by kernel_rfl
        exact (show Tryz.prog.wantsStandIn t = false by simpa using List.all_eq_true.1 hall t hm)⟩)
    flowAsks_k4

end Go.Proofs.YtghdibbooegocaaGreatDoor
