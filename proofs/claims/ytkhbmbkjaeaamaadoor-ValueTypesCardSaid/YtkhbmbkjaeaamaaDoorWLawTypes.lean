/-
  ValueTypes' walk: whatever number, list of types and text, the law returns true. Conditions: the list lies in memory; the letters stand.
-/
import Derived.Test.YtkhbmbkjaeaamaaDoorWTypes2
import Derived.Test.YtkhbmbkjaeaamaaDoorWRTypes
import Derived.Deep.RegionWith
namespace Go.Proofs.YtkhbmbkjaeaamaaDoor
open Go.RowKit

set_option maxRecDepth 100000 in
set_option maxHeartbeats 40000000 in
theorem types_walk (w : World) (t : Int) (A : Option Addr) (l : List Int) (nl c : Nat) (S : ByteArray) (ha : Rd w A (ivs l)) (hl : Hid (l.length = nl)) (hnl : nl ≤ 9223372036854775807) (hsz : S.size ≤ 9223372036854775807) (hL : LetAt w) :
    Calls Tryd.prog 3 #[.int .i64 t, .slice A nl c, .string S] w fun e w' => e = .returned (.bool true) ∧ Keep NoB w w' := by
  by_cases hg : S.size ≤ 2000 ∧ nl ≤ 2000
  · obtain ⟨hg1, hg2⟩ := hg
    obtain ⟨s, hs⟩ : ∃ s, Hid (S.data.toList = s) := ⟨_, rfl⟩
    obtain ⟨i0, hi, hz0, hz1, hz2⟩ := info_parts int_info
    go_enter Tryd.func3, Tryd.ntmps3
    go_wp2_with fail
    refine (great_no S A none nl 0 c 0 _ hg1 hg2 (by decide)).mono ?_
    rintro e w' ⟨rfl, rfl⟩
    go_wp2_with (first
      | (at_builtin; refine wpList_append_rd _ rfl (.tmp 15) (.tmp 16) _ rfl 3 1 8 i0 _ Tryd.underlying22 hi hz0 hz1 hz2 rfl (by decide) _ 0 _ A nl c (ivs l) rfl (World.ownsRow_made (e := 3) (size := 1) (base := 0) w #[] 0 (Nat.zero_le _) (Nat.zero_le _) rfl) rfl (ha.keepN ((Keep.refl NoB w).alloc _)) (by rw [List.length_map, hl.out]; omega) (ivs_one _) (by unfold maxLen; omega) (by omega) ?_; intro A1 c1 w1 hrow1 hg1' hv1; rw [List.nil_append] at hrow1; obtain ⟨hO1, hK1⟩ := own_after (w := w) (fun g e => by cases e; exact Nat.le_refl _) ((Keep.refl NoB w).alloc _) hg1' hv1 hrow1; clear hrow1 hg1' hv1)
      | fail)
    obtain ⟨_, _, eA1, -, -, hR1, -⟩ := hO1.form
    cases eA1
    rw [Nat.zero_add] at *
    refine (types_any S s _ (hL.keep hK1) hs hsz).mono ?_
    rintro e w2 ⟨B, d, rfl, hO2, hK2⟩
    obtain ⟨n2, h2n⟩ : ∃ n, Hid (tN s = n) := ⟨_, rfl⟩
    obtain ⟨e2, h2e⟩ : ∃ n, Hid (tE s = n) := ⟨_, rfl⟩
    have h2l : Hid ((tL s).length = n2) := by show _ = _; rw [tL_length, h2n.out]
    have hn2 : n2 ≤ 2000 := by rw [← h2n.out]; unfold tN; have := size_of hs.out; split <;> omega
    rw [h2n.out] at hO2
    rw [h2n.out, h2e.out]
    obtain ⟨_, _, eB, -, -, hR2, -⟩ := hO2.form
    cases eB
    go_wp2_with fail
    refine (rtypes_any S s _ hs hsz).mono ?_
    rintro e w3 ⟨D, b, rfl, hO3, hK3⟩
    rw [h2n.out] at hO3
    rw [h2n.out, h2e.out]
    obtain ⟨_, _, eD, -, -, hR3, -⟩ := hO3.form
    cases eD
    have hk3 := keepN (keepN hK1 hK2) hK3
    have hL3 := hL.keep hk3
    have r1 := hR1.keepN (keepN hK2 hK3)
    have r2 := hR2.keepN hK3
    have r3 := hR3
    have r0 := ha.keepN hk3
    have hd0 := (Keep.refl NoB w3).drew
    have HT := Lib.hid (fun W (hW : LetAt W) => letter_any t W hW)
    have HU := Lib.hid (fun W => rletter_any t W)
    generalize letC t = lt at HT HU
    have HX := Lib.hid (fun W (hW : LetAt W) (hr : Rd W A1 (ivs l)) => text_any A1 l nl c1 W hW hr hl hnl)
    have HY := Lib.hid (fun W (hr : Rd W A (ivs l)) => rtext_any A l nl c W hr hl hnl)
    generalize txt l = lx at HX HY
    clear hO1 hO2 hO3 hR1 hR2 hR3 ha hL hK1 hK2 hK3 hi hz0 hz1 hz2 h2n h2e hs
    go_wp2_with (first
      | (go_at_call 12; refine (known_any t _).mono ?_; rintro e v1 ⟨rfl, rfl⟩)
      | (go_at_call 13; refine (rknown_any t _).mono ?_; rintro e v2 ⟨rfl, rfl⟩)
      | (go_at_call 14; refine (HT.out _ hL3).mono ?_; rintro e v3 ⟨rfl, rfl⟩)
      | (go_at_call 15; refine (HU.out _).mono ?_; rintro e v4 ⟨rfl, rfl⟩)
      | (go_at_call 16; refine (HX.out _ hL3 r1).mono ?_; rintro e v5 ⟨rfl, g1⟩)
      | (go_at_call 17; refine (HY.out _ (r0.keepN g1)).mono ?_; rintro e v6 ⟨rfl, g2'⟩; have g2 := keepN g1 g2')
      | (go_at_call_of 18 (Value.slice B n2 d); refine (ints_any B D (tL s) (tL s) _ _ d b v6 (r2.keepN g2) (r3.keepN g2) h2l h2l (by omega) (by omega) true (by show _ = _; simp)).mono ?_; rintro e v7 ⟨rfl, g3'⟩; have g3 := keepN g2 g3')
      | (go_at_call_of 18 (Value.slice A1 nl c1); refine (ints_any A1 A l l _ _ c1 c v7 (r1.keepN g3) (r0.keepN g3) hl hl (by omega) (by omega) true (by show _ = _; simp)).mono ?_; rintro e v8 ⟨rfl, g4'⟩; have g4 := keepN g3 g4')
      | fail)
    all_goals go_ret
    all_goals exact ⟨rfl, keepN hk3 g4⟩
  · go_enter Tryd.func3, Tryd.ntmps3
    go_wp2_with fail
    refine (great_yes S A none nl 0 c 0 _ (fun h => hg ⟨h.1, h.2.1⟩) hnl (by decide) hsz).mono ?_
    rintro e w' ⟨rfl, rfl⟩
    go_wp2
    go_ret
    exact ⟨rfl, Keep.refl _ _⟩

end Go.Proofs.YtkhbmbkjaeaamaaDoor
