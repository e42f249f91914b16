/-
  ValueLists' walk: whatever types and text, the law returns true. Conditions: the list lies in memory; the listed variables hold what their initialisers lay.
-/
import Derived.Test.YtkhbmbkjaeaamaaDoorWTypes2
import Derived.Test.YtkhbmbkjaeaamaaDoorWShow2
import Derived.Test.YtkhbmbkjaeaamaaDoorWFits
import Derived.Deep.RegionWith
namespace Go.Proofs.YtkhbmbkjaeaamaaDoor
open Go.RowKit

/-- What alive answers. -/
def AliveC : Prop := ∀ W : World, LetAt W → Laid W → Calls Tryd.prog 29 #[] W fun e w' => e = .returned (.bool true) ∧ Keep NoB W w'

theorem nil_one (W : World) : Calls Tryd.prog 27 #[.agg #[.int .i64 1, .int .i64 0]] W fun e w' => e = .returned (.bool false) ∧ Keep NoB W w' := nil_any 1 0 W
theorem nil_more (t : Int) (hk : knownB t = true) (h1 : t ≠ 1) (W : World) : Calls Tryd.prog 27 #[.agg #[.int .i64 t, .int .i64 0]] W fun e w' => e = .returned (.bool true) ∧ Keep NoB W w' := by
  have := nil_any t 0 W
  rw [show nilB t 0 = true by rw [nil_iff]; rw [known_iff] at hk; omega] at this
  exact this
theorem ts_zs (l : List Int) : ts (zs l) = l := by unfold ts zs; rw [List.map_map]; exact List.map_id' l
theorem fits_zs {l : List Int} (h : l.all knownB = true) : fitsB l (zs l) = true := by
  rw [fits_true, ts_zs]
  refine ⟨rfl, ?_⟩
  unfold allOk zs
  rw [List.all_map, List.all_eq_true]
  intro t ht
  have := (known_iff t).1 (List.all_eq_true.1 h t ht)
  exact (ok_iff t 0).2 ⟨this, by omega⟩

set_option maxRecDepth 100000 in
set_option maxHeartbeats 40000000 in
theorem lists_bad (w : World) (A : Option Addr) (l : List Int) (nl c : Nat) (S : ByteArray) (s : List UInt8) (Al : Hid AliveC) (ha : Rd w A (ivs l)) (hl : Hid (l.length = nl)) (hg1 : S.size ≤ 2000) (hg2 : nl ≤ 2000) (hL : LetAt w) (h : Laid w) (hs : Hid (S.data.toList = s)) (hsz : S.size ≤ 9223372036854775807) (hal : l.all knownB = false) :
    Calls Tryd.prog 7 #[.slice A nl c, .string S] w fun e w' => e = .returned (.bool true) ∧ Keep NoB w w' := by
  have hnl : nl ≤ 9223372036854775807 := by omega
  have HT := Lib.hid (fun W (hW : LetAt W) (hr : Rd W A (ivs l)) => text_any A l nl c W hW hr hl hnl)
  rw [txt_bad hal] at HT
  cases hU : untxt s with
  | none =>
    have e1 : tN s = 0 := by unfold tN; rw [hU]; rfl
    have e3 : tE s = 20 := by unfold tE; rw [hU]; rfl
    go_enter Tryd.func7, Tryd.ntmps7
    go_wp2_with fail
    refine (Al.out _ hL h).mono ?_
    rintro e w1 ⟨rfl, hk1⟩
    go_wp2_with fail
    refine (great_no S A none nl 0 c 0 _ hg1 hg2 (by decide)).mono ?_
    rintro e w' ⟨rfl, rfl⟩
    go_wp2_with fail
    refine (types_any S s _ (hL.keep hk1) hs hsz).mono ?_
    rintro e w2 ⟨B, d, rfl, -, hK2⟩
    rw [e1, e3]
    have hk2 := keepN hk1 hK2
    clear e1 e3
    go_wp2_with fail
    refine (zeros_any A l nl c _ (ha.keepN hk2) hl (by omega)).mono ?_
    rintro e w3 ⟨hK3, hz | ⟨-, rfl⟩⟩
    · exact absurd hz.1 (by rw [hal]; decide)
    have hk3 := keepN hk2 hK3
    go_wp2_with fail
    refine (HT.out _ (hL.keep hk3) (ha.keepN hk3)).mono ?_
    rintro e w4 ⟨rfl, hK4⟩
    go_wp2
    go_ret
    exact ⟨rfl, keepN hk3 hK4⟩
  | some m =>
    have e3 : tE s = 0 := by unfold tE; rw [hU]; rfl
    have hmn : tN s ≤ 2000 := by unfold tN; have := size_of hs.out; split <;> omega
    have htx : txt (tL s) = s := by rw [show tL s = m by unfold tL; rw [hU]; rfl]; exact txt_untxt hU
    have hml : Hid ((tL s).length = tN s) := tL_length s
    have hq : (s == S.toList) = true := by rw [ByteArray.toList_eq, hs.out, beq_self_eq_true]
    go_enter Tryd.func7, Tryd.ntmps7
    go_wp2_with fail
    refine (Al.out _ hL h).mono ?_
    rintro e w1 ⟨rfl, hk1⟩
    go_wp2_with fail
    refine (great_no S A none nl 0 c 0 _ hg1 hg2 (by decide)).mono ?_
    rintro e w' ⟨rfl, rfl⟩
    go_wp2_with fail
    refine (types_any S s _ (hL.keep hk1) hs hsz).mono ?_
    rintro e w2 ⟨B, d, rfl, hO2, hK2⟩
    rw [e3]
    obtain ⟨_, _, eB, -, -, hR2, -⟩ := hO2.form
    cases eB
    have HB := text_any B (tL s) (tN s) d _ ((hL.keep hk1).keep hK2) hR2 hml (by omega)
    rw [htx] at HB
    have HB := Lib.hid HB
    generalize tN s = nm at HB hmn ⊢
    clear htx hml hO2 hR2 e3
    go_wp2_with fail
    refine HB.out.mono ?_
    rintro e w2' ⟨rfl, hK2'⟩
    have hk2 := keepN (keepN hk1 hK2) hK2'
    clear HB
    go_wp2_with fail
    refine (zeros_any A l nl c _ (ha.keepN hk2) hl (by omega)).mono ?_
    rintro e w3 ⟨hK3, hz | ⟨-, rfl⟩⟩
    · exact absurd hz.1 (by rw [hal]; decide)
    have hk3 := keepN hk2 hK3
    go_wp2_with fail
    refine (HT.out _ (hL.keep hk3) (ha.keepN hk3)).mono ?_
    rintro e w4 ⟨rfl, hK4⟩
    go_wp2
    go_ret
    exact ⟨rfl, keepN hk3 hK4⟩

set_option maxRecDepth 100000 in
set_option maxHeartbeats 40000000 in
theorem lists_long (w : World) (A : Option Addr) (l : List Int) (nl c : Nat) (S : ByteArray) (s : List UInt8) (Al : Hid AliveC) (ha : Rd w A (ivs l)) (hl : Hid (l.length = nl)) (hg1 : S.size ≤ 2000) (hg2 : nl ≤ 2000) (hL : LetAt w) (h : Laid w) (hs : Hid (S.data.toList = s)) (hsz : S.size ≤ 9223372036854775807) (hal : l.all knownB = true) (hlong : 1024 < nl) :
    Calls Tryd.prog 7 #[.slice A nl c, .string S] w fun e w' => e = .returned (.bool true) ∧ Keep NoB w w' := by
  have hnl : nl ≤ 9223372036854775807 := by omega
  have hzl : Hid ((zs l).length = nl) := by show _ = _; unfold zs; rw [List.length_map, hl.out]
  have HT := Lib.hid (fun W (hW : LetAt W) (hr : Rd W A (ivs l)) => text_any A l nl c W hW hr hl hnl)
  rw [txt_long (by rw [hl.out]; exact hlong)] at HT
  cases hU : untxt s with
  | none =>
    have e1 : tN s = 0 := by unfold tN; rw [hU]; rfl
    have e3 : tE s = 20 := by unfold tE; rw [hU]; rfl
    go_enter Tryd.func7, Tryd.ntmps7
    go_wp2_with fail
    refine (Al.out _ hL h).mono ?_
    rintro e w1 ⟨rfl, hk1⟩
    go_wp2_with fail
    refine (great_no S A none nl 0 c 0 _ hg1 hg2 (by decide)).mono ?_
    rintro e w' ⟨rfl, rfl⟩
    go_wp2_with fail
    refine (types_any S s _ (hL.keep hk1) hs hsz).mono ?_
    rintro e w2 ⟨B, d, rfl, -, hK2⟩
    rw [e1, e3]
    have hk2 := keepN hk1 hK2
    clear e1 e3
    go_wp2_with fail
    refine (zeros_any A l nl c _ (ha.keepN hk2) hl (by omega)).mono ?_
    rintro e w3 ⟨hK3, ⟨-, Z, z, rfl, hO3⟩ | hz⟩
    rotate_left
    · exact absurd hz.1 (by rw [hal]; decide)
    obtain ⟨_, _, eZ, -, -, hZ, -⟩ := hO3.form
    cases eZ
    have hk3 := keepN hk2 hK3
    go_wp2_with fail
    refine (fits_any A Z l (zs l) nl nl c z _ (ha.keepN hk3) hZ hl hzl hnl hnl true (by show _ = _; rw [fits_zs hal])).mono ?_
    rintro e w4 ⟨rfl, hK4⟩
    have hk4 := keepN hk3 hK4
    go_wp2_with fail
    refine (of_any Z (zs l) nl z _ (hZ.keepN hK4) hzl (by omega)).mono ?_
    rintro e w5 ⟨hK5, O, o, rfl, hO5⟩
    obtain ⟨_, _, eO, -, -, hR5, -⟩ := hO5.form
    cases eO
    rw [ts_zs] at hR5
    have hk5 := keepN hk4 hK5
    go_wp2_with fail
    refine (ints_any O A l l nl nl o c _ hR5 (ha.keepN hk5) hl hl hnl hnl true (by show _ = _; simp)).mono ?_
    rintro e w6 ⟨rfl, hK6⟩
    have hk6 := keepN hk5 hK6
    have hZ6 := hZ.keepN (keepN (keepN hK4 hK5) hK6)
    have ha6 := ha.keepN hk6
    have hL6 := hL.keep hk6
    clear hO3 hO5 hR5 hZ hK3 hK4 hK5 hK6 hk2 hk3 hk4 hk5 hk1 hs
    go_wp2_with fail
    go_loopw [67] (fun i wr => ∃ k : Nat, k ≤ nl ∧ i = .int .i64 k ∧ Keep NoB w6 wr) (fun i _ => nl - (intOf i).toNat)
    case atStart => exact ⟨0, Nat.zero_le _, rfl, Keep.refl _ _⟩
    case round =>
      obtain ⟨k, hk, rfl, hK7⟩ := hrel
      by_cases hlt : k < nl
      · have hkz : k < (zs l).length := by rw [hzl.out]; exact hlt
        have hkl : k < l.length := by rw [hl.out]; exact hlt
        obtain ⟨gZ, oZ, rfl, qZ⟩ := rdV_at hZ6 (by omega)
        have e0 := hK7.cell (qZ k hkz).1 id
        have e1 := hK7.cell (qZ k hkz).2 id
        have hkn : knownB l[k] = true := List.all_eq_true.1 hal _ (List.getElem_mem hkl)
        have hz0 : (zs l)[k] = (l[k], 0) := by simp [zs]
        rw [hz0] at e0 e1
        dsimp only at e0 e1
        generalize l[k] = t at e0 e1 hkn
        clear qZ hz0 hZ6
        by_cases ht : t = 1
        · subst ht
          clear hkn
          go_wp2
          have hb := Blk.new wr 35 #[.int .i64 1, .int .i64 0]
          have hka := (Keep.refl NoB wr).alloc (.cells #[.int .i64 1, .int .i64 0] 35)
          generalize wr.alloc (.cells #[.int .i64 1, .int .i64 0] 35) = wa at hb hka ⊢
          have hd0 := (Keep.refl NoB wa).drew
          have HQ : Hid (∀ w', Keep NoB wa w' → w'.cell? ⟨wr.heap.size, 0, none⟩ = some (.int .i64 1) ∧ w'.cell? ⟨wr.heap.size, 1, none⟩ = some (.int .i64 0)) := fun w' hk' => ⟨(hb.keep hk' id).cell 0, (hb.keep hk' id).cell 1⟩
          first
            | (go_region_held (fun w' => w'.cell? ⟨wr.heap.size, 0, none⟩ = some (.int .i64 1) ∧ w'.cell? ⟨wr.heap.size, 1, none⟩ = some (.int .i64 0))
                (first | exact HQ.out _ hd0 | exact HQ.out _ g1)
                (first | (go_at_call 27; refine (nil_one _).mono ?_; rintro e v1 ⟨rfl, g1'⟩; have g1 := keepN hd0 g1')))
            | fail
          all_goals go_wp2
          all_goals go_roundw
          case rel => exact ⟨k + 1, by omega, by go_num, keepN hK7 (keepN hka g1)⟩
          case measure => simp [intOf]; omega
        · have hq1 : (t == 1) = false := by rw [beq_eq_false_iff_ne]; exact ht
          have HN := Lib.hid (fun W => nil_more t hkn ht W)
          clear hkn ht
          go_wp2
          have hb := Blk.new wr 35 #[.int .i64 t, .int .i64 0]
          have hka := (Keep.refl NoB wr).alloc (.cells #[.int .i64 t, .int .i64 0] 35)
          generalize wr.alloc (.cells #[.int .i64 t, .int .i64 0] 35) = wa at hb hka ⊢
          have hd0 := (Keep.refl NoB wa).drew
          have HQ : Hid (∀ w', Keep NoB wa w' → w'.cell? ⟨wr.heap.size, 0, none⟩ = some (.int .i64 t) ∧ w'.cell? ⟨wr.heap.size, 1, none⟩ = some (.int .i64 0)) := fun w' hk' => ⟨(hb.keep hk' id).cell 0, (hb.keep hk' id).cell 1⟩
          first
            | (go_region_held (fun w' => w'.cell? ⟨wr.heap.size, 0, none⟩ = some (.int .i64 t) ∧ w'.cell? ⟨wr.heap.size, 1, none⟩ = some (.int .i64 0))
                (first | exact HQ.out _ hd0 | exact HQ.out _ g1)
                (first | (go_at_call 27; refine (HN.out _).mono ?_; rintro e v1 ⟨rfl, g1'⟩; have g1 := keepN hd0 g1')))
            | fail
          all_goals go_wp2
          all_goals go_roundw
          case rel => exact ⟨k + 1, by omega, by go_num, keepN hK7 (keepN hka g1)⟩
          case measure => simp [intOf]; omega
      · have hk7 := keepN hk6 hK7
        have ha7 := ha6.keepN hK7
        have hL7 := hL6.keep hK7
        go_wp2_with fail
        refine (HT.out _ hL7 ha7).mono ?_
        rintro e w8 ⟨rfl, hK8⟩
        go_wp2
        go_ret
        exact ⟨rfl, keepN hk7 hK8⟩
  | some m =>
    have e3 : tE s = 0 := by unfold tE; rw [hU]; rfl
    have hmn : tN s ≤ 2000 := by unfold tN; have := size_of hs.out; split <;> omega
    have htx : txt (tL s) = s := by rw [show tL s = m by unfold tL; rw [hU]; rfl]; exact txt_untxt hU
    have hml : Hid ((tL s).length = tN s) := tL_length s
    have hq : (s == S.toList) = true := by rw [ByteArray.toList_eq, hs.out, beq_self_eq_true]
    go_enter Tryd.func7, Tryd.ntmps7
    go_wp2_with fail
    refine (Al.out _ hL h).mono ?_
    rintro e w1 ⟨rfl, hk1⟩
    go_wp2_with fail
    refine (great_no S A none nl 0 c 0 _ hg1 hg2 (by decide)).mono ?_
    rintro e w' ⟨rfl, rfl⟩
    go_wp2_with fail
    refine (types_any S s _ (hL.keep hk1) hs hsz).mono ?_
    rintro e w2 ⟨B, d, rfl, hO2, hK2⟩
    rw [e3]
    obtain ⟨_, _, eB, -, -, hR2, -⟩ := hO2.form
    cases eB
    have HB := text_any B (tL s) (tN s) d _ ((hL.keep hk1).keep hK2) hR2 hml (by omega)
    rw [htx] at HB
    have HB := Lib.hid HB
    generalize tN s = nm at HB hmn ⊢
    clear htx hml hO2 hR2 e3
    go_wp2_with fail
    refine HB.out.mono ?_
    rintro e w2' ⟨rfl, hK2'⟩
    have hk2 := keepN (keepN hk1 hK2) hK2'
    clear HB
    go_wp2_with fail
    refine (zeros_any A l nl c _ (ha.keepN hk2) hl (by omega)).mono ?_
    rintro e w3 ⟨hK3, ⟨-, Z, z, rfl, hO3⟩ | hz⟩
    rotate_left
    · exact absurd hz.1 (by rw [hal]; decide)
    obtain ⟨_, _, eZ, -, -, hZ, -⟩ := hO3.form
    cases eZ
    have hk3 := keepN hk2 hK3
    go_wp2_with fail
    refine (fits_any A Z l (zs l) nl nl c z _ (ha.keepN hk3) hZ hl hzl hnl hnl true (by show _ = _; rw [fits_zs hal])).mono ?_
    rintro e w4 ⟨rfl, hK4⟩
    have hk4 := keepN hk3 hK4
    go_wp2_with fail
    refine (of_any Z (zs l) nl z _ (hZ.keepN hK4) hzl (by omega)).mono ?_
    rintro e w5 ⟨hK5, O, o, rfl, hO5⟩
    obtain ⟨_, _, eO, -, -, hR5, -⟩ := hO5.form
    cases eO
    rw [ts_zs] at hR5
    have hk5 := keepN hk4 hK5
    go_wp2_with fail
    refine (ints_any O A l l nl nl o c _ hR5 (ha.keepN hk5) hl hl hnl hnl true (by show _ = _; simp)).mono ?_
    rintro e w6 ⟨rfl, hK6⟩
    have hk6 := keepN hk5 hK6
    have hZ6 := hZ.keepN (keepN (keepN hK4 hK5) hK6)
    have ha6 := ha.keepN hk6
    have hL6 := hL.keep hk6
    clear hO3 hO5 hR5 hZ hK3 hK4 hK5 hK6 hk2 hk3 hk4 hk5 hk1 hs
    go_wp2_with fail
    go_loopw [67] (fun i wr => ∃ k : Nat, k ≤ nl ∧ i = .int .i64 k ∧ Keep NoB w6 wr) (fun i _ => nl - (intOf i).toNat)
    case atStart => exact ⟨0, Nat.zero_le _, rfl, Keep.refl _ _⟩
    case round =>
      obtain ⟨k, hk, rfl, hK7⟩ := hrel
      by_cases hlt : k < nl
      · have hkz : k < (zs l).length := by rw [hzl.out]; exact hlt
        have hkl : k < l.length := by rw [hl.out]; exact hlt
        obtain ⟨gZ, oZ, rfl, qZ⟩ := rdV_at hZ6 (by omega)
        have e0 := hK7.cell (qZ k hkz).1 id
        have e1 := hK7.cell (qZ k hkz).2 id
        have hkn : knownB l[k] = true := List.all_eq_true.1 hal _ (List.getElem_mem hkl)
        have hz0 : (zs l)[k] = (l[k], 0) := by simp [zs]
        rw [hz0] at e0 e1
        dsimp only at e0 e1
        generalize l[k] = t at e0 e1 hkn
        clear qZ hz0 hZ6
        by_cases ht : t = 1
        · subst ht
          clear hkn
          go_wp2
          have hb := Blk.new wr 35 #[.int .i64 1, .int .i64 0]
          have hka := (Keep.refl NoB wr).alloc (.cells #[.int .i64 1, .int .i64 0] 35)
          generalize wr.alloc (.cells #[.int .i64 1, .int .i64 0] 35) = wa at hb hka ⊢
          have hd0 := (Keep.refl NoB wa).drew
          have HQ : Hid (∀ w', Keep NoB wa w' → w'.cell? ⟨wr.heap.size, 0, none⟩ = some (.int .i64 1) ∧ w'.cell? ⟨wr.heap.size, 1, none⟩ = some (.int .i64 0)) := fun w' hk' => ⟨(hb.keep hk' id).cell 0, (hb.keep hk' id).cell 1⟩
          first
            | (go_region_held (fun w' => w'.cell? ⟨wr.heap.size, 0, none⟩ = some (.int .i64 1) ∧ w'.cell? ⟨wr.heap.size, 1, none⟩ = some (.int .i64 0))
                (first | exact HQ.out _ hd0 | exact HQ.out _ g1)
                (first | (go_at_call 27; refine (nil_one _).mono ?_; rintro e v1 ⟨rfl, g1'⟩; have g1 := keepN hd0 g1')))
            | fail
          all_goals go_wp2
          all_goals go_roundw
          case rel => exact ⟨k + 1, by omega, by go_num, keepN hK7 (keepN hka g1)⟩
          case measure => simp [intOf]; omega
        · have hq1 : (t == 1) = false := by rw [beq_eq_false_iff_ne]; exact ht
          have HN := Lib.hid (fun W => nil_more t hkn ht W)
          clear hkn ht
          go_wp2
          have hb := Blk.new wr 35 #[.int .i64 t, .int .i64 0]
          have hka := (Keep.refl NoB wr).alloc (.cells #[.int .i64 t, .int .i64 0] 35)
          generalize wr.alloc (.cells #[.int .i64 t, .int .i64 0] 35) = wa at hb hka ⊢
          have hd0 := (Keep.refl NoB wa).drew
          have HQ : Hid (∀ w', Keep NoB wa w' → w'.cell? ⟨wr.heap.size, 0, none⟩ = some (.int .i64 t) ∧ w'.cell? ⟨wr.heap.size, 1, none⟩ = some (.int .i64 0)) := fun w' hk' => ⟨(hb.keep hk' id).cell 0, (hb.keep hk' id).cell 1⟩
          first
            | (go_region_held (fun w' => w'.cell? ⟨wr.heap.size, 0, none⟩ = some (.int .i64 t) ∧ w'.cell? ⟨wr.heap.size, 1, none⟩ = some (.int .i64 0))
                (first | exact HQ.out _ hd0 | exact HQ.out _ g1)
                (first | (go_at_call 27; refine (HN.out _).mono ?_; rintro e v1 ⟨rfl, g1'⟩; have g1 := keepN hd0 g1')))
            | fail
          all_goals go_wp2
          all_goals go_roundw
          case rel => exact ⟨k + 1, by omega, by go_num, keepN hK7 (keepN hka g1)⟩
          case measure => simp [intOf]; omega
      · have hk7 := keepN hk6 hK7
        have ha7 := ha6.keepN hK7
        have hL7 := hL6.keep hK7
        go_wp2_with fail
        refine (HT.out _ hL7 ha7).mono ?_
        rintro e w8 ⟨rfl, hK8⟩
        go_wp2
        go_ret
        exact ⟨rfl, keepN hk7 hK8⟩

set_option maxRecDepth 100000 in
set_option maxHeartbeats 40000000 in
theorem lists_short (w : World) (A : Option Addr) (l : List Int) (nl c : Nat) (S : ByteArray) (s : List UInt8) (Al : Hid AliveC) (ha : Rd w A (ivs l)) (hl : Hid (l.length = nl)) (hg1 : S.size ≤ 2000) (hg2 : nl ≤ 2000) (hL : LetAt w) (h : Laid w) (hs : Hid (S.data.toList = s)) (hsz : S.size ≤ 9223372036854775807) (hal : l.all knownB = true) (hlong : ¬ 1024 < nl) :
    Calls Tryd.prog 7 #[.slice A nl c, .string S] w fun e w' => e = .returned (.bool true) ∧ Keep NoB w w' := by
  have hnl : nl ≤ 9223372036854775807 := by omega
  have hzl : Hid ((zs l).length = nl) := by show _ = _; unfold zs; rw [List.length_map, hl.out]
  have HT := Lib.hid (fun W (hW : LetAt W) (hr : Rd W A (ivs l)) => text_any A l nl c W hW hr hl hnl)
  have hun := untxt_txt (l := l) (by rw [hl.out]; omega) hal
  have hyN : tN (txt l) = nl := by unfold tN; rw [hun, Option.isSome_some, if_pos rfl, txt_length (by rw [hl.out]; omega) hal, hl.out]
  have hyL : tL (txt l) = l := by unfold tL; rw [hun]; rfl
  have hyE : tE (txt l) = 0 := by unfold tE; rw [hun]; rfl
  obtain ⟨X, hX⟩ : ∃ X, str (txt l) = X := ⟨_, rfl⟩
  have hXs : X.size = nl := by rw [← hX, size_of (s := txt l) (by simp), txt_length (by rw [hl.out]; omega) hal, hl.out]
  have hXd : Hid (X.data.toList = txt l) := by show _ = _; rw [← hX]
  have HY := Lib.hid (fun W (hW : LetAt W) => types_any X (txt l) W hW hXd (by omega))
  rw [hX] at HT
  clear hX hun
  cases hU : untxt s with
  | none =>
    have e1 : tN s = 0 := by unfold tN; rw [hU]; rfl
    have e3 : tE s = 20 := by unfold tE; rw [hU]; rfl
    go_enter Tryd.func7, Tryd.ntmps7
    go_wp2_with fail
    refine (Al.out _ hL h).mono ?_
    rintro e w1 ⟨rfl, hk1⟩
    go_wp2_with fail
    refine (great_no S A none nl 0 c 0 _ hg1 hg2 (by decide)).mono ?_
    rintro e w' ⟨rfl, rfl⟩
    go_wp2_with fail
    refine (types_any S s _ (hL.keep hk1) hs hsz).mono ?_
    rintro e w2 ⟨B, d, rfl, -, hK2⟩
    rw [e1, e3]
    have hk2 := keepN hk1 hK2
    clear e1 e3
    go_wp2_with fail
    refine (zeros_any A l nl c _ (ha.keepN hk2) hl (by omega)).mono ?_
    rintro e w3 ⟨hK3, ⟨-, Z, z, rfl, hO3⟩ | hz⟩
    rotate_left
    · exact absurd hz.1 (by rw [hal]; decide)
    obtain ⟨_, _, eZ, -, -, hZ, -⟩ := hO3.form
    cases eZ
    have hk3 := keepN hk2 hK3
    go_wp2_with fail
    refine (fits_any A Z l (zs l) nl nl c z _ (ha.keepN hk3) hZ hl hzl hnl hnl true (by show _ = _; rw [fits_zs hal])).mono ?_
    rintro e w4 ⟨rfl, hK4⟩
    have hk4 := keepN hk3 hK4
    go_wp2_with fail
    refine (of_any Z (zs l) nl z _ (hZ.keepN hK4) hzl (by omega)).mono ?_
    rintro e w5 ⟨hK5, O, o, rfl, hO5⟩
    obtain ⟨_, _, eO, -, -, hR5, -⟩ := hO5.form
    cases eO
    rw [ts_zs] at hR5
    have hk5 := keepN hk4 hK5
    go_wp2_with fail
    refine (ints_any O A l l nl nl o c _ hR5 (ha.keepN hk5) hl hl hnl hnl true (by show _ = _; simp)).mono ?_
    rintro e w6 ⟨rfl, hK6⟩
    have hk6 := keepN hk5 hK6
    have hZ6 := hZ.keepN (keepN (keepN hK4 hK5) hK6)
    have ha6 := ha.keepN hk6
    have hL6 := hL.keep hk6
    clear hO3 hO5 hR5 hZ hK3 hK4 hK5 hK6 hk2 hk3 hk4 hk5 hk1 hs
    go_wp2_with fail
    go_loopw [67] (fun i wr => ∃ k : Nat, k ≤ nl ∧ i = .int .i64 k ∧ Keep NoB w6 wr) (fun i _ => nl - (intOf i).toNat)
    case atStart => exact ⟨0, Nat.zero_le _, rfl, Keep.refl _ _⟩
    case round =>
      obtain ⟨k, hk, rfl, hK7⟩ := hrel
      by_cases hlt : k < nl
      · have hkz : k < (zs l).length := by rw [hzl.out]; exact hlt
        have hkl : k < l.length := by rw [hl.out]; exact hlt
        obtain ⟨gZ, oZ, rfl, qZ⟩ := rdV_at hZ6 (by omega)
        have e0 := hK7.cell (qZ k hkz).1 id
        have e1 := hK7.cell (qZ k hkz).2 id
        have hkn : knownB l[k] = true := List.all_eq_true.1 hal _ (List.getElem_mem hkl)
        have hz0 : (zs l)[k] = (l[k], 0) := by simp [zs]
        rw [hz0] at e0 e1
        dsimp only at e0 e1
        generalize l[k] = t at e0 e1 hkn
        clear qZ hz0 hZ6
        by_cases ht : t = 1
        · subst ht
          clear hkn
          go_wp2
          have hb := Blk.new wr 35 #[.int .i64 1, .int .i64 0]
          have hka := (Keep.refl NoB wr).alloc (.cells #[.int .i64 1, .int .i64 0] 35)
          generalize wr.alloc (.cells #[.int .i64 1, .int .i64 0] 35) = wa at hb hka ⊢
          have hd0 := (Keep.refl NoB wa).drew
          have HQ : Hid (∀ w', Keep NoB wa w' → w'.cell? ⟨wr.heap.size, 0, none⟩ = some (.int .i64 1) ∧ w'.cell? ⟨wr.heap.size, 1, none⟩ = some (.int .i64 0)) := fun w' hk' => ⟨(hb.keep hk' id).cell 0, (hb.keep hk' id).cell 1⟩
          first
            | (go_region_held (fun w' => w'.cell? ⟨wr.heap.size, 0, none⟩ = some (.int .i64 1) ∧ w'.cell? ⟨wr.heap.size, 1, none⟩ = some (.int .i64 0))
                (first | exact HQ.out _ hd0 | exact HQ.out _ g1)
                (first | (go_at_call 27; refine (nil_one _).mono ?_; rintro e v1 ⟨rfl, g1'⟩; have g1 := keepN hd0 g1')))
            | fail
          all_goals go_wp2
          all_goals go_roundw
          case rel => exact ⟨k + 1, by omega, by go_num, keepN hK7 (keepN hka g1)⟩
          case measure => simp [intOf]; omega
        · have hq1 : (t == 1) = false := by rw [beq_eq_false_iff_ne]; exact ht
          have HN := Lib.hid (fun W => nil_more t hkn ht W)
          clear hkn ht
          go_wp2
          have hb := Blk.new wr 35 #[.int .i64 t, .int .i64 0]
          have hka := (Keep.refl NoB wr).alloc (.cells #[.int .i64 t, .int .i64 0] 35)
          generalize wr.alloc (.cells #[.int .i64 t, .int .i64 0] 35) = wa at hb hka ⊢
          have hd0 := (Keep.refl NoB wa).drew
          have HQ : Hid (∀ w', Keep NoB wa w' → w'.cell? ⟨wr.heap.size, 0, none⟩ = some (.int .i64 t) ∧ w'.cell? ⟨wr.heap.size, 1, none⟩ = some (.int .i64 0)) := fun w' hk' => ⟨(hb.keep hk' id).cell 0, (hb.keep hk' id).cell 1⟩
          first
            | (go_region_held (fun w' => w'.cell? ⟨wr.heap.size, 0, none⟩ = some (.int .i64 t) ∧ w'.cell? ⟨wr.heap.size, 1, none⟩ = some (.int .i64 0))
                (first | exact HQ.out _ hd0 | exact HQ.out _ g1)
                (first | (go_at_call 27; refine (HN.out _).mono ?_; rintro e v1 ⟨rfl, g1'⟩; have g1 := keepN hd0 g1')))
            | fail
          all_goals go_wp2
          all_goals go_roundw
          case rel => exact ⟨k + 1, by omega, by go_num, keepN hK7 (keepN hka g1)⟩
          case measure => simp [intOf]; omega
      · have hk7 := keepN hk6 hK7
        have ha7 := ha6.keepN hK7
        have hL7 := hL6.keep hK7
        go_wp2_with fail
        refine (HT.out _ hL7 ha7).mono ?_
        rintro e w8 ⟨rfl, hK8⟩
        have hk8 := keepN hk7 hK8
        go_wp2_with fail
        refine (HY.out _ (hL7.keep hK8)).mono ?_
        rintro e w9 ⟨D, dd, rfl, hO9, hK9⟩
        rw [hyN, hyE]
        rw [hyN, hyL] at hO9
        obtain ⟨_, _, eD, -, -, hR9, -⟩ := hO9.form
        cases eD
        have hk9 := keepN hk8 hK9
        have ha9 := ha7.keepN (keepN hK8 hK9)
        have hL9 := (hL7.keep hK8).keep hK9
        clear hO9
        go_wp2_with fail
        refine (ints_any D A l l nl nl dd c _ hR9 ha9 hl hl hnl hnl true (by show _ = _; simp)).mono ?_
        rintro e w10 ⟨rfl, hK10⟩
        go_wp2_with fail
        refine (HT.out _ (hL9.keep hK10) (ha9.keepN hK10)).mono ?_
        rintro e w11 ⟨rfl, hK11⟩
        go_wp2
        go_ret
        exact ⟨rfl, keepN (keepN hk9 hK10) hK11⟩
  | some m =>
    have e3 : tE s = 0 := by unfold tE; rw [hU]; rfl
    have hmn : tN s ≤ 2000 := by unfold tN; have := size_of hs.out; split <;> omega
    have htx : txt (tL s) = s := by rw [show tL s = m by unfold tL; rw [hU]; rfl]; exact txt_untxt hU
    have hml : Hid ((tL s).length = tN s) := tL_length s
    have hq : (s == S.toList) = true := by rw [ByteArray.toList_eq, hs.out, beq_self_eq_true]
    go_enter Tryd.func7, Tryd.ntmps7
    go_wp2_with fail
    refine (Al.out _ hL h).mono ?_
    rintro e w1 ⟨rfl, hk1⟩
    go_wp2_with fail
    refine (great_no S A none nl 0 c 0 _ hg1 hg2 (by decide)).mono ?_
    rintro e w' ⟨rfl, rfl⟩
    go_wp2_with fail
    refine (types_any S s _ (hL.keep hk1) hs hsz).mono ?_
    rintro e w2 ⟨B, d, rfl, hO2, hK2⟩
    rw [e3]
    obtain ⟨_, _, eB, -, -, hR2, -⟩ := hO2.form
    cases eB
    have HB := text_any B (tL s) (tN s) d _ ((hL.keep hk1).keep hK2) hR2 hml (by omega)
    rw [htx] at HB
    have HB := Lib.hid HB
    generalize tN s = nm at HB hmn ⊢
    clear htx hml hO2 hR2 e3
    go_wp2_with fail
    refine HB.out.mono ?_
    rintro e w2' ⟨rfl, hK2'⟩
    have hk2 := keepN (keepN hk1 hK2) hK2'
    clear HB
    go_wp2_with fail
    refine (zeros_any A l nl c _ (ha.keepN hk2) hl (by omega)).mono ?_
    rintro e w3 ⟨hK3, ⟨-, Z, z, rfl, hO3⟩ | hz⟩
    rotate_left
    · exact absurd hz.1 (by rw [hal]; decide)
    obtain ⟨_, _, eZ, -, -, hZ, -⟩ := hO3.form
    cases eZ
    have hk3 := keepN hk2 hK3
    go_wp2_with fail
    refine (fits_any A Z l (zs l) nl nl c z _ (ha.keepN hk3) hZ hl hzl hnl hnl true (by show _ = _; rw [fits_zs hal])).mono ?_
    rintro e w4 ⟨rfl, hK4⟩
    have hk4 := keepN hk3 hK4
    go_wp2_with fail
    refine (of_any Z (zs l) nl z _ (hZ.keepN hK4) hzl (by omega)).mono ?_
    rintro e w5 ⟨hK5, O, o, rfl, hO5⟩
    obtain ⟨_, _, eO, -, -, hR5, -⟩ := hO5.form
    cases eO
    rw [ts_zs] at hR5
    have hk5 := keepN hk4 hK5
    go_wp2_with fail
    refine (ints_any O A l l nl nl o c _ hR5 (ha.keepN hk5) hl hl hnl hnl true (by show _ = _; simp)).mono ?_
    rintro e w6 ⟨rfl, hK6⟩
    have hk6 := keepN hk5 hK6
    have hZ6 := hZ.keepN (keepN (keepN hK4 hK5) hK6)
    have ha6 := ha.keepN hk6
    have hL6 := hL.keep hk6
    clear hO3 hO5 hR5 hZ hK3 hK4 hK5 hK6 hk2 hk3 hk4 hk5 hk1 hs
    go_wp2_with fail
    go_loopw [67] (fun i wr => ∃ k : Nat, k ≤ nl ∧ i = .int .i64 k ∧ Keep NoB w6 wr) (fun i _ => nl - (intOf i).toNat)
    case atStart => exact ⟨0, Nat.zero_le _, rfl, Keep.refl _ _⟩
    case round =>
      obtain ⟨k, hk, rfl, hK7⟩ := hrel
      by_cases hlt : k < nl
      · have hkz : k < (zs l).length := by rw [hzl.out]; exact hlt
        have hkl : k < l.length := by rw [hl.out]; exact hlt
        obtain ⟨gZ, oZ, rfl, qZ⟩ := rdV_at hZ6 (by omega)
        have e0 := hK7.cell (qZ k hkz).1 id
        have e1 := hK7.cell (qZ k hkz).2 id
        have hkn : knownB l[k] = true := List.all_eq_true.1 hal _ (List.getElem_mem hkl)
        have hz0 : (zs l)[k] = (l[k], 0) := by simp [zs]
        rw [hz0] at e0 e1
        dsimp only at e0 e1
        generalize l[k] = t at e0 e1 hkn
        clear qZ hz0 hZ6
        by_cases ht : t = 1
        · subst ht
          clear hkn
          go_wp2
          have hb := Blk.new wr 35 #[.int .i64 1, .int .i64 0]
          have hka := (Keep.refl NoB wr).alloc (.cells #[.int .i64 1, .int .i64 0] 35)
          generalize wr.alloc (.cells #[.int .i64 1, .int .i64 0] 35) = wa at hb hka ⊢
          have hd0 := (Keep.refl NoB wa).drew
          have HQ : Hid (∀ w', Keep NoB wa w' → w'.cell? ⟨wr.heap.size, 0, none⟩ = some (.int .i64 1) ∧ w'.cell? ⟨wr.heap.size, 1, none⟩ = some (.int .i64 0)) := fun w' hk' => ⟨(hb.keep hk' id).cell 0, (hb.keep hk' id).cell 1⟩
          first
            | (go_region_held (fun w' => w'.cell? ⟨wr.heap.size, 0, none⟩ = some (.int .i64 1) ∧ w'.cell? ⟨wr.heap.size, 1, none⟩ = some (.int .i64 0))
                (first | exact HQ.out _ hd0 | exact HQ.out _ g1)
                (first | (go_at_call 27; refine (nil_one _).mono ?_; rintro e v1 ⟨rfl, g1'⟩; have g1 := keepN hd0 g1')))
            | fail
          all_goals go_wp2
          all_goals go_roundw
          case rel => exact ⟨k + 1, by omega, by go_num, keepN hK7 (keepN hka g1)⟩
          case measure => simp [intOf]; omega
        · have hq1 : (t == 1) = false := by rw [beq_eq_false_iff_ne]; exact ht
          have HN := Lib.hid (fun W => nil_more t hkn ht W)
          clear hkn ht
          go_wp2
          have hb := Blk.new wr 35 #[.int .i64 t, .int .i64 0]
          have hka := (Keep.refl NoB wr).alloc (.cells #[.int .i64 t, .int .i64 0] 35)
          generalize wr.alloc (.cells #[.int .i64 t, .int .i64 0] 35) = wa at hb hka ⊢
          have hd0 := (Keep.refl NoB wa).drew
          have HQ : Hid (∀ w', Keep NoB wa w' → w'.cell? ⟨wr.heap.size, 0, none⟩ = some (.int .i64 t) ∧ w'.cell? ⟨wr.heap.size, 1, none⟩ = some (.int .i64 0)) := fun w' hk' => ⟨(hb.keep hk' id).cell 0, (hb.keep hk' id).cell 1⟩
          first
            | (go_region_held (fun w' => w'.cell? ⟨wr.heap.size, 0, none⟩ = some (.int .i64 t) ∧ w'.cell? ⟨wr.heap.size, 1, none⟩ = some (.int .i64 0))
                (first | exact HQ.out _ hd0 | exact HQ.out _ g1)
                (first | (go_at_call 27; refine (HN.out _).mono ?_; rintro e v1 ⟨rfl, g1'⟩; have g1 := keepN hd0 g1')))
            | fail
          all_goals go_wp2
          all_goals go_roundw
          case rel => exact ⟨k + 1, by omega, by go_num, keepN hK7 (keepN hka g1)⟩
          case measure => simp [intOf]; omega
      · have hk7 := keepN hk6 hK7
        have ha7 := ha6.keepN hK7
        have hL7 := hL6.keep hK7
        go_wp2_with fail
        refine (HT.out _ hL7 ha7).mono ?_
        rintro e w8 ⟨rfl, hK8⟩
        have hk8 := keepN hk7 hK8
        go_wp2_with fail
        refine (HY.out _ (hL7.keep hK8)).mono ?_
        rintro e w9 ⟨D, dd, rfl, hO9, hK9⟩
        rw [hyN, hyE]
        rw [hyN, hyL] at hO9
        obtain ⟨_, _, eD, -, -, hR9, -⟩ := hO9.form
        cases eD
        have hk9 := keepN hk8 hK9
        have ha9 := ha7.keepN (keepN hK8 hK9)
        have hL9 := (hL7.keep hK8).keep hK9
        clear hO9
        go_wp2_with fail
        refine (ints_any D A l l nl nl dd c _ hR9 ha9 hl hl hnl hnl true (by show _ = _; simp)).mono ?_
        rintro e w10 ⟨rfl, hK10⟩
        go_wp2_with fail
        refine (HT.out _ (hL9.keep hK10) (ha9.keepN hK10)).mono ?_
        rintro e w11 ⟨rfl, hK11⟩
        go_wp2
        go_ret
        exact ⟨rfl, keepN (keepN hk9 hK10) hK11⟩

theorem lists_walk (w : World) (A : Option Addr) (l : List Int) (nl c : Nat) (S : ByteArray) (Al : Hid AliveC) (ha : Rd w A (ivs l)) (hl : Hid (l.length = nl)) (hnl : nl ≤ 9223372036854775807) (hL : LetAt w) (h : Laid w) (hsz : S.size ≤ 9223372036854775807) :
    Calls Tryd.prog 7 #[.slice A nl c, .string S] w fun e w' => e = .returned (.bool true) ∧ Keep NoB w w' := by
  by_cases hg : S.size ≤ 2000 ∧ nl ≤ 2000
  · cases hal : l.all knownB
    · exact lists_bad w A l nl c S _ Al ha hl hg.1 hg.2 hL h rfl hsz hal
    · by_cases hlong : 1024 < nl
      · exact lists_long w A l nl c S _ Al ha hl hg.1 hg.2 hL h rfl hsz hal hlong
      · exact lists_short w A l nl c S _ Al ha hl hg.1 hg.2 hL h rfl hsz hal hlong
  · go_enter Tryd.func7, Tryd.ntmps7
    go_wp2_with fail
    refine (Al.out _ hL h).mono ?_
    rintro e w1 ⟨rfl, hk1⟩
    go_wp2_with fail
    refine (great_yes S A none nl 0 c 0 _ (fun h => hg ⟨h.1, h.2.1⟩) hnl (by decide) hsz).mono ?_
    rintro e w' ⟨rfl, rfl⟩
    go_wp2
    go_ret
    exact ⟨rfl, hk1⟩

end Go.Proofs.YtkhbmbkjaeaamaaDoor
