/-
  What the document's Check, Count and Head of layer code answer, and its Lists: are two lists the same? Conditions: lists lie in memory; numbers fit an int64.
  The plain mathematics of heads and stretches: which places are noted as heads, how often, and where a stretch ends. No program, no conditions.
  A range over a function that is never left ahead of its end, whose iterator brings things of which something is known in the world in which each comes (En). No program, no conditions.
  The iterator of the places that an instruction makes heads. Conditions: the instruction, and its place, lie in memory.
  A map from numbers to numbers that a call makes: what each key has. No program, no conditions.
  What headsMet of layer code answers: a map in which each place has as often as it is noted. Conditions: the list lies in memory, and is a body.
-/
import Derived.LoopIn
import Derived.LoopNIn
import Derived.Maps.Keyed
import Derived.Maps.Own
import Derived.Maps.OwnIn
import Derived.Maps.OwnOps
import Derived.Maps.OwnSet
import Derived.Maps.Views
import Derived.OwnWalkIn
import Derived.RangeFuncBound
import Derived.RangeFuncCalls
import Derived.RangeFuncLeaves
import Derived.RangeFuncNested
import Derived.Shelf.Abstract
import Derived.Shelf.RegionOpen
import Derived.TacticsInMore
import Derived.WalkArith
import Derived.WalkKit
import Derived.Test.YtonpplpfipfnfaaDoorQ4
import Derived.Test.YtonpplpfipfnfaaDoorQ3
import Derived.Test.YtonpplpfipfnfaaDoorQ2
namespace Go.Proofs.YtonpplpfipfnfaaDoor.C
open Go.RowKit O

theorem rgoes_gen (op a b to : Int) (t : Bool) (w : World) (h1 : goesN op a b = to) (h2 : goesI op a b = t) (ha : O.I64 a) (hb : O.I64 b) :
    Calls Tryd.prog 27 #[instV op a b] w fun e w' => e = .returned (.tuple #[.int .i64 to, .bool t]) ∧ Keep NoB w w' := by subst h1 h2; exact rgoes_any op a b w ha hb
theorem rends_gen (op a b : Int) (t : Bool) (w : World) (h : endsI op a b = t) (ha : O.I64 a) (hb : O.I64 b) :
    Calls Tryd.prog 29 #[instV op a b] w fun e w' => e = .returned (.bool t) ∧ Keep NoB w w' := by subst h; exact rends_any op a b w ha hb
/-- The numbers of a list fit. -/
def AllI (l : List I3) : Prop := ∀ x ∈ l, O.I64 x.2.1 ∧ O.I64 x.2.2

set_option maxRecDepth 100000 in
set_option maxHeartbeats 4000000 in
theorem rcchk_any (A : Option Addr) (l : List I3) (n c : Nat) (w : World) (hr : Rd w A (iis l)) (hn : Hid (l.length = n)) (hI : Hid (AllI l)) (hm : n ≤ 9223372036854775807) (R : Int) (hR : Hid (chkB l = R)) :
    Calls Tryd.prog 17 #[.slice A n c] w fun e w' => e = .returned (.int .i64 R) ∧ Keep NoB w w' := by
  by_cases h0 : n = 0
  · subst h0
    obtain rfl : 50 = R := by rw [← hR.out, List.length_eq_zero_iff.1 hn.out]; rfl
    go_enter Tryd.func17, Tryd.ntmps17
    go_wp2
    go_ret
    exact ⟨rfl, Keep.refl _ _⟩
  by_cases h5 : 512 < n
  · obtain rfl : 50 = R := by rw [← hR.out, chkB_no (okB_long (by rw [hn.out]; omega))]
    have hq : decide ((512 : Int) < (n : Int)) = true := by rw [decide_eq_true_iff]; omega
    have hz : decide ((n : Int) < 1) = false := by rw [decide_eq_false_iff_not]; omega
    clear h5 h0
    go_enter Tryd.func17, Tryd.ntmps17
    go_wp2
    go_ret
    exact ⟨rfl, Keep.refl _ _⟩
  obtain ⟨m, rfl⟩ : ∃ m, n = m + 1 := ⟨n - 1, by omega⟩
  have hz2 : decide ((m : Int) + 1 < 1) = false := by rw [decide_eq_false_iff_not]; omega
  have hq2 : decide ((512 : Int) < (m : Int) + 1) = false := by rw [decide_eq_false_iff_not]; omega
  have hm5 : m + 1 ≤ 512 := by omega
  have hl0 : 0 < l.length := by rw [hn.out]; omega
  obtain ⟨g, off, rfl, hc⟩ := rdJ_at hr hl0
  have HC := Lib.hid hc
  clear hc hr h0 h5
  go_enter Tryd.func17, Tryd.ntmps17
  go_wp2
  go_loopw [4] (fun i wr => ∃ k : Nat, k ≤ m + 1 ∧ i = .int .i64 k ∧ Hid ((l.take k).all (itemB (m + 1)) = true) ∧ Keep NoB w wr) (fun i _ => m + 1 - (intOf i).toNat)
  case atStart => exact ⟨0, Nat.zero_le _, rfl, rfl, Keep.refl _ _⟩
  case round =>
    obtain ⟨k, hk, rfl, hall, hK⟩ := hrel
    by_cases hlt : k < m + 1
    · have hkl : k < l.length := by rw [hn.out]; exact hlt
      obtain ⟨d0, d1, d2⟩ := HC.out k hkl
      have c0 := hK.cell d0 id
      have c1 := hK.cell d1 id
      have c2 := hK.cell d2 id
      have HT := Lib.hid (show l.take (k + 1) = l.take k ++ [l[k]] from List.take_succ_eq_append_getElem hkl)
      have HN : Hid (itemB l.length l[k] = false → 50 = R) := fun h => by rw [← hR.out, chkB_no (okB_item (all_no hkl h))]
      have hab := hI.out l[k] (List.getElem_mem hkl)
      rw [hn.out] at HN
      generalize l[k] = x at d0 d1 d2 c0 c1 c2 HT HN hab
      obtain ⟨op, a, b⟩ := x
      dsimp only at d0 d1 d2 c0 c1 c2 hab
      have ha := Lib.hid hab.1
      have hb' := Lib.hid hab.2
      have HD : Hid (∀ w', Keep NoB w w' → w'.cell? ⟨g, off + k * 3, none⟩ = some (.int .i64 op) ∧ w'.cell? ⟨g, off + k * 3 + 1, none⟩ = some (.int .i64 a) ∧ w'.cell? ⟨g, off + k * 3 + 2, none⟩ = some (.int .i64 b)) := fun w' h => ⟨h.cell d0 id, h.cell d1 id, h.cell d2 id⟩
      obtain ⟨to, hto⟩ : ∃ to, goesN op a b = to := ⟨_, rfl⟩
      have hb : 0 ≤ to ∧ to ≤ 511 := by rw [← hto]; exact gN_in (op, a, b)
      obtain ⟨t, htt⟩ : ∃ t, goesI op a b = t := ⟨_, rfl⟩
      have HG := Lib.hid (fun w => rgoes_gen op a b to t w hto htt ha.out hb'.out)
      clear d0 d1 d2 hab
      cases ho : okI op a b
      · obtain rfl := HN.out (item_no1 ho)
        have HO := Lib.hid (fun w => rcheck_gen op a b 40 w (by unfold chk; rw [ho]; rfl) ha.out hb'.out)
        clear ho hto HN HT hall hR htt
        go_wp2_with fail
        refine (HG.out _).mono ?_
        rintro e w2 ⟨rfl, k2⟩
        have gK := keepN hK k2
        obtain ⟨x0, x1, x2⟩ := HD.out _ gK
        clear c0 c1 c2
        go_wp2_with (go_at_call 28; refine (HO.out _).mono ?_; rintro e w3 ⟨rfl, k3⟩)
        go_ret
        exact ⟨rfl, keepN gK k3⟩
      have HO := Lib.hid (fun w => rcheck_gen op a b 0 w (by unfold chk; rw [ho]; rfl) ha.out hb'.out)
      by_cases ht : to < ((m + 1 : Nat) : Int)
      · have ht2 : ¬ ((m : Int) + 1 ≤ to) := by omega
        have ht3 : decide ((m : Int) + 1 ≤ to) = false := by rw [decide_eq_false_iff_not]; omega
        have ha2 : Hid ((l.take (k + 1)).all (itemB (m + 1)) = true) := by
          show _ = _
          rw [HT.out, List.all_append, hall.out]
          simp only [List.all_cons, List.all_nil, Bool.and_true, Bool.true_and]
          exact item_yes ho (by show goesN op a b < _; rw [hto]; exact ht)
        clear ho hto HN HT hall hR ht htt
        cases t
        all_goals
          go_wp2_with fail
          refine (HG.out _).mono ?_
          rintro e w2 ⟨rfl, k2⟩
          have gK := keepN hK k2
          obtain ⟨x0, x1, x2⟩ := HD.out _ gK
          clear c0 c1 c2
          go_wp2_with (go_at_call 28; refine (HO.out _).mono ?_; rintro e w3 ⟨rfl, k3⟩)
          go_roundw
          case rel => exact ⟨k + 1, by omega, by go_num, ha2, keepN gK k3⟩
          case measure => simp [intOf]; omega
      · obtain rfl := HN.out (item_no2 (by show ¬ goesN op a b < _; rw [hto]; exact ht))
        have ht2 : ((m : Int) + 1 ≤ to) := by omega
        obtain rfl : t = true := by
          cases t
          · have := gN_no (x := (op, a, b)) htt
            rw [show gN (op, a, b) = to from hto] at this
            omega
          · rfl
        clear ho hto HN HT hall hR ht htt
        go_wp2_with fail
        refine (HG.out _).mono ?_
        rintro e w2 ⟨rfl, k2⟩
        have gK := keepN hK k2
        obtain ⟨x0, x1, x2⟩ := HD.out _ gK
        clear c0 c1 c2
        go_wp2_with (go_at_call 28; refine (HO.out _).mono ?_; rintro e w3 ⟨rfl, k3⟩)
        go_ret
        exact ⟨rfl, keepN gK k3⟩
    · obtain rfl : k = m + 1 := by omega
      rw [List.take_of_length_le (by rw [hn.out]; omega)] at hall
      have hml : m < l.length := by rw [hn.out]; omega
      obtain ⟨d0, d1, d2⟩ := HC.out m hml
      have c0 := hK.cell d0 id
      have c1 := hK.cell d1 id
      have c2 := hK.cell d2 id
      have hlast : Hid (lastB l = eB l[m]) := by
        show _ = _
        rw [lastB_at hl0]
        congr 2
        rw [hn.out]; omega
      have hab := hI.out l[m] (List.getElem_mem hml)
      clear d0 d1 d2 HC
      generalize l[m] = x at c0 c1 c2 hlast hab
      obtain ⟨op, a, b⟩ := x
      dsimp only at c0 c1 c2 hab
      cases he : endsI op a b
      · obtain rfl : 50 = R := by rw [← hR.out, chkB_no (okB_last (by rw [hlast.out]; exact he))]
        have HE := Lib.hid (fun w => rends_gen op a b _ w he hab.1 hab.2)
        clear he hlast hR hab hall
        go_wp2_with (go_at_call 29; refine (HE.out _).mono ?_; rintro e w1 ⟨rfl, k1⟩)
        go_ret
        exact ⟨rfl, keepN hK k1⟩
      · obtain rfl : 0 = R := by
          rw [← hR.out, chkB_ok (okB_mk (by rw [hn.out]; exact hm5) (by rw [hlast.out]; exact he) (by rw [hn.out]; exact hall.out))]
        have HE := Lib.hid (fun w => rends_gen op a b _ w he hab.1 hab.2)
        clear he hlast hR hab hall
        go_wp2_with (go_at_call 29; refine (HE.out _).mono ?_; rintro e w1 ⟨rfl, k1⟩)
        go_ret
        exact ⟨rfl, keepN hK k1⟩

set_option maxRecDepth 100000 in
set_option maxHeartbeats 2000000 in
theorem rcount_any (A : Option Addr) (l : List I3) (n c : Nat) (op : Int) (w : World) (hr : Rd w A (iis l)) (hn : Hid (l.length = n)) (hm : n ≤ 9223372036854775807) (R : Int) (hR : Hid ((cntB l op : Int) = R)) :
    Calls Tryd.prog 15 #[.slice A n c, .int .i64 op] w fun e w' => e = .returned (.int .i64 R) ∧ Keep NoB w w' := by
  go_enter Tryd.func15, Tryd.ntmps15
  go_wp2
  go_loopw [5, 6] (fun s i wr => ∃ k m : Nat, k ≤ n ∧ i = .int .i64 k ∧ s = .int .i64 m ∧ m ≤ k ∧ Hid (cntB (l.take k) op = m) ∧ Keep NoB w wr) (fun _ i _ => n - (intOf i).toNat)
  case atStart => exact ⟨0, 0, Nat.zero_le _, rfl, rfl, Nat.le_refl _, rfl, Keep.refl _ _⟩
  case round =>
    obtain ⟨k, m, hk, rfl, rfl, hmk, hc, hK⟩ := hrel
    by_cases hlt : k < n
    · have hkl : k < l.length := by rw [hn.out]; exact hlt
      obtain ⟨g, off, rfl, hc0⟩ := rdJ_at hr (by omega)
      obtain ⟨d0, _, _⟩ := hc0 k hkl
      have c0 := hK.cell d0 id
      have HT := Lib.hid (show l.take (k + 1) = l.take k ++ [l[k]] from List.take_succ_eq_append_getElem hkl)
      clear hc0 d0 hr
      generalize l[k] = x at c0 HT
      obtain ⟨o1, a, b⟩ := x
      dsimp only at c0
      cases he : (o1 == op)
      · have hc2 : Hid (cntB (l.take (k + 1)) op = m) := by show _ = _; rw [HT.out, cntB_snoc, hc.out, he]; rfl
        clear HT hc hR
        go_wp2
        go_roundw
        case rel => exact ⟨k + 1, m, by omega, by go_num, rfl, by omega, hc2, hK⟩
        case measure => simp [intOf]; omega
      · have hc2 : Hid (cntB (l.take (k + 1)) op = m + 1) := by show _ = _; rw [HT.out, cntB_snoc, hc.out, he]; rfl
        clear HT hc hR
        go_wp2
        go_roundw
        case rel => exact ⟨k + 1, m + 1, by omega, by go_num, by go_num, by omega, hc2, hK⟩
        case measure => simp [intOf]; omega
    · obtain rfl : (m : Int) = R := by
        rw [← hR.out, ← hc.out, List.take_of_length_le (by rw [hn.out]; omega)]
      clear hc hR
      go_wp2
      go_ret
      exact ⟨rfl, hK⟩

set_option maxRecDepth 100000 in
set_option maxHeartbeats 4000000 in
theorem lists_any (A B : Option Addr) (la lb : List I3) (n m c d : Nat) (w : World) (ha : Rd w A (iis la)) (hb : Rd w B (iis lb)) (hn : Hid (la.length = n)) (hm : Hid (lb.length = m))
    (h1 : n ≤ 9223372036854775807) (h2 : m ≤ 9223372036854775807) (R : Bool) (hR : Hid (R = decide (la = lb))) :
    Calls Tryd.prog 10 #[.slice A n c, .slice B m d] w fun e w' => e = .returned (.bool R) ∧ Keep NoB w w' := by
  by_cases hnm : n = m
  · subst hnm
    go_enter Tryd.func10, Tryd.ntmps10
    go_wp2
    go_loopw [5] (fun i wr => ∃ k : Nat, k ≤ n ∧ i = .int .i64 k ∧ Hid (la.take k = lb.take k) ∧ Keep NoB w wr) (fun i _ => n - (intOf i).toNat)
    case atStart => exact ⟨0, Nat.zero_le _, rfl, rfl, Keep.refl _ _⟩
    case round =>
      obtain ⟨k, hk, rfl, ht, hK⟩ := hrel
      by_cases hlt : k < n
      · have hka : k < la.length := by rw [hn.out]; exact hlt
        have hkb : k < lb.length := by rw [hm.out]; exact hlt
        obtain ⟨ga, oa, rfl, hca⟩ := rdJ_at ha (by omega)
        obtain ⟨gb, ob, rfl, hcb⟩ := rdJ_at hb (by omega)
        have ca0 := hK.cell (hca k hka).1 id
        have ca1 := hK.cell (hca k hka).2.1 id
        have ca2 := hK.cell (hca k hka).2.2 id
        have cb0 := hK.cell (hcb k hkb).1 id
        have cb1 := hK.cell (hcb k hkb).2.1 id
        have cb2 := hK.cell (hcb k hkb).2.2 id
        have HT := Lib.hid (show la.take (k + 1) = la.take k ++ [la[k]] from List.take_succ_eq_append_getElem hka)
        have HU := Lib.hid (show lb.take (k + 1) = lb.take k ++ [lb[k]] from List.take_succ_eq_append_getElem hkb)
        clear hca hcb
        by_cases he : la[k] = lb[k]
        · have HV : Hid (la.take (k + 1) = lb.take (k + 1)) := by show _ = _; rw [HT.out, HU.out, ht.out, he]
          rw [he] at ca0 ca1 ca2
          clear he HT HU ha hb
          generalize lb[k] = y at ca0 ca1 ca2 cb0 cb1 cb2
          obtain ⟨y0, y1, y2⟩ := y
          dsimp only at ca0 ca1 ca2 cb0 cb1 cb2
          go_wp2
          go_quiet (fail)
          go_wp2
          go_roundw
          case rel => exact ⟨k + 1, by omega, by go_num, HV, hK.drewN _⟩
          case measure => simp [intOf]; omega
        · have hf : R = false := by
            rw [hR.out, decide_eq_false_iff_not]
            intro e
            exact he (by simp [e])
          subst hf
          clear HT HU ha hb
          generalize la[k] = x at ca0 ca1 ca2 he
          generalize lb[k] = y at cb0 cb1 cb2 he
          obtain ⟨x0, x1, x2⟩ := x
          obtain ⟨y0, y1, y2⟩ := y
          dsimp only at ca0 ca1 ca2 cb0 cb1 cb2
          by_cases h0 : x0 = y0
          · subst h0
            by_cases h3 : x1 = y1
            · subst h3
              have hne : (x2 == y2) = false := by rw [beq_eq_false_iff_ne]; rintro rfl; exact he rfl
              clear he
              go_wp2
              go_quiet (fail)
              go_wp2
              go_ret
              exact ⟨rfl, hK.drewN _⟩
            · have hne : (x1 == y1) = false := by rw [beq_eq_false_iff_ne]; exact h3
              clear he h3
              go_wp2
              go_quiet (fail)
              go_wp2
              go_ret
              exact ⟨rfl, hK.drewN _⟩
          · have hne : (x0 == y0) = false := by rw [beq_eq_false_iff_ne]; exact h0
            clear he h0
            go_wp2
            go_quiet (fail)
            go_wp2
            go_ret
            exact ⟨rfl, hK.drewN _⟩
      · have hf : R = true := by
          rw [hR.out, decide_eq_true_iff]
          have e1 := ht.out
          rwa [List.take_of_length_le (by rw [hn.out]; omega), List.take_of_length_le (by rw [hm.out]; omega)] at e1
        subst hf
        go_wp2
        go_ret
        exact ⟨rfl, hK⟩
  · have hf : R = false := by
      rw [hR.out, decide_eq_false_iff_not]
      intro e
      exact hnm (by rw [← hn.out, ← hm.out, e])
    subst hf
    have hne : ((n : Int) != (m : Int)) = true := by rw [bne_iff_ne]; omega
    clear hnm
    go_enter Tryd.func10, Tryd.ntmps10
    go_wp2
    go_ret
    exact ⟨rfl, Keep.refl _ _⟩

end Go.Proofs.YtonpplpfipfnfaaDoor.C

namespace Go.Proofs.YtonpplpfipfnfaaDoor.C
open Go.RowKit O

/-- The places that an instruction at a place makes heads, of those that there are. -/
def madeL (n : Nat) (x : I3) (k : Nat) : List Int := (if gB x = true then [gN x] else []) ++ (if (gB x || eB x) = true ∧ k + 1 < n then [((k + 1 : Nat) : Int)] else [])
/-- How often a place is noted. -/
def metN (l : List I3) : Nat → Int → Nat
  | 0, h => if h = 0 then 1 else 0
  | k + 1, h => metN l k h + (madeL l.length (at0 l k) k).count h
theorem madeL_len (n : Nat) (x : I3) (k : Nat) : (madeL n x k).length ≤ 2 := by
  unfold madeL
  rw [List.length_append]
  have h1 : (if gB x = true then [gN x] else []).length ≤ 1 := by split <;> simp
  have h2 : (if (gB x || eB x) = true ∧ k + 1 < n then [((k + 1 : Nat) : Int)] else []).length ≤ 1 := by split <;> simp
  omega
theorem metN_le (l : List I3) (k : Nat) (h : Int) : metN l k h ≤ 1 + 2 * k := by
  induction k with
  | zero => unfold metN; split <;> omega
  | succ k ih =>
    unfold metN
    have h1 := madeL_len l.length (at0 l k) k
    have h2 := List.count_le_length (a := h) (l := madeL l.length (at0 l k) k)
    omega
theorem metN_pos (l : List I3) (k : Nat) (h : Int) : 0 < metN l k h ↔ h = 0 ∨ ∃ j, j < k ∧ h ∈ madeL l.length (at0 l j) j := by
  induction k with
  | zero =>
    unfold metN
    constructor
    · intro hp; by_cases e : h = 0
      · exact .inl e
      · rw [if_neg e] at hp; omega
    · rintro (e | ⟨j, hj, _⟩)
      · rw [if_pos e]; omega
      · omega
  | succ k ih =>
    unfold metN
    constructor
    · intro hp
      by_cases h1 : 0 < metN l k h
      · rcases ih.1 h1 with e | ⟨j, hj, hm⟩
        · exact .inl e
        · exact .inr ⟨j, by omega, hm⟩
      · exact .inr ⟨k, by omega, List.count_pos_iff.1 (by omega)⟩
    · rintro (e | ⟨j, hj, hm⟩)
      · have := ih.2 (.inl e); omega
      · by_cases e : j = k
        · subst e; have := List.count_pos_iff.2 hm; omega
        · have := ih.2 (.inr ⟨j, by omega, hm⟩); omega
theorem met_head {l : List I3} {i : Nat} (hi : i < l.length) : decide (0 < metN l l.length (i : Int)) = headB l i := by
  rw [Bool.eq_iff_iff, decide_eq_true_iff, metN_pos]
  unfold headB
  simp only [Bool.or_eq_true, decide_eq_true_eq, List.any_eq_true, Bool.and_eq_true]
  constructor
  · rintro (e | ⟨j, hj, hm⟩)
    · exact .inl (.inl (.inl (by omega)))
    · unfold madeL at hm
      rcases List.mem_append.1 hm with h | h
      · split at h
        · next hg => exact .inr ⟨at0 l j, by rw [at0_of hj]; exact List.getElem_mem hj, hg, (List.mem_singleton.1 h).symm⟩
        · simp at h
      · split at h
        · next hg =>
          have e := List.mem_singleton.1 h
          obtain rfl : i = j + 1 := by omega
          rw [Nat.add_sub_cancel]
          rcases Bool.or_eq_true_iff.1 hg.1 with h1 | h1
          · exact .inl (.inr h1)
          · exact .inl (.inl (.inr h1))
        · simp at h
  · have made : ∀ j, j + 1 = i → (gB (at0 l j) || eB (at0 l j)) = true → (i : Int) ∈ madeL l.length (at0 l j) j := by
      intro j hj hg
      unfold madeL
      refine List.mem_append.2 (.inr ?_)
      rw [if_pos ⟨hg, by omega⟩, hj]
      simp
    by_cases h0 : i = 0
    · exact fun _ => .inl (by omega)
    rintro (((e | e) | e) | ⟨x, hx, hg, hn⟩)
    · exact absurd e h0
    · exact .inr ⟨i - 1, by omega, made _ (by omega) (by rw [e]; simp)⟩
    · exact .inr ⟨i - 1, by omega, made _ (by omega) (by rw [e]; simp)⟩
    · obtain ⟨j, hj, rfl⟩ := List.mem_iff_getElem.1 hx
      refine .inr ⟨j, hj, ?_⟩
      rw [at0_of hj]
      unfold madeL
      refine List.mem_append.2 (.inl ?_)
      rw [if_pos hg, hn]; simp

theorem range_filter_snoc (p : Nat → Bool) (k : Nat) : (List.range (k + 1)).filter p = (List.range k).filter p ++ if p k = true then [k] else [] := by
  rw [List.range_succ, List.filter_append]
  cases h : p k <;> simp [h]

/-- Heads as numbers. -/
def hzs (l : List I3) : List Int := (headsL l).map fun i : Nat => (i : Int)
theorem heads_mem {l : List I3} {i : Nat} : i ∈ headsL l ↔ i < l.length ∧ headB l i = true := by
  unfold headsL; rw [List.mem_filter, List.mem_range]
theorem hzs_sorted (l : List I3) : (hzs l).Pairwise (· ≤ ·) := by
  unfold hzs
  rw [List.pairwise_map]
  refine List.Pairwise.imp (R := (· < ·)) (fun {a b} h => by omega) ?_
  exact List.Pairwise.filter _ List.pairwise_lt_range
theorem hzs_length_le (l : List I3) : (hzs l).length ≤ l.length := by
  unfold hzs headsL
  rw [List.length_map]
  exact Nat.le_trans (List.length_filter_le _ _) (by simp)
theorem hzs_contains {l : List I3} (x : Int) : (hzs l).contains x = true ↔ ∃ h : Nat, x = (h : Int) ∧ h < l.length ∧ headB l h = true := by
  unfold hzs
  rw [List.contains_iff_mem, List.mem_map]
  constructor
  · rintro ⟨a, ha, e⟩; exact ⟨a, e.symm, heads_mem.1 ha⟩
  · rintro ⟨h, e, hm⟩; exact ⟨h, heads_mem.2 hm, e.symm⟩
theorem heads_split {l : List I3} {h : Nat} (hn : h < l.length) (hh : headB l h = true) :
    headsL l = (List.range h).filter (headB l) ++ h :: (List.range' (h + 1) (l.length - (h + 1))).filter (headB l) := by
  unfold headsL
  have e : List.range l.length = List.range h ++ h :: List.range' (h + 1) (l.length - (h + 1)) := by
    rw [List.range_eq_range', List.range_eq_range', show l.length = h + (1 + (l.length - (h + 1))) by omega, ← List.range'_append_1, Nat.zero_add]
    congr 1
    rw [show h + (1 + (l.length - (h + 1))) - (h + 1) = l.length - (h + 1) by omega, Nat.add_comm 1, List.range'_succ]
  rw [e, List.filter_append, List.filter_cons, if_pos hh]
theorem stretch_at {l : List I3} {h : Nat} (hn : h < l.length) (hh : headB l h = true) (i : Nat) (hi : (hzs l).countP (fun y => decide (y < (h : Int))) = i) :
    i < (hzs l).length ∧ ((hzs l).length = i + 1 → nextH l h = l.length) ∧ ∀ hlt : i + 1 < (hzs l).length, (hzs l)[i + 1] = (nextH l h : Int) := by
  have hs := heads_split hn hh
  have hz : hzs l = ((List.range h).filter (headB l)).map (fun i : Nat => (i : Int)) ++ (h : Int) :: ((List.range' (h + 1) (l.length - (h + 1))).filter (headB l)).map (fun i : Nat => (i : Int)) := by
    unfold hzs; rw [hs]; simp
  have hc : (hzs l).countP (fun y => decide (y < (h : Int))) = ((List.range h).filter (headB l)).length := by
    rw [hz, List.countP_append, List.countP_cons]
    have h1 : (((List.range h).filter (headB l)).map (fun i : Nat => (i : Int))).countP (fun y => decide (y < (h : Int))) = ((List.range h).filter (headB l)).length := by
      rw [List.countP_eq_length.2]
      · simp
      · intro a ha
        obtain ⟨b, hb, rfl⟩ := List.mem_map.1 ha
        have := List.mem_range.1 (List.mem_filter.1 hb).1
        simp; omega
    have h2 : (((List.range' (h + 1) (l.length - (h + 1))).filter (headB l)).map (fun i : Nat => (i : Int))).countP (fun y => decide (y < (h : Int))) = 0 := by
      rw [List.countP_eq_zero]
      intro a ha
      obtain ⟨b, hb, rfl⟩ := List.mem_map.1 ha
      have := List.mem_range'_1.1 (List.mem_filter.1 hb).1
      simp; omega
    rw [h1, h2]; simp
  rw [hc] at hi
  have hl : (hzs l).length = i + 1 + ((List.range' (h + 1) (l.length - (h + 1))).filter (headB l)).length := by
    rw [hz]; simp [hi]; omega
  refine ⟨by omega, fun e => ?_, fun hlt => ?_⟩
  · have h0 : (List.range' (h + 1) (l.length - (h + 1))).filter (headB l) = [] := List.length_eq_zero_iff.1 (by omega)
    unfold nextH
    rw [← List.head?_filter, h0]; rfl
  · have h0 : 0 < ((List.range' (h + 1) (l.length - (h + 1))).filter (headB l)).length := by omega
    have e : (hzs l)[i + 1]? = some (nextH l h : Int) := by
      rw [hz, List.getElem?_append_right (by simp; omega)]
      simp only [List.length_map, hi]
      rw [show i + 1 - i = 0 + 1 by omega, List.getElem?_cons_succ, List.getElem?_map]
      unfold nextH
      rw [← List.head?_filter]
      cases hf : (List.range' (h + 1) (l.length - (h + 1))).filter (headB l) with
      | nil => rw [hf] at h0; simp at h0
      | cons a t => simp
    exact Option.some.inj ((List.getElem?_eq_getElem hlt).symm.trans e)

/-- The place behind a stretch's last one, told by what lies between. -/
theorem nextH_of {l : List I3} {h to : Nat} (h1 : h < to) (h2 : to ≤ l.length) (hb : ∀ j, h < j → j < to → headB l j = false) (he : to = l.length ∨ headB l to = true) : nextH l h = to := by
  unfold nextH
  have hsp : List.range' (h + 1) (l.length - (h + 1)) = List.range' (h + 1) (to - (h + 1)) ++ List.range' to (l.length - to) := by
    rw [show l.length - (h + 1) = (to - (h + 1)) + (l.length - to) by omega, ← List.range'_append_1, show h + 1 + (to - (h + 1)) = to by omega]
  have hno : (List.range' (h + 1) (to - (h + 1))).find? (headB l) = none := by
    rw [List.find?_eq_none]
    intro a ha
    have := List.mem_range'_1.1 ha
    rw [hb a (by omega) (by omega)]; decide
  rw [hsp, List.find?_append, hno, Option.none_or]
  rcases he with e | e
  · rw [e, Nat.sub_self]; simp
  · by_cases ht : to = l.length
    · rw [ht, Nat.sub_self]; simp
    · rw [show l.length - to = (l.length - to - 1) + 1 by omega, List.range'_succ, List.find?_cons_of_pos e]; rfl
theorem nextH_spec {l : List I3} {h : Nat} (hn : h < l.length) : h < nextH l h ∧ nextH l h ≤ l.length ∧ (∀ j, h < j → j < nextH l h → headB l j = false) ∧ (nextH l h = l.length ∨ (nextH l h < l.length ∧ headB l (nextH l h) = true)) := by
  unfold nextH
  cases hf : (List.range' (h + 1) (l.length - (h + 1))).find? (headB l) with
  | none =>
    simp only [Option.getD_none]
    refine ⟨hn, Nat.le_refl _, fun j h1 h2 => ?_, .inl (by trivial)⟩
    have := List.find?_eq_none.1 hf j (List.mem_range'_1.2 ⟨by omega, by omega⟩)
    simpa using this
  | some t =>
    simp only [Option.getD_some]
    have hm := List.mem_range'_1.1 (List.mem_of_find?_eq_some hf)
    refine ⟨by omega, by omega, fun j h1 h2 => ?_, .inr ⟨by omega, List.find?_some hf⟩⟩
    have hs := List.find?_range'_eq_some.1 hf
    have := hs.2.2 j (by omega) h2
    simpa using this

end Go.Proofs.YtonpplpfipfnfaaDoor.C

namespace Go.Proofs.YtonpplpfipfnfaaDoor
open Go.RowKit Go.Shelf

section
variable {P : Program} {n : Nat}

theorem Keep.grows {W W' : World} (h : Keep NoB W W') : W.grownBy W' none := ⟨h.os, h.tape, h.output, h.size, fun k hk _ => h.block k hk id⟩
theorem ownFrom_keeps {β : Type} {B : Nat} {I : β → World → Prop} (hI : OwnFrom B I) {s : β} {W W' : World} (h : I s W) (hk : Keep NoB W W') : I s W' := hI s W W' none h hk.grows (fun r e => by cases e)
theorem keepsFrom_keep {B : Nat} {W W' : World} (hk : Keep NoB W W') : KeepsFrom B W W' := ⟨hk.size, fun k _ _ h _ => (hk.block k (Array.getElem?_eq_some_iff.1 h).1 id).trans h⟩

/-- One round, out of the walks of the assignments and of the body, if the body comes to its end. -/
theorem yieldAt_end {L m : Nat} {r : Loop} {args : Array Value} {W : World} {R : World → Prop} (hl : W.heap[L]? = some (.loop r)) (hr : r.state = .ready) (hp : r.pending = none) (hs : args.size = r.params.size)
    (h : r.assign.wpIn (Fence.wide.inRound L) m P (Exit.then (fun a₁ W₁ => W₁.heap[L]? = some (.loop r) ∧
        r.body.wpIn (Fence.wide.inRound L) m P (fun e _ W₃ => e = .normal ∧ W₃.heap[L]? = some (.loop { r with state := .busy }) ∧ R (W₃.putObj L (.loop r))) a₁ (W₁.putObj L (.loop { r with state := .busy })))
        (fun _ _ _ => False)) { tmps := (r.params.zip args).foldl (fun t (p, v) => t.setIfInBounds p v) r.tmps, defers := [] } W) :
    YieldAt Fence.wide m P L args W fun e W' => e = .returned (.bool true) ∧ R W' := by
  refine ⟨r.fn, _, r.assign, r.body, run_yield hl hs, roundIn_of_wpIn trivial (wpIn_mono h ?_)⟩
  intro e a₁ W₁ hq
  cases e with
  | normal =>
    obtain ⟨h1, h2⟩ := hq
    refine ⟨_, run_beginRound h1 hr, wpIn_mono h2 ?_⟩
    rintro e₃ a₃ W₃ ⟨rfl, h3, h4⟩
    refine ⟨_, _, run_endRound none h3, rfl, ?_⟩
    have hb : ({ r with state := .busy } : Loop) = { r with state := .busy } := rfl
    have he : ({ ({ r with state := .busy } : Loop) with state := if (none : Option Code).isNone then LoopState.ready else .done, pending := none } : Loop) = r := by
      cases r; simp_all
    rw [he]; exact h4
  | exit id => exact hq
  | goto t => exact hq
  | ret => exact hq
  | panic c => exact hq
  | outgrown => exact hq

/-- What is asked of the iterator. -/
def Brings {α : Type} (P : Program) (m k : Nat) (gf : Nat) (lb : Array Value) (encs : α → Array Value) (I : List α → World → Prop) (En : List α → α → World → Prop) (S : List α → Prop) : Prop :=
  ∀ (L : Nat) (J : List α → World → Prop), (∀ pre W W', J pre W → Keep NoB W W' → J pre W') → (∀ pre W, J pre W → I pre W) →
    (∀ pre x W, J pre W → En pre x W → YieldAt Fence.wide m P L (encs x) W fun e W' => e = .returned (.bool true) ∧ J (pre ++ [x]) W') →
    ∀ W, J [] W → CallsIn Fence.wide k P gf (#[.func (.yield L) #[] #[]] ++ lb) W fun e W' => (∃ v, e = .returned v) ∧ ∃ xs, S xs ∧ J xs W'

theorem wpIn_rangeFunc_brings {α : Type} {g : Operand} {ps : Array Tmp} {assign body : Code} {Q : Exit → Act → World → Prop} {a : Act} {w : World} {m : Nat}
    {gf : Nat} {lb : Array Value} (hg : a.eval g = .func (.func gf) #[] lb) (eg : ∀ args w, (callFunc gf args).run P w = .ok (.enter gf args) w)
    {encs : α → Array Value} {I : List α → World → Prop} {En : List α → α → World → Prop} {S : List α → Prop} (hit : Brings P m (n - 1) gf lb encs I En S) (hps : ∀ x, (encs x).size = ps.size)
    (hI : OwnFrom w.heap.size I) (h0 : I [] w) (Ax : List α → α → Act → World → Prop) (hAx : ∀ pre x a', OwnFrom w.heap.size (fun (_ : Unit) W => Ax pre x a' W))
    (hassign : ∀ (l : Nat) (pre : List α) (x : α) (W : World), I pre W → En pre x W →
      assign.wpIn (Fence.wide.inRound l) m P (Exit.then (fun a' W' => Ax pre x a' W' ∧ KeepsFrom w.heap.size W W') (fun _ _ _ => False)) { tmps := (ps.zip (encs x)).foldl (fun t (p, v) => t.setIfInBounds p v) a.tmps, defers := [] } W)
    (hbody : ∀ (l : Nat) (pre : List α) (x : α) (a' : Act) (W : World), Ax pre x a' W → body.wpIn (Fence.wide.inRound l) m P (fun e _ W' => e = .normal ∧ I (pre ++ [x]) W' ∧ KeepsFrom w.heap.size W W') a' W)
    (hdone : ∀ (D : Nat) (xs : List α) (W : World), w.heap.size ≤ D → S xs → I xs W → W.heap[D]? = some (.deferred (some [])) → Q .normal { a with defers := { target := .collected D, args := #[] } :: a.defers } W) :
    (Code.rangeFunc g ps assign body).wpIn Fence.wide n P Q a w := by
  refine wpIn_rangeFunc fun fn _ => ?_
  obtain ⟨r, hr⟩ : ∃ r : Loop, r = { state := .ready, pending := none, fn, tmps := a.tmps, params := ps, assign, body, defers := w.heap.size } := ⟨_, rfl⟩
  obtain ⟨W1, hW1⟩ : ∃ W1, (w.alloc (.deferred (some []))).alloc (.loop r) = W1 := ⟨_, rfl⟩
  have hL1 : W1.heap[w.heap.size + 1]? = some (.loop r) := by
    rw [← hW1]; have := World.alloc_heap_new (w.alloc (.deferred (some []))) (.loop r); rwa [World.size_alloc] at this
  have hD1 : W1.heap[w.heap.size]? = some (.deferred (some [])) := by
    rw [← hW1]; exact (Below.heap_alloc _ _ _ (by simp)).trans (World.alloc_heap_new w _)
  refine ⟨w.heap.size + 1, [{ target := .collected w.heap.size, args := #[] }], W1, { target := .fn (.func gf) lb, args := #[.func (.yield (w.heap.size + 1)) #[] #[]] }, W1, gf,
    #[.func (.yield (w.heap.size + 1)) #[] #[]] ++ lb, W1, ?_, ?_, fun _ _ => trivial, ?_, (fun h => by cases h), ?_⟩
  · rw [← hW1, hr]; exact run_enterLoop_outer _ _ _ _ _
  · simp only [resolve, hg]
    simp [go_sem]
  · simp [invoke, go_sem, eg]
  refine (hit (w.heap.size + 1) (fun pre W => I pre W ∧ W.heap[w.heap.size + 1]? = some (.loop r) ∧ W.heap[w.heap.size]? = some (.deferred (some []))) ?_ (fun _ _ h => h.1) ?_ W1 ⟨by rw [← hW1]; exact hI.alloc _ (hI.alloc _ h0), hL1, hD1⟩).mono ?_
  · rintro pre W W' ⟨h1, h2, h3⟩ hk
    exact ⟨ownFrom_keeps hI h1 hk, (hk.block _ (Array.getElem?_eq_some_iff.1 h2).1 id).trans h2, (hk.block _ (Array.getElem?_eq_some_iff.1 h3).1 id).trans h3⟩
  · clear hL1 hW1 hD1
    subst hr
    rintro pre x W ⟨h1, h2, h3⟩ hen
    refine yieldAt_end h2 rfl rfl (hps x) ?_
    have ha := hassign (w.heap.size + 1) pre x W h1 hen
    refine wpIn_mono ha ?_
    intro e a₁ Wa hq
    cases e with
    | normal =>
      obtain ⟨hax, hka⟩ := hq
      have l2 := hka.same _ _ (by omega) h2 rfl
      have d2 := hka.same _ _ (Nat.le_refl _) h3 rfl
      refine ⟨l2, ?_⟩
      have lt2 := (Array.getElem?_eq_some_iff.1 l2).1
      refine wpIn_mono (hbody _ pre x a₁ _ ((hAx pre x a₁).putObj (s := ()) _ hax (by omega) l2 rfl)) ?_
      rintro e₃ a₃ W₃ ⟨rfl, h4, h5⟩
      have l3 := h5.same (w.heap.size + 1) _ (by omega) (World.putObj_heap_same lt2) rfl
      have d3 := h5.same w.heap.size _ (Nat.le_refl _) ((World.putObj_heap_other (by omega)).trans d2) rfl
      refine ⟨rfl, l3, hI.putObj _ h4 (by omega) l3 rfl, World.putObj_heap_same (Array.getElem?_eq_some_iff.1 l3).1, (World.putObj_heap_other (by omega)).trans d3⟩
    | exit id => exact hq
    | goto t => exact hq
    | ret => exact hq
    | panic c => exact hq
    | outgrown => exact hq
  · rintro e W2 ⟨⟨v, rfl⟩, xs, hS, h1, h2, h3⟩
    have hp : r.pending = none := by rw [hr]
    exact ⟨none, _, by have := run_endLoop (P := P) h2 (by rw [hr]; simp); rw [hp] at this; exact this, hdone _ xs _ (Nat.le_refl _) hS (hI.putObj _ h1 (by omega) h2 rfl) ((World.putObj_heap_other (by omega)).trans h3)⟩
end
end Go.Proofs.YtonpplpfipfnfaaDoor

namespace Go.Proofs.YtonpplpfipfnfaaDoor.C
open Go.RowKit Go.Shelf O
attribute [local go_sem] Oper.semAt_some

/-- A place that is told. -/
abbrev HdN := { h : Int // 0 ≤ h ∧ h ≤ 512 }
abbrev hdE (x : HdN) : Array Value := #[.int .i64 x.1]
/-- All that is told of an instruction. -/
def fullL (x : I3) (k : Nat) : List Int := (if gB x = true then [gN x] else []) ++ (if (gB x || eB x) = true then [((k + 1 : Nat) : Int)] else [])
/-- What is cells lies as it lay. -/
def CellsK (W W' : World) : Prop := W.heap.size ≤ W'.heap.size ∧ ∀ (k : Nat) (o : Obj), W.heap[k]? = some o → o.isCells = true → W'.heap[k]? = some o
theorem CellsK.trans {A B C : World} (h : CellsK A B) (h' : CellsK B C) : CellsK A C := ⟨Nat.le_trans h.1 h'.1, fun k o hk ho => h'.2 k o (h.2 k o hk ho) ho⟩
theorem CellsK.of_keep {A B : World} (h : Keep NoB A B) : CellsK A B := ⟨h.size, fun k _ hk _ => (h.block k (Array.getElem?_eq_some_iff.1 hk).1 id).trans hk⟩
theorem CellsK.putObj (W : World) (l : Nat) (o o' : Obj) (hl : W.heap[l]? = some o) (ho : o.isCells = false) : CellsK W (W.putObj l o') :=
  ⟨by simp [World.putObj], fun k o2 hk h2 => by
    have hne : k ≠ l := by rintro rfl; rw [hl] at hk; cases hk; rw [ho] at h2; cases h2
    exact (World.putObj_heap_other hne).trans hk⟩
theorem CellsK.blk {A B : World} {g : Nat} {t : TypeId} {cs : Array Value} (h : CellsK A B) (hb : Blk A g t cs) : Blk B g t cs := h.2 _ _ hb rfl

theorem full_go {x : I3} {k : Nat} (h : gB x = true) : fullL x k = [gN x, ((k + 1 : Nat) : Int)] := by unfold fullL; rw [h]; simp
theorem full_end {x : I3} {k : Nat} (h : gB x = false) (h2 : eB x = true) : fullL x k = [((k + 1 : Nat) : Int)] := by unfold fullL; rw [h, h2]; simp
theorem full_no {x : I3} {k : Nat} (h : gB x = false) (h2 : eB x = false) : fullL x k = [] := by unfold fullL; rw [h, h2]; simp

set_option maxRecDepth 100000 in
set_option maxHeartbeats 4000000 in
theorem made1_in (m l : Nat) (hm : 1 ≤ m) (bx bk : Nat) (op a b : Int) (k : Nat) (hk5 : k < 512) (J Jx : List HdN → World → Prop) (hJk : ∀ pre W W', J pre W → Keep NoB W W' → J pre W')
    (hY : ∀ pre x W, J pre W → pre.length < 2 → YieldAt Fence.wide (m - 1) Tryd.prog l (hdE x) W fun e W' =>
      (e = .returned (.bool true) ∧ J (pre ++ [x]) W' ∧ CellsK W W') ∨ (e = .returned (.bool false) ∧ Jx (pre ++ [x]) W'))
    (W : World) (hx : Blk W bx 24 #[.int .i64 op, .int .i64 a, .int .i64 b]) (hk : Blk W bk 3 #[.int .i64 k]) (h0 : J [] W) :
    CallsIn Fence.wide m Tryd.prog 38 #[.func (.yield l) #[] #[], .pointer (some ⟨bx, 0, none⟩), .pointer (some ⟨bk, 0, none⟩)] W fun e W' => (∃ v, e = .returned v) ∧
      ((∃ ys : List HdN, ys.map (·.1) = fullL (op, a, b) k ∧ J ys W') ∨ (∃ pre : List HdN, (∃ post, pre.map (·.1) ++ post = fullL (op, a, b) k) ∧ Jx pre W')) := by
  obtain ⟨c0, c1, c2⟩ := blk3 hx
  have ck := hk.cell 0
  simp at ck
  have hlast : (0 : Int) ≤ (k : Int) + 1 ∧ (k : Int) + 1 ≤ 512 := by omega
  cases hg : goesI op a b
  · have HG := Lib.hid (fun w => goes_gen op a b 0 false w (gN_no (x := (op, a, b)) hg) hg)
    cases he : endsI op a b
    · have HE := Lib.hid (fun w => ends_gen op a b false w he)
      have HF := Lib.hid (full_no (x := (op, a, b)) (k := k) hg he)
      clear hg he hY
      refine callsIn_of_wp Tryd.func38 rfl trivial ?_ rfl
      simp only [Tryd.ntmps38, List.size_toArray, List.length_cons, List.length_nil, Nat.reduceAdd, Nat.reduceSub, Array.replicate_succ, Array.replicate_zero, List.push_toArray, List.append_toArray, List.nil_append, List.cons_append]
      gi_wp2_with (refine ⟨trivial, ?_⟩; (try refine ⟨fun _ => hm, ?_⟩); gi_at_call 30; refine (callsIn_wide.2 (HG.out _)).mono ?_; rintro e w1 ⟨rfl, k1⟩)
      have hJ1 := hJk _ _ _ h0 k1
      obtain ⟨d0, d1, d2⟩ := blk3 (hx.keep k1 id)
      clear HG c0 c1 c2
      refine ⟨fun _ h => (by cases h), ?_⟩
      gi_wp2_with (refine ⟨trivial, ?_⟩; (try refine ⟨fun _ => hm, ?_⟩); gi_at_call 31; refine (callsIn_wide.2 (HE.out _)).mono ?_; rintro e w2 ⟨rfl, k2⟩)
      have hJ2 := hJk _ _ _ hJ1 k2
      go_end0
      exact ⟨⟨_, rfl⟩, .inl ⟨[], HF.out.symm, hJ2⟩⟩
    · have HE := Lib.hid (fun w => ends_gen op a b true w he)
      have HF := Lib.hid (full_end (x := (op, a, b)) (k := k) hg he)
      clear hg he
      refine callsIn_of_wp Tryd.func38 rfl trivial ?_ rfl
      simp only [Tryd.ntmps38, List.size_toArray, List.length_cons, List.length_nil, Nat.reduceAdd, Nat.reduceSub, Array.replicate_succ, Array.replicate_zero, List.push_toArray, List.append_toArray, List.nil_append, List.cons_append]
      gi_wp2_with (refine ⟨trivial, ?_⟩; (try refine ⟨fun _ => hm, ?_⟩); gi_at_call 30; refine (callsIn_wide.2 (HG.out _)).mono ?_; rintro e w1 ⟨rfl, k1⟩)
      have hJ1 := hJk _ _ _ h0 k1
      obtain ⟨d0, d1, d2⟩ := blk3 (hx.keep k1 id)
      have hk1 := hk.keep k1 id
      clear HG c0 c1 c2 ck
      refine ⟨fun _ h => (by cases h), ?_⟩
      gi_wp2_with (refine ⟨trivial, ?_⟩; (try refine ⟨fun _ => hm, ?_⟩); gi_at_call 31; refine (callsIn_wide.2 (HE.out _)).mono ?_; rintro e w2 ⟨rfl, k2⟩; have hJ2 := hJk _ _ _ hJ1 k2; have ck : w2.cell? ⟨bk, 0, none⟩ = some (.int .i64 k) := (hk1.keep k2 id).cell 0; obtain ⟨fn, tmps, assign, body, hy, hR⟩ := hY [] ⟨(k : Int) + 1, hlast⟩ w2 hJ2 (by simp); dsimp only [hdE] at hy)
      refine hR.mono ?_
      rintro e W3 (⟨rfl, hJ3, _⟩ | ⟨rfl, hJx3⟩)
      · gi_wp2
        go_end0
        exact ⟨⟨_, rfl⟩, .inl ⟨[⟨(k : Int) + 1, hlast⟩], HF.out.symm, hJ3⟩⟩
      · gi_wp2
        go_end0
        exact ⟨⟨_, rfl⟩, .inr ⟨[⟨(k : Int) + 1, hlast⟩], ⟨[], HF.out.symm⟩, hJx3⟩⟩
  · obtain ⟨to, hto⟩ : ∃ to, goesN op a b = to := ⟨_, rfl⟩
    have HG := Lib.hid (fun w => goes_gen op a b to true w hto hg)
    have hb : 0 ≤ to ∧ to ≤ 512 := by have := gN_in (op, a, b); rw [← hto]; exact ⟨this.1, Int.le_trans this.2 (by decide)⟩
    have HF := Lib.hid (full_go (x := (op, a, b)) (k := k) hg)
    rw [show gN (op, a, b) = to from hto] at HF
    clear hg hto
    refine callsIn_of_wp Tryd.func38 rfl trivial ?_ rfl
    simp only [Tryd.ntmps38, List.size_toArray, List.length_cons, List.length_nil, Nat.reduceAdd, Nat.reduceSub, Array.replicate_succ, Array.replicate_zero, List.push_toArray, List.append_toArray, List.nil_append, List.cons_append]
    gi_wp2_with (refine ⟨trivial, ?_⟩; (try refine ⟨fun _ => hm, ?_⟩); gi_at_call 30; refine (callsIn_wide.2 (HG.out _)).mono ?_; rintro e w1 ⟨rfl, k1⟩; have hJ1 := hJk _ _ _ h0 k1; obtain ⟨fn, tmps, assign, body, hy, hR⟩ := hY [] ⟨to, hb⟩ w1 hJ1 (by simp); dsimp only [hdE] at hy)
    have hk1 := hk.keep k1 id
    clear HG c0 c1 c2 ck
    refine hR.mono ?_
    rintro e W3 (⟨rfl, hJ3, hC⟩ | ⟨rfl, hJx3⟩)
    · have ck : W3.cell? ⟨bk, 0, none⟩ = some (.int .i64 k) := (hC.blk hk1).cell 0
      obtain ⟨fn2, tmps2, assign2, body2, hy2, hR2⟩ := hY _ ⟨(k : Int) + 1, hlast⟩ W3 hJ3 (by simp)
      dsimp only [hdE] at hy2
      clear hy hR
      gi_wp2
      refine ⟨trivial, ?_⟩
      gi_wp2
      refine hR2.mono ?_
      rintro e W4 (⟨rfl, hJ4, _⟩ | ⟨rfl, hJx4⟩)
      · gi_wp2
        go_end0
        exact ⟨⟨_, rfl⟩, .inl ⟨[⟨to, hb⟩, ⟨(k : Int) + 1, hlast⟩], HF.out.symm, hJ4⟩⟩
      · gi_wp2
        go_end0
        exact ⟨⟨_, rfl⟩, .inr ⟨[⟨to, hb⟩, ⟨(k : Int) + 1, hlast⟩], ⟨[], HF.out.symm⟩, hJx4⟩⟩
    · gi_wp2
      refine bodyPost_ret (results_none rfl _ _ _) rfl ?_
      exact ⟨⟨_, rfl⟩, .inr ⟨[⟨to, hb⟩], ⟨[((k + 1 : Nat) : Int)], HF.out.symm⟩, hJx3⟩⟩

end Go.Proofs.YtonpplpfipfnfaaDoor.C

namespace Go.Proofs.YtonpplpfipfnfaaDoor
open Go.RowKit Go.Maps

/-- Block b is a map of at most n keys; each number has what f says. -/
def IMap (P : Program) (k e : TypeId) (b n : Nat) (f : Int → Nat) (w : World) : Prop :=
  ∃ D : DataW Unit, w.ownsMap P k (plainElem P e) b n D ∧ IsMap D ∧ ∀ h : Int, D.atKey (.int .i64 h) (.lit (.int .i64 0)) = .lit (.int .i64 (f h : Int))
section
variable {P : Program} {k e t : TypeId} {b n : Nat} {f : Int → Nat} {w w' : World}
theorem IMap.new (P : Program) (k e : TypeId) (w : World) : IMap P k e w.heap.size 0 (fun _ => 0) (w.alloc (.map #[] 0)) :=
  ⟨.map [], World.ownsMap_made w P k _, isMap_empty, fun _ => rfl⟩
theorem IMap.lt (h : IMap P k e b n f w) : b < w.heap.size := by obtain ⟨_, h, _⟩ := h; exact h.lt
theorem IMap.obj (h : IMap P k e b n f w) : ∃ es c, w.heap[b]? = some (.map es c) := by
  obtain ⟨_, ⟨es, c, hb, _⟩, _⟩ := h
  exact ⟨es, c, hb⟩
theorem IMap.grown {row : Option Nat} (h : IMap P k e b n f w) (hg : w.grownBy w' row) (hne : some b ≠ row) : IMap P k e b n f w' := by
  obtain ⟨D, h1, h2, h3⟩ := h
  exact ⟨D, h1.kept hg hne, h2, h3⟩
theorem IMap.keep {O : Nat → Prop} (h : IMap P k e b n f w) (hk : Keep O w w') (hb : ¬ O b) : IMap P k e b n f w' := by
  obtain ⟨D, ⟨es, c, h0, hr⟩, h2, h3⟩ := h
  exact ⟨D, ⟨es, c, (hk.block b (Array.getElem?_eq_some_iff.1 h0).1 hb).trans h0, hr⟩, h2, h3⟩
theorem IMap.mono {m : Nat} (h : IMap P k e b n f w) (hm : n ≤ m) : IMap P k e b m f w := by
  obtain ⟨D, h1, h2, h3⟩ := h
  exact ⟨D, h1.mono hm, h2, h3⟩
theorem IMap.congr {g : Int → Nat} (h : IMap P k e b n f w) (hg : ∀ x, g x = f x) : IMap P k e b n g w := by
  obtain ⟨D, h1, h2, h3⟩ := h
  exact ⟨D, h1, h2, fun x => by rw [hg]; exact h3 x⟩
/-- What a store of one makes of f. -/
def setF (f : Int → Nat) (x : Int) (v : Nat) : Int → Nat := fun y => if y = x then v else f y
theorem lit_inj {a b : Int} (h : (DataW.lit (.int .i64 a) : DataW Unit) = .lit (.int .i64 b)) : a = b := by injection h with h; injection h with _ h
theorem isMap_put {D : DataW Unit} {f : Int → Nat} {x : Int} {v : Nat} (hD : IsMap D) (h3 : ∀ h : Int, D.atKey (.int .i64 h) (.lit (.int .i64 0)) = .lit (.int .i64 (f h : Int))) :
    ∀ h : Int, (D.put (.int .i64 x) (.lit (.int .i64 (v : Int)))).atKey (.int .i64 h) (.lit (.int .i64 0)) = .lit (.int .i64 (setF f x v h : Int)) := by
  intro h
  unfold setF
  by_cases he : h = x
  · subst he; rw [if_pos rfl]; exact atKey_put_same hD (by unfold WideAt.IsKeyLit; trivial) _ _
  · rw [if_neg he, atKey_put_other (by intro e; injection e with _ e; exact he e)]; exact h3 h
/-- A store. -/
theorem IMap.update (h : IMap P k e b n f w) (ht : P.underlying t = some (.map k e)) (hk : P.underlying k = some (.int .i64)) (he : P.underlying e = some (.int .i64)) (hn : n < maxLen) (x : Int) (v : Nat) (hx : (Lit.int .i64 x).wf = true) (hv : (Lit.int .i64 (v : Int)).wf = true) :
    ∃ w', (Instr.mapUpdate t (.map (some b)) (.int .i64 x) (.int .i64 (v : Int))).run P w = .ok () w' ∧ IMap P k e b (n + 1) (setF f x v) w' ∧ w.grownBy w' (some b) := by
  obtain ⟨D, h1, h2, h3⟩ := h
  obtain ⟨w', hrun, r1, r2⟩ := h1.update (int_keyed hk) ht hn (keyOf_int_mk hk hx) (plainElem_int he hv)
  exact ⟨w', hrun, ⟨_, r1, h2.put _ _, isMap_put h2 h3⟩, r2⟩
/-- A look. -/
theorem IMap.look (h : IMap P k e b n f w) (ht : P.underlying t = some (.map k e)) (hk : P.underlying k = some (.int .i64)) (he : P.underlying e = some (.int .i64)) (hz : (zeroValue e).run P w = .ok (.int .i64 0) w) (x : Int) (hx : (Lit.int .i64 x).wf = true) :
    (Instr.lookup t (.map (some b)) (.int .i64 x) false).run P w = .ok (.int .i64 (f x : Int)) w := by
  obtain ⟨D, h1, h2, h3⟩ := h
  obtain ⟨c, hrun, hat, _⟩ := h1.lookup_int (int_keyed hk) ht he hz (keyOf_int_mk hk hx)
  rw [h3 x] at hat
  rw [lit_inj hat]
  exact hrun
end
end Go.Proofs.YtonpplpfipfnfaaDoor

namespace Go.Proofs.YtonpplpfipfnfaaDoor.C
open Go.RowKit Go.Shelf Go.Maps O
attribute [local go_sem] Oper.semAt_some

theorem cblk_own {β : Type} (B g : Nat) (t : TypeId) (cs : β → Array Value) : OwnFrom B (fun s W => Blk W g t (cs s)) := by
  intro s X Y row h hg hrow
  refine (hg.block g h.lt (fun e => ?_)).trans h
  obtain ⟨_, o, ho, hc⟩ := hrow g e.symm
  rw [show X.heap[g]? = _ from h] at ho
  cases ho; cases hc
theorem ckeep_own {β : Type} {B : Nat} {w0 : World} (O : Nat → Prop) (hB : w0.heap.size ≤ B) : OwnFrom B (fun (_ : β) W => Keep O w0 W) := by
  intro s X Y row h hg hrow
  exact h.grown hg (fun g e hl => by have := (hrow g e).1; omega)
theorem cabides_keep {α : Type} {B : Nat} {J : List α → World → Prop} (h : AbidesFrom B J) : ∀ pre W W', J pre W → Keep NoB W W' → J pre W' := fun pre W W' hj hk => h pre W W' none hj hk.grows (fun r e => by cases e)
theorem Keep_put {O : Nat → Prop} {w W : World} {D : Nat} {o : Obj} (h : Keep O w W) (hD : w.heap.size ≤ D) : Keep O w (W.putObj D o) := h.grown (grownBy_putObj' W D o) (fun g e hl => by cases e; omega)

/-- The marks that loops over functions leave: their rounds deferred nothing. -/
def markOf (D : Nat) : Deferred := { target := .collected D, args := #[] }
def Marks (w : World) (W : World) (Ds : List Nat) : Prop := Ds.Nodup ∧ ∀ D ∈ Ds, w.heap.size ≤ D ∧ W.heap[D]? = some (.deferred (some []))
theorem Marks.nil (w W : World) : Marks w W [] := ⟨List.nodup_nil, fun _ h => by simp at h⟩
theorem Marks.keep {w W W' : World} {Ds : List Nat} (h : Marks w W Ds) (hk : Keep NoB W W') : Marks w W' Ds := ⟨h.1, fun D hD => ⟨(h.2 D hD).1, (hk.block D (Array.getElem?_eq_some_iff.1 (h.2 D hD).2).1 id).trans (h.2 D hD).2⟩⟩
theorem Marks.grown {w W W' : World} {Ds : List Nat} {row : Option Nat} (h : Marks w W Ds) (hg : W.grownBy W' row) (hr : ∀ r, row = some r → r ∉ Ds) : Marks w W' Ds :=
  ⟨h.1, fun D hD => ⟨(h.2 D hD).1, (hg.block D (Array.getElem?_eq_some_iff.1 (h.2 D hD).2).1 (fun e => hr D e.symm hD)).trans (h.2 D hD).2⟩⟩
theorem Marks.lt {w W : World} {Ds : List Nat} (h : Marks w W Ds) {D : Nat} (hD : D ∈ Ds) : D < W.heap.size := (Array.getElem?_eq_some_iff.1 (h.2 D hD).2).1
theorem Marks.cons {w W : World} {Ds : List Nat} {D : Nat} (h : Marks w W Ds) (hn : D ∉ Ds) (hw : w.heap.size ≤ D) (hD : W.heap[D]? = some (.deferred (some []))) : Marks w W (D :: Ds) :=
  ⟨List.nodup_cons.2 ⟨hn, h.1⟩, fun E hE => by
    rcases List.mem_cons.1 hE with rfl | hE
    · exact ⟨hw, hD⟩
    · exact h.2 E hE⟩
theorem leaves_marks {F : Fence} {n : Nat} {P : Program} {fn : Func} {tmps : Array Value} {R : Ending → World → Prop} {w : World} (T : World → Prop) (hT : ∀ (D : Nat) W, w.heap.size ≤ D → W.heap[D]? = some (.deferred (some [])) → T W → T (W.putObj D (.deferred none)))
    (hR : ∀ W, T W → LeavesIn F n P fn tmps R [] .returning W) : ∀ (Ds : List Nat) (W : World), Marks w W Ds → T W → LeavesInM F n P fn tmps R (Ds.map markOf) .returning W
  | [], W, _, h => hR W h
  | D :: Ds, W, hm, h => by
    have hD := hm.2 D (by simp)
    have hn := List.nodup_cons.1 hm.1
    refine ⟨by simp, .inl ⟨D, _, rfl, run_takeDeferred hD.2, leaves_marks T hT hR Ds _ ⟨hn.2, fun E hE => ?_⟩ (hT D W hD.1 hD.2 h)⟩⟩
    have hE' := hm.2 E (by simp [hE])
    exact ⟨hE'.1, (World.putObj_heap_other (by rintro rfl; exact hn.1 hE)).trans hE'.2⟩

theorem madeBy_any (op a b : Int) (k : Int) (w : World) : Calls Tryd.prog 33 #[instV op a b, .int .i64 k] w fun e w' =>
    e = .returned (.func (.func 38) #[] #[.pointer (some ⟨w.heap.size, 0, none⟩), .pointer (some ⟨w.heap.size + 1, 0, none⟩)]) ∧ Blk w' w.heap.size 24 #[.int .i64 op, .int .i64 a, .int .i64 b] ∧ Blk w' (w.heap.size + 1) 3 #[.int .i64 k] ∧ Keep NoB w w' := by
  go_enter Tryd.func33, Tryd.ntmps33
  go_wp2
  go_ret
  have h2 := Blk.new (w.alloc (.cells #[.int .i64 op, .int .i64 a, .int .i64 b] 24)) 3 #[.int .i64 k]
  rw [World.size_alloc] at h2
  exact ⟨rfl, (Blk.new w _ _).alloc _, h2, ((Keep.refl NoB w).alloc _).alloc _⟩

theorem made_stops (m : Nat) (hm : 1 ≤ m) (bx bk : Nat) (op a b : Int) (k : Nat) (hk5 : k < 512) (w : World) (hx : Blk w bx 24 #[.int .i64 op, .int .i64 a, .int .i64 b]) (hk : Blk w bk 3 #[.int .i64 k]) :
    SeqStopsK Fence.wide m Tryd.prog 38 #[.pointer (some ⟨bx, 0, none⟩), .pointer (some ⟨bk, 0, none⟩)] hdE CellsK (fun ys : List HdN => ys.map (·.1) = fullL (op, a, b) k) (fun pre : List HdN => ∃ post, pre.map (·.1) ++ post = fullL (op, a, b) k) 2 w := fun l J Jx W hb hJ _ hY h0 =>
  made1_in m l hm bx bk op a b k hk5 J Jx (cabides_keep hJ) hY W (Blk.keep hx (Keep.of_below (O := NoB) hb) id) (Blk.keep hk (Keep.of_below (O := NoB) hb) id) h0

/-- What the walk keeps: the boxes, the map, the marks. -/
def MetI (w : World) (A : Option Addr) (n c bl bm b N : Nat) (f : Int → Nat) (Ds : List Nat) (W : World) : Prop :=
  (Blk W bl 22 #[.slice A n c] ∧ Blk W bm 50 #[.map (some b)]) ∧ IMap Tryd.prog 3 3 b N f W ∧ (Keep NoB w W ∧ w.heap.size ≤ b ∧ b ∉ Ds) ∧ Marks w W Ds
theorem MetI.keep {w : World} {A : Option Addr} {n c bl bm b N : Nat} {f : Int → Nat} {Ds : List Nat} {W W' : World} (h : MetI w A n c bl bm b N f Ds W) (hk : Keep NoB W W') : MetI w A n c bl bm b N f Ds W' :=
  ⟨⟨h.1.1.keep hk id, h.1.2.keep hk id⟩, h.2.1.keep hk id, ⟨keepN h.2.2.1.1 hk, h.2.2.1.2⟩, h.2.2.2.keep hk⟩
theorem metI_own {β : Type} {w : World} {A : Option Addr} {n c bl bm b B : Nat} {N : β → Nat} {f : β → Int → Nat} {Ds : List Nat} (hw : w.heap.size ≤ B) (hb : b < B) (hD : ∀ D ∈ Ds, D < B) : OwnFrom B (fun (s : β) W => MetI w A n c bl bm b (N s) (f s) Ds W) := by
  rintro s X Y row ⟨⟨h1, h2⟩, h3, ⟨h4, h5⟩, h6⟩ hg hrow
  exact ⟨⟨cblk_own (β := Unit) _ _ _ (fun _ => _) () _ _ _ h1 hg hrow, cblk_own (β := Unit) _ _ _ (fun _ => _) () _ _ _ h2 hg hrow⟩, h3.grown hg (fun e => by have := (hrow _ e.symm).1; omega),
    ⟨ckeep_own (β := Unit) _ hw () _ _ _ h4 hg hrow, h5⟩, h6.grown hg (fun r e hr => by have := (hrow r e).1; have := hD r hr; omega)⟩

theorem cellsK_grown {W W' : World} {b : Nat} (hg : W.grownBy W' (some b)) (hb : ∃ es c, W.heap[b]? = some (.map es c)) : CellsK W W' :=
  ⟨hg.size, fun k o hk ho => (hg.block k (Array.getElem?_eq_some_iff.1 hk).1 (fun e => by
    cases e
    obtain ⟨es, c, hb⟩ := hb
    rw [hb] at hk; cases hk; cases ho)).trans hk⟩

/-- One more place noted. -/
theorem setF_count (f : Int → Nat) (pre : List Int) (x : Int) (y : Int) : setF (fun h => f h + pre.count h) x (f x + pre.count x + 1) y = f y + (pre ++ [x]).count y := by
  unfold setF
  rw [List.count_append, List.count_singleton]
  by_cases h : y = x
  · subst h; simp; omega
  · have : (x == y) = false := by rw [beq_eq_false_iff_ne]; exact fun e => h e.symm
    rw [if_neg h, this]; simp

theorem made_done {n k : Nat} {x : I3} (hk : k < n) (h : ∀ y ∈ fullL x k, y ≠ (n : Int)) : madeL n x k = fullL x k := by
  unfold madeL fullL at *
  cases hg : (gB x || eB x)
  · simp
  · rw [hg] at h
    have := h ((k + 1 : Nat) : Int) (by simp)
    have hlt : k + 1 < n := by omega
    simp [hlt]
theorem made_stop {n k : Nat} {x : I3} {q post : List Int} (hit : itemB n x = true) (h : q ++ (n : Int) :: post = fullL x k) : madeL n x k = q := by
  have h2 := (item_parts hit).2
  have hlen := congrArg List.length h
  cases hg : gB x
  · cases he : eB x
    · rw [full_no hg he] at hlen; simp at hlen
    · rw [full_end hg he] at h hlen
      rcases q with _ | ⟨z, q⟩
      · simp only [List.nil_append, List.cons.injEq] at h
        have hlt : ¬ k + 1 < n := by omega
        unfold madeL
        simp [hg, hlt]
      · simp at hlen
  · rw [full_go hg] at h hlen
    rcases q with _ | ⟨z, q⟩
    · simp only [List.nil_append, List.cons.injEq] at h
      omega
    · rcases q with _ | ⟨z2, q⟩
      · simp only [List.nil_append, List.cons_append, List.cons.injEq] at h
        have hlt : ¬ k + 1 < n := by omega
        unfold madeL
        simp [hg, hlt, h.1]
      · simp at hlen
theorem full_len (x : I3) (k : Nat) : (fullL x k).length ≤ 2 := by
  unfold fullL
  rw [List.length_append]
  have h1 : (if gB x = true then [gN x] else []).length ≤ 1 := by split <;> simp
  have h2 : (if (gB x || eB x) = true then [((k + 1 : Nat) : Int)] else []).length ≤ 1 := by split <;> simp
  omega

/-- Between two rounds of the inner loop; where it is left. -/
def InI (w : World) (A : Option Addr) (n c bl bm b k : Nat) (l : List I3) (Ds : List Nat) (pre : List HdN) (W : World) : Prop :=
  MetI w A n c bl bm b (1 + 2 * k + pre.length) (fun h => metN l k h + (pre.map (·.1)).count h) Ds W ∧ ∀ y ∈ pre, y.1 ≠ (n : Int)
def InX (w : World) (A : Option Addr) (n c bl bm b k : Nat) (l : List I3) (Ds : List Nat) (cd : Code) (pre : List HdN) (W : World) : Prop :=
  cd = .exit 1 ∧ ∃ q y, pre = q ++ [y] ∧ y.1 = (n : Int) ∧ InI w A n c bl bm b k l Ds q W
theorem inI_own {w : World} {A : Option Addr} {n c bl bm b k B : Nat} {l : List I3} {Ds : List Nat} (hw : w.heap.size ≤ B) (hb : b < B) (hD : ∀ D ∈ Ds, D < B) : OwnFrom B (InI w A n c bl bm b k l Ds) := by
  rintro s X Y row ⟨h1, h2⟩ hg hrow
  exact ⟨metI_own (β := Unit) (N := fun _ => _) (f := fun _ => _) hw hb hD () X Y row h1 hg hrow, h2⟩
theorem inX_own {w : World} {A : Option Addr} {n c bl bm b k B : Nat} {l : List I3} {Ds : List Nat} (hw : w.heap.size ≤ B) (hb : b < B) (hD : ∀ D ∈ Ds, D < B) (cd : Code) : OwnFrom B (InX w A n c bl bm b k l Ds cd) := by
  rintro s X Y row ⟨h0, q, y, h1, h2, h3⟩ hg hrow
  exact ⟨h0, q, y, h1, h2, inI_own hw hb hD q X Y row h3 hg hrow⟩
/-- A round of the outer loop is done. -/
theorem met_next {w W : World} {A : Option Addr} {n c bl bm b k D : Nat} {l : List I3} {Ds : List Nat} {q : List HdN} (hl : l.length = n) (hI : InI w A n c bl bm b k l Ds q W) (hq : madeL n (at0 l k) k = q.map (·.1)) (hD : ∀ E ∈ Ds, E < D) (hwD : w.heap.size ≤ D) (hDf : W.heap[D]? = some (.deferred (some []))) :
    MetI w A n c bl bm b (1 + 2 * (k + 1)) (metN l (k + 1)) (D :: Ds) W := by
  obtain ⟨⟨h1, h2, ⟨h4, h5, h6⟩, h7⟩, _⟩ := hI
  obtain ⟨es, cc, hb⟩ := h2.obj
  have hlen : q.length ≤ 2 := by
    have h := congrArg List.length hq
    have := madeL_len n (at0 l k) k
    simp at h; omega
  refine ⟨h1, (h2.mono (by omega)).congr (fun x => ?_), ⟨h4, h5, fun h => ?_⟩, h7.cons (fun h => by have := hD _ h; omega) hwD hDf⟩
  · show metN l (k + 1) x = _
    rw [metN, hl, hq]
  · rcases List.mem_cons.1 h with e | h
    · subst e; rw [hb] at hDf; cases hDf
    · exact h6 h
theorem wf_in {h : Int} (h0 : 0 ≤ h) (h1 : h ≤ 5000) : (Lit.int .i64 h).wf = true := WalkArith.wf_i64 (by omega)
theorem met_zero (w : World) : (zeroValue 3).run Tryd.prog w = .ok (.int .i64 0) w := by kernel_rfl

/-- The activation at the loop's head. -/
def metA (A : Option Addr) (n c bl bm b k : Nat) (Ds : List Nat) (u4 u5 u6 u12 u13 u14 u15 u16 u17 u18 u19 u20 u21 u22 u23 u24 u25 u26 u27 u28 : Value) : Act :=
  { tmps := #[.slice A n c, .pointer (some ⟨bl, 0, none⟩), .map none, .pointer (some ⟨bm, 0, none⟩), u4, u5, u6, .map (some b), .map (some b), .slice A n c, .int .i64 (n : Int), .int .i64 (k : Int), u12, u13, u14, u15, u16, u17, u18, u19, u20, u21, u22, u23, u24, u25, u26, u27, u28, undef], defers := Ds.map markOf }

set_option maxRecDepth 100000 in
set_option maxHeartbeats 8000000 in
theorem met_any (A : Option Addr) (l : List I3) (n c : Nat) (w : World) (hr : Rd w A (iis l)) (hn : Hid (l.length = n)) (ho : okB l = true) :
    Calls Tryd.prog 24 #[.slice A n c] w fun e w' => ∃ b N, e = .returned (.map (some b)) ∧ IMap Tryd.prog 3 3 b N (metN l n) w' ∧ w.heap.size ≤ b ∧ Keep NoB w w' := by
  obtain ⟨h1, h5, _, hall⟩ := okB_parts ho
  rw [hn.out] at h1 h5
  have hmm := @run_makeMap Tryd.prog
  obtain ⟨w1, hins, hI1, hg1⟩ := (IMap.new Tryd.prog 3 3 (w.alloc (.cells #[.slice A n c] 22))).update (t := 50) Tryd.underlying50 Tryd.underlying3 Tryd.underlying3 (by decide) 0 1 (by decide) (by decide)
  rw [World.size_alloc] at hins hI1 hg1
  have hins : (Instr.mapUpdate 50 (.map (some (w.heap.size + 1))) (.int .i64 0) (.int .i64 1)).run Tryd.prog ((w.alloc (.cells #[.slice A n c] 22)).alloc (.map #[] 0)) = .ok () w1 := hins
  have hk1 : Keep NoB w w1 := (((Keep.refl NoB w).alloc _).alloc _).grown hg1 (fun g e h => by cases e; omega)
  have hbl : Blk w1 w.heap.size 22 #[.slice A n c] := (((Blk.new w _ _).alloc _).grown hg1 (by simp))
  have hlt1 := hI1.lt
  have cl : w1.cell? ⟨w.heap.size, 0, none⟩ = some (.slice A n c) := hbl.cell 0
  have cl2 : ∀ o, (w1.alloc o).cell? ⟨w.heap.size, 0, none⟩ = some (.slice A n c) := fun o => (hbl.alloc o).cell 0
  have hM : MetI w A n c w.heap.size w1.heap.size (w.heap.size + 1) 1 (metN l 0) [] (w1.alloc (.cells #[.map (some (w.heap.size + 1))] 50)) :=
    ⟨⟨hbl.alloc _, Blk.new w1 _ _⟩, ((hI1.mono (Nat.le_refl _)).congr (fun x => by unfold setF metN; rfl)).grown (World.grownBy_alloc _ _ none) (by simp), ⟨hk1.alloc _, by omega, by simp⟩, Marks.nil _ _⟩
  refine (callsIn_wide (n := 4)).1 ?_
  refine callsIn_of_wp_marks Tryd.func24 rfl trivial ?_ rfl
  simp only [Tryd.ntmps24, List.size_toArray, List.length_cons, List.length_nil, Nat.reduceAdd, Nat.reduceSub, Array.replicate_succ, Array.replicate_zero, List.push_toArray, List.append_toArray, List.nil_append, List.cons_append]
  gi_wp2
  refine V.wpIn_scope_wide ?_
  gi_wp2
  refine wpIn_label ?_
  gi_wp2
  obtain ⟨bl, hbl'⟩ : ∃ bl, w.heap.size = bl := ⟨_, rfl⟩
  obtain ⟨b, hb'⟩ : ∃ b, bl + 1 = b := ⟨_, rfl⟩
  rw [hbl', hb'] at hM ⊢
  have hwb : w.heap.size ≤ b := by omega
  obtain ⟨bm, hbm⟩ : ∃ bm, w1.heap.size = bm := ⟨_, rfl⟩
  rw [hbm] at hM ⊢
  generalize w1.alloc (.cells #[.map (some b)] 50) = W1 at hM ⊢
  clear hins hI1 hg1 hk1 hbl hlt1 cl cl2 hmm hbl' hb' hbm
  refine wpIn_loop (fun a' W => ∃ (k : Nat) (Ds : List Nat) (u4 u5 u6 u12 u13 u14 u15 u16 u17 u18 u19 u20 u21 u22 u23 u24 u25 u26 u27 u28 : Value), a' = metA A n c bl bm b k Ds u4 u5 u6 u12 u13 u14 u15 u16 u17 u18 u19 u20 u21 u22 u23 u24 u25 u26 u27 u28 ∧ k ≤ n ∧ MetI w A n c bl bm b (1 + 2 * k) (metN l k) Ds W) (fun a' _ => n - (intOf (a'.tmps.getD 11 undef)).toNat) ?start ?round
  case start => exact ⟨0, [], _, _, _, _, _, _, _, _, _, _, _, _, _, _, _, _, _, _, _, _, rfl, Nat.zero_le _, hM⟩
  case round =>
    rintro a' W ⟨k, Ds, u4, u5, u6, u12, u13, u14, u15, u16, u17, u18, u19, u20, u21, u22, u23, u24, u25, u26, u27, u28, rfl, hk, hM⟩
    dsimp only [metA]
    by_cases hlt : k < n
    · have hkl : k < l.length := by rw [hn.out]; exact hlt
      obtain ⟨g0, off, rfl, hc0⟩ := rdJ_at hr (by omega)
      obtain ⟨d0, d1, d2⟩ := hc0 k hkl
      have c0 := hM.2.2.1.1.cell d0 id
      have c1 := hM.2.2.1.1.cell d1 id
      have c2 := hM.2.2.1.1.cell d2 id
      have hx : Hid (at0 l k = l[k]) := at0_of hkl
      have hit := okB_at ho hkl
      rw [hn.out] at hit
      clear hc0 d0 d1 d2
      generalize l[k] = x at c0 c1 c2 hx hit
      obtain ⟨op, a, b1⟩ := x
      dsimp only at c0 c1 c2
      have hk5 : k < 512 := by omega
      have hM1 := hM.keep ((Keep.refl NoB W).alloc (.cells #[.int .i64 op, .int .i64 a, .int .i64 b1] 24))
      gi_wp2_with (refine ⟨trivial, ?_⟩; gi_at_call 33; refine (callsIn_wide.2 (madeBy_any op a b1 k _)).mono ?_; rintro e w3 ⟨rfl, hbx, hbk, k3⟩)
      have hM3 := hM1.keep k3
      clear c0 c1 c2
      simp only [World.size_alloc] at hbx hbk
      obtain ⟨bx, hbx'⟩ : ∃ bx, W.heap.size + 1 = bx := ⟨_, rfl⟩
      rw [hbx'] at hbx hbk ⊢
      clear hbx' k3 hM1 hM
      have hBD : ∀ D ∈ Ds, D < w3.heap.size := fun D hD => hM3.2.2.2.lt hD
      have hbB : b < w3.heap.size := hM3.2.1.lt
      have hwB : w.heap.size ≤ w3.heap.size := hM3.2.2.1.1.size
      refine wpIn_rangeFunc_ownH rfl (by omega) (gf := 38) (lb := #[.pointer (some ⟨bx, 0, none⟩), .pointer (some ⟨bx + 1, 0, none⟩)]) rfl trivial (enters_of Tryd.func38 (by kernel_rfl) rfl)
        (made_stops _ (by omega) bx (bx + 1) op a b1 k hk5 w3 hbx hbk) (fun h h' => CellsK.trans h h') (fun W l o o' _ hl ho _ => CellsK.putObj W l o o' hl ho) (Below.refl _ _) (fun _ => rfl)
        (InI w (some ⟨g0, off, none⟩) n c bl bm b k l Ds) (InX w (some ⟨g0, off, none⟩) n c bl bm b k l Ds) (inI_own hwB hbB hBD) (inX_own hwB hbB hBD) ⟨hM3, fun y hy => by simp at hy⟩
        (fun x a' _ => a' = { tmps := #[.slice (some ⟨g0, off, none⟩) n c, .pointer (some ⟨bl, 0, none⟩), .map none, .pointer (some ⟨bm, 0, none⟩), .int .i64 (k : Int), .pointer (some ⟨W.heap.size, 0, none⟩), .int .i64 x.1, .map (some b), .map (some b), .slice (some ⟨g0, off, none⟩) n c, .int .i64 (n : Int), .int .i64 (k : Int), .bool true, .int .i64 (k : Int), .pointer (some ⟨g0, off + k * 3, none⟩), .agg #[.int .i64 op, .int .i64 a, .int .i64 b1], .agg #[.int .i64 op, .int .i64 a, .int .i64 b1], .int .i64 (k : Int), .func (.func 38) #[] #[.pointer (some ⟨bx, 0, none⟩), .pointer (some ⟨bx + 1, 0, none⟩)], .int .i64 x.1, u20, u21, u22, u23, u24, u25, u26, u27, u28, undef], defers := [] }) ?hax ?assign ?body ?done ?stop
      case hax =>
        rintro x a' s X Y row h hg hrow
        exact h
      case assign =>
        intro l' pre x W' K hi hK
        gi_wp2
        exact hK _ _ (KeepsFrom.refl _ _) ⟨Nat.le_refl _, fun _ _ h _ => h⟩ hi rfl
      case body =>
        rintro l' pre x a' W' hl _ ⟨hMI, hall⟩ rfl hlen
        obtain ⟨⟨h2, h3⟩, h4, ⟨h6, h7, h8⟩, h9⟩ := hMI
        obtain ⟨hd, hd0, hd1⟩ := x
        have cl : W'.cell? ⟨bl, 0, none⟩ = some (.slice (some ⟨g0, off, none⟩) n c) := h2.cell 0
        have cm : W'.cell? ⟨bm, 0, none⟩ = some (.map (some b)) := h3.cell 0
        dsimp only
        by_cases he : hd = (n : Int)
        · have HX : Hid (InX w (some ⟨g0, off, none⟩) n c bl bm b k l Ds (.exit 1) (pre ++ [⟨hd, hd0, hd1⟩]) W') := ⟨rfl, pre, _, rfl, he, ⟨⟨h2, h3⟩, h4, ⟨h6, h7, h8⟩, h9⟩, hall⟩
          have hq : (hd == (n : Int)) = true := by rw [beq_iff_eq]; exact he
          clear he hall h2 h3 h4 h6 h8 h9
          gi_wp2
          exact ⟨KeepsFrom.refl _ _, HX.out⟩
        · have hq : (hd == (n : Int)) = false := by rw [beq_eq_false_iff_ne]; exact he
          obtain ⟨v, hv⟩ : ∃ v, metN l k hd + (pre.map (·.1)).count hd = v := ⟨_, rfl⟩
          have hvb : (v : Int) ≤ 2000 := by
            have m1 := metN_le l k hd
            have m2 := List.count_le_length (a := hd) (l := pre.map (·.1))
            rw [List.length_map] at m2; omega
          have hlk := h4.look (t := 50) Tryd.underlying50 Tryd.underlying3 Tryd.underlying3 (met_zero _) hd (wf_in hd0 (by omega))
          obtain ⟨w4, hup, hI4, hg4⟩ := h4.update (t := 50) Tryd.underlying50 Tryd.underlying3 Tryd.underlying3 (by unfold maxLen; omega) hd (v + 1) (wf_in hd0 (by omega)) (wf_in (by omega) (by omega))
          rw [show ((v + 1 : Nat) : Int) = (v : Int) + 1 by omega] at hup
          rw [hv] at hlk
          have hM4 : Hid (InI w (some ⟨g0, off, none⟩) n c bl bm b k l Ds (pre ++ [⟨hd, hd0, hd1⟩]) w4) := by
            have hbl : some bl ≠ some b := by intro e; have e := Option.some.inj e; obtain ⟨es, cc, hb⟩ := h4.obj; rw [← e, show W'.heap[bl]? = _ from h2] at hb; cases hb
            have hbm : some bm ≠ some b := by intro e; have e := Option.some.inj e; obtain ⟨es, cc, hb⟩ := h4.obj; rw [← e, show W'.heap[bm]? = _ from h3] at hb; cases hb
            refine ⟨⟨⟨h2.grown hg4 hbl, h3.grown hg4 hbm⟩, ?_, ⟨h6.grown hg4 (fun g e h => by cases e; omega), h7, h8⟩, h9.grown hg4 (fun r e => by cases e; exact h8)⟩, fun y hy => ?_⟩
            · refine (hI4.mono (by simp; omega)).congr (fun y => ?_)
              rw [← hv, List.map_append]
              exact (setF_count (metN l k) (pre.map (·.1)) hd y).symm
            · rcases List.mem_append.1 hy with h | h
              · exact hall y h
              · rw [List.mem_singleton.1 h]; exact he
          have hC : CellsK W' w4 := cellsK_grown hg4 h4.obj
          have hF : KeepsFrom w3.heap.size W' w4 := KeepsFrom.of_grownBy hg4 (fun j e => by cases e; exact hbB)
          clear he hall h2 h3 h4 h6 h8 h9 hI4 hg4 hv
          gi_wp2
          exact ⟨hF, hC, hM4.out⟩
      case done =>
        rintro D ys W' hD hS hI hDf
        have hmd : madeL n (at0 l k) k = ys.map (·.1) := by
          rw [hx.out, hS]
          refine made_done hlt (fun y hy => ?_)
          rw [← hS] at hy
          obtain ⟨z, hz, rfl⟩ := List.mem_map.1 hy
          exact hI.2 z hz
        have hN := met_next hn.out hI hmd (fun E hE => Nat.lt_of_lt_of_le (hBD E hE) hD) (Nat.le_trans hwB hD) hDf
        gi_wp2
        exact ⟨⟨k + 1, D :: Ds, _, _, _, _, _, _, _, _, _, _, _, _, _, _, _, _, _, _, _, _, rfl, by omega, hN⟩, by simp [intOf]; omega⟩
      case stop =>
        rintro D cd pre W' hD ⟨post, hp⟩ ⟨rfl, q, y, rfl, hy, hI⟩ hDf
        have hmd : madeL n (at0 l k) k = q.map (·.1) := by
          rw [hx.out]
          refine made_stop (post := post) hit ?_
          rw [← hp, ← hy]; simp
        have hN := met_next hn.out hI hmd (fun E hE => Nat.lt_of_lt_of_le (hBD E hE) hD) (Nat.le_trans hwB hD) hDf
        gi_wp2
        exact ⟨⟨k + 1, D :: Ds, _, _, _, _, _, _, _, _, _, _, _, _, _, _, _, _, _, _, _, _, rfl, by omega, hN⟩, by simp [intOf]; omega⟩
    · obtain rfl : k = n := by omega
      obtain ⟨⟨h2, h3⟩, h4, ⟨h6, h7, h8⟩, h9⟩ := hM
      have cm : W.cell? ⟨bm, 0, none⟩ = some (.map (some b)) := h3.cell 0
      gi_wp2
      refine leaves_marks (fun W => IMap Tryd.prog 3 3 b (1 + 2 * k) (metN l k) W ∧ Keep NoB w W) ?_ ?_ Ds W h9 ⟨h4, h6⟩
      · rintro D W' hD hDo ⟨h1, h2⟩
        obtain ⟨es, cc, hb⟩ := h1.obj
        exact ⟨h1.grown (grownBy_putObj' W' D _) (fun e => by cases e; rw [hb] at hDo; cases hDo), Keep_put h2 hD⟩
      · rintro W' ⟨h1, h2⟩
        exact ⟨_, results_tmp rfl _ _ _, b, _, rfl, h1, hwb, h2⟩

end Go.Proofs.YtonpplpfipfnfaaDoor.C
