/-
  What Check, Count, ifBody and hasPlace of layer code answer: is a list a body, and how many have an op? Conditions: the list lies in memory.
  What Count, ifBody and hasPlace of layer code answer. Conditions: the list lies in memory.
  The document's Kinds, least, most, in and Check. Conditions: none but that numbers fit an int64.
  What Known, Check, Zero and Nil answer, the code's and the document's. No conditions.
  What Nil answers, the code's and the document's; great. No conditions.
  What the document's Ints and Same answer: are two lists the same? Conditions: the lists lie in memory.
  What Zeros and Of answer: new lists. Conditions: the lists lie in memory, no more than 4096 long.
  What Fits answers. Conditions: the lists lie in memory.
  What the listed package-level variables hold, carried from world to world; Letter and lettered. Conditions: the variables hold what their initialisers lay.
  What Show answers. Conditions: the variables that it reads hold what their initialisers lay; the value's number fits an int64.
  An array of strings among the listed package-level variables, as a list of texts. No conditions.
  What the project's own names of operations and codes answer, and what those that look a name up do. Conditions: the listed package-level variables hold the names.
  What the functions in an operand's fields tell: an operand's text. Conditions: the listed package-level variables hold what their initialisers lay.
  The document's in and Check. Conditions: none but that numbers fit an int64.
  The document's Ends and Goes. Conditions: none but that numbers fit an int64.
  What the document's Check, Count and Head of layer code answer, and its Lists: are two lists the same? Conditions: lists lie in memory; numbers fit an int64.
  A function in memory: its value, its cells, what it reads as. No conditions.
-/
import Derived.IntWalk
import Derived.LaidLaws
import Derived.LaidMore
import Derived.Lib.AppendIntMem
import Derived.Lib.ItoaLen
import Derived.Lib.SmallJoins
import Derived.OpenShut
import Derived.Test.YtbnekeomdhljhaaGreatDoorQ5
import Derived.Test.YtbnekeomdhljhaaGreatDoorQ2
import Derived.Test.YtbnekeomdhljhaaGreatDoorShelf
import Derived.Test.YtbnekeomdhljhaaGreatDoorQ4
namespace Go.Proofs.YtbnekeomdhljhaaGreatDoor.C
open Go.RowKit O

theorem goes_gen (op a b to : Int) (t : Bool) (w : World) (h1 : goesN op a b = to) (h2 : goesI op a b = t) :
    Calls Tryz.prog 128 #[instV op a b] w fun e w' => e = .returned (.tuple #[.int .i64 to, .bool t]) ∧ Keep NoB w w' := by subst h1 h2; exact goes_any op a b w
theorem ends_gen (op a b : Int) (t : Bool) (w : World) (h : endsI op a b = t) :
    Calls Tryz.prog 127 #[instV op a b] w fun e w' => e = .returned (.bool t) ∧ Keep NoB w w' := by subst h; exact ends_any op a b w
theorem chk_gen (op a b c : Int) (w : World) (h : chk op a b = c) :
    Calls Tryz.prog 129 #[instV op a b] w fun e w' => e = .returned (.int .i64 c) ∧ Keep NoB w w' := by subst h; exact check_any op a b w
theorem blk3 {w : World} {g : Nat} {t : TypeId} {a0 a1 a2 : Value} (h : Blk w g t #[a0, a1, a2]) : w.cell? ⟨g, 0, none⟩ = some a0 ∧ w.cell? ⟨g, 1, none⟩ = some a1 ∧ w.cell? ⟨g, 2, none⟩ = some a2 := ⟨h.cell 0, h.cell 1, h.cell 2⟩

set_option maxRecDepth 100000 in
set_option maxHeartbeats 4000000 in
theorem cchk_any (A : Option Addr) (l : List I3) (n c : Nat) (w : World) (hr : Rd w A (iis l)) (hn : Hid (l.length = n)) (hm : n ≤ 9223372036854775807) (R : Int) (hR : Hid (chkB l = R)) :
    Calls Tryz.prog 73 #[.slice A n c] w fun e w' => e = .returned (.int .i64 R) ∧ Keep NoB w w' := by
  by_cases h0 : n = 0
  · subst h0
    obtain rfl : 50 = R := by rw [← hR.out, List.length_eq_zero_iff.1 hn.out]; rfl
    go_enter Tryz.func73, Tryz.ntmps73
    go_wp2
    go_ret
    exact ⟨rfl, Keep.refl _ _⟩
  have hz : ((n : Int) == 0) = false := by rw [beq_eq_false_iff_ne]; omega
  by_cases h5 : 512 < n
  · obtain rfl : 50 = R := by rw [← hR.out, chkB_no (okB_long (by rw [hn.out]; omega))]
    have hq : decide ((512 : Int) < (n : Int)) = true := by rw [decide_eq_true_iff]; omega
    clear h5 h0
    go_enter Tryz.func73, Tryz.ntmps73
    go_wp2
    go_ret
    exact ⟨rfl, Keep.refl _ _⟩
  have hq : decide ((512 : Int) < (n : Int)) = false := by rw [decide_eq_false_iff_not]; omega
  obtain ⟨m, rfl⟩ : ∃ m, n = m + 1 := ⟨n - 1, by omega⟩
  have hz2 : ((m : Int) + 1 == 0) = false := by rw [beq_eq_false_iff_ne]; omega
  have hq2 : decide ((512 : Int) < (m : Int) + 1) = false := by rw [decide_eq_false_iff_not]; omega
  have hl0 : 0 < l.length := by rw [hn.out]; omega
  obtain ⟨g, off, rfl, hc⟩ := rdJ_at hr hl0
  have hml : m < l.length := by rw [hn.out]; omega
  obtain ⟨c0, c1, c2⟩ := hc m hml
  have HC := Lib.hid hc
  have hlast : Hid (lastB l = eB l[m]) := by
    show _ = _
    rw [lastB_at hl0]
    congr 2
    rw [hn.out]; omega
  clear hc hr h0 h5 hl0
  generalize l[m] = x at c0 c1 c2 hlast
  obtain ⟨op, a, b⟩ := x
  dsimp only at c0 c1 c2
  cases he : endsI op a b
  · obtain rfl : 50 = R := by rw [← hR.out, chkB_no (okB_last (by rw [hlast.out]; exact he))]
    have HE := Lib.hid (fun w => ends_gen op a b _ w he)
    clear he hlast HC hR
    go_enter Tryz.func73, Tryz.ntmps73
    go_wp2_with (go_at_call 127; refine (HE.out _).mono ?_; rintro e w1 ⟨rfl, k1⟩)
    go_ret
    exact ⟨rfl, k1⟩
  have HL : Hid (lastB l = true) := by show _ = _; rw [hlast.out]; exact he
  have HE := Lib.hid (fun w => ends_gen op a b _ w he)
  clear he hlast
  go_enter Tryz.func73, Tryz.ntmps73
  go_wp2_with (go_at_call 127; refine (HE.out _).mono ?_; rintro e w1 ⟨rfl, k1⟩)
  clear c0 c1 c2 HE hml
  go_loopw [27] (fun i wr => ∃ k : Nat, k ≤ m + 1 ∧ i = .int .i64 k ∧ Hid ((l.take k).all (itemB (m + 1)) = true) ∧ Keep NoB w wr) (fun i _ => m + 1 - (intOf i).toNat)
  case atStart => exact ⟨0, Nat.zero_le _, rfl, rfl, k1⟩
  case round =>
    obtain ⟨k, hk, rfl, hall, hK⟩ := hrel
    by_cases hlt : k < m + 1
    · have hkl : k < l.length := by rw [hn.out]; exact hlt
      obtain ⟨d0, d1, d2⟩ := HC.out k hkl
      have c0 := hK.cell d0 id
      have c1 := hK.cell d1 id
      have c2 := hK.cell d2 id
      have HT := Lib.hid (show l.take (k + 1) = l.take k ++ [l[k]] from List.take_succ_eq_append_getElem hkl)
      have HN : Hid (itemB l.length l[k] = false → 50 = R) := fun h => by rw [← hR.out, chkB_no (okB_item (all_no hkl h))]
      rw [hn.out] at HN
      clear d0 d1 d2
      generalize l[k] = x at c0 c1 c2 HT HN
      obtain ⟨op, a, b⟩ := x
      dsimp only at c0 c1 c2
      obtain ⟨to, hto⟩ : ∃ to, goesN op a b = to := ⟨_, rfl⟩
      have hb : 0 ≤ to ∧ to ≤ 511 := by rw [← hto]; exact gN_in (op, a, b)
      have HG := Lib.hid (fun w => goes_gen op a b to _ w hto rfl)
      have bx := Blk.new wr 74 #[.int .i64 op, .int .i64 a, .int .i64 b]
      have gK := hK.alloc (.cells #[.int .i64 op, .int .i64 a, .int .i64 b] 74)
      cases ho : okI op a b
      · obtain rfl := HN.out (item_no1 ho)
        have HO := Lib.hid (fun w => chk_gen op a b 40 w (by unfold chk; rw [ho]; rfl))
        clear ho hto HN HT HL hall hK hR
        go_wp2_with fail
        refine (HG.out _).mono ?_
        rintro e w2 ⟨rfl, k2⟩
        replace bx := bx.keep k2 id
        replace gK := keepN gK k2
        obtain ⟨x0, x1, x2⟩ := blk3 bx
        go_wp2_with (go_at_call 129; refine (HO.out _).mono ?_; rintro e w3 ⟨rfl, k3⟩)
        go_ret
        exact ⟨rfl, keepN gK k3⟩
      have HO := Lib.hid (fun w => chk_gen op a b 0 w (by unfold chk; rw [ho]; rfl))
      by_cases ht : to < ((m + 1 : Nat) : Int)
      · have ht2 : ¬ ((m : Int) + 1 ≤ to) := by omega
        have ha2 : Hid ((l.take (k + 1)).all (itemB (m + 1)) = true) := by
          show _ = _
          rw [HT.out, List.all_append, hall.out]
          simp only [List.all_cons, List.all_nil, Bool.and_true, Bool.true_and]
          exact item_yes ho (by show goesN op a b < _; rw [hto]; exact ht)
        clear ho hto HN HT HL hall hK hR ht
        go_wp2_with fail
        refine (HG.out _).mono ?_
        rintro e w2 ⟨rfl, k2⟩
        replace bx := bx.keep k2 id
        replace gK := keepN gK k2
        obtain ⟨x0, x1, x2⟩ := blk3 bx
        go_wp2_with (go_at_call 129; refine (HO.out _).mono ?_; rintro e w3 ⟨rfl, k3⟩)
        go_roundw
        case rel => exact ⟨k + 1, by omega, by go_num, ha2, keepN gK k3⟩
        case measure => simp [intOf]; omega
      · obtain rfl := HN.out (item_no2 (by show ¬ goesN op a b < _; rw [hto]; exact ht))
        have ht2 : ((m : Int) + 1 ≤ to) := by omega
        clear ho hto HN HT HL hall hK hR ht
        go_wp2_with fail
        refine (HG.out _).mono ?_
        rintro e w2 ⟨rfl, k2⟩
        replace bx := bx.keep k2 id
        replace gK := keepN gK k2
        obtain ⟨x0, x1, x2⟩ := blk3 bx
        go_wp2_with (go_at_call 129; refine (HO.out _).mono ?_; rintro e w3 ⟨rfl, k3⟩)
        go_ret
        exact ⟨rfl, keepN gK k3⟩
    · obtain rfl : 0 = R := by
        rw [← hR.out, chkB_ok (okB_mk (by rw [hn.out]; have := decide_eq_false_iff_not.1 hq; omega) HL.out ?_)]
        have := hall.out
        rw [List.take_of_length_le (by rw [hn.out]; omega)] at this
        rw [hn.out]; exact this
      clear HC hR
      go_wp2
      go_ret
      exact ⟨rfl, hK⟩

end Go.Proofs.YtbnekeomdhljhaaGreatDoor.C

namespace Go.Proofs.YtbnekeomdhljhaaGreatDoor.C
open Go.RowKit O

/-- The slice, if the list is a body; nil, if it is not. -/
def ifV (l : List I3) (v : Value) : Value := if okB l = true then v else .slice none 0 0
theorem ifV_ok {l : List I3} (h : okB l = true) (v : Value) : ifV l v = v := if_pos h
theorem ifV_no {l : List I3} (h : okB l = false) (v : Value) : ifV l v = .slice none 0 0 := if_neg (by rw [h]; decide)

set_option maxRecDepth 100000 in
set_option maxHeartbeats 2000000 in
theorem ifBody_any (A : Option Addr) (l : List I3) (n c : Nat) (w : World) (hr : Rd w A (iis l)) (hn : Hid (l.length = n)) (hm : n ≤ 9223372036854775807) :
    Calls Tryz.prog 115 #[.slice A n c] w fun e w' => e = .returned (.tuple #[ifV l (.slice A n c), .int .i64 (chkB l)]) ∧ Keep NoB w w' := by
  cases ho : okB l
  · rw [ifV_no ho, chkB_no ho]
    have HC := Lib.hid (fun w hr => cchk_any A l n c w hr hn hm 50 (chkB_no ho))
    clear ho
    go_enter Tryz.func115, Tryz.ntmps115
    go_wp2_with (go_at_call 73; refine (HC.out _ hr).mono ?_; rintro e w1 ⟨rfl, k1⟩)
    go_ret2
    exact ⟨rfl, k1⟩
  · rw [ifV_ok ho, chkB_ok ho]
    have HC := Lib.hid (fun w hr => cchk_any A l n c w hr hn hm 0 (chkB_ok ho))
    clear ho
    go_enter Tryz.func115, Tryz.ntmps115
    go_wp2_with (go_at_call 73; refine (HC.out _ hr).mono ?_; rintro e w1 ⟨rfl, k1⟩)
    go_ret2
    exact ⟨rfl, k1⟩

/-- Is it a body that has the place? -/
def hasB (l : List I3) (k : Int) : Bool := decide (0 ≤ k ∧ k < (l.length : Int)) && okB l
theorem hasB_yes {l : List I3} {k : Int} (h : hasB l k = true) : (0 ≤ k ∧ k < (l.length : Int)) ∧ okB l = true := by
  unfold hasB at h; simpa using h

end Go.Proofs.YtbnekeomdhljhaaGreatDoor.C

namespace Go.Proofs.YtbnekeomdhljhaaGreatDoor.O
open Go.RowKit

theorem pr_ii {a b a' b' : Int} (h1 : a = a') (h2 : b = b') : Ending.returned (.tuple #[.int .i64 a, .int .i64 b]) = .returned (.tuple #[.int .i64 a', .int .i64 b']) := by rw [h1, h2]

set_option maxRecDepth 100000 in
set_option maxHeartbeats 4000000 in
theorem rkinds_any (op : Int) (w : World) :
    Calls Tryz.prog 159 #[.int .i64 op] w fun e w' => e = .returned (.tuple #[.int .i64 (rowAt op).ka, .int .i64 (rowAt op).kb]) ∧ w = w' := by
  cases ho : isOp op
  · have hn := isOp_no ho
    rw [rowAt_no ho]
    have h : ∀ k : Int, 0 ≤ k → k < 30 → (op == k) = false := fun k h0 h1 => by rw [beq_eq_false_iff_ne]; intro e; exact hn ⟨by omega, by omega⟩
    have a1 := h 1 (by decide) (by decide); have a2 := h 2 (by decide) (by decide); have a3 := h 3 (by decide) (by decide); have a4 := h 4 (by decide) (by decide)
    have a5 := h 5 (by decide) (by decide); have a8 := h 8 (by decide) (by decide); have a9 := h 9 (by decide) (by decide); have a10 := h 10 (by decide) (by decide)
    have a11 := h 11 (by decide) (by decide); have a15 := h 15 (by decide) (by decide); have a16 := h 16 (by decide) (by decide); have a17 := h 17 (by decide) (by decide)
    have a18 := h 18 (by decide) (by decide); have a19 := h 19 (by decide) (by decide); have a20 := h 20 (by decide) (by decide); have a21 := h 21 (by decide) (by decide)
    have a22 := h 22 (by decide) (by decide); have a23 := h 23 (by decide) (by decide)
    clear h hn ho
    go_enter Tryz.func159, Tryz.ntmps159
    go_wp2
    go_ret2
    exact ⟨pr_ii rfl rfl, rfl⟩
  · have hb := isOp_yes ho
    clear ho
    have hc : op = 0 ∨ op = 1 ∨ op = 2 ∨ op = 3 ∨ op = 4 ∨ op = 5 ∨ op = 6 ∨ op = 7 ∨ op = 8 ∨ op = 9 ∨ op = 10 ∨ op = 11 ∨ op = 12 ∨ op = 13 ∨ op = 14 ∨ op = 15 ∨ op = 16 ∨ op = 17 ∨ op = 18 ∨ op = 19 ∨ op = 20 ∨ op = 21 ∨ op = 22 ∨ op = 23 ∨ op = 24 ∨ op = 25 ∨ op = 26 ∨ op = 27 ∨ op = 28 ∨ op = 29 := by omega
    clear hb
    rcases hc with rfl | rfl | rfl | rfl | rfl | rfl | rfl | rfl | rfl | rfl | rfl | rfl | rfl | rfl | rfl | rfl | rfl | rfl | rfl | rfl | rfl | rfl | rfl | rfl | rfl | rfl | rfl | rfl | rfl | rfl
    all_goals
      go_enter Tryz.func159, Tryz.ntmps159
      go_wp2
      go_ret2
      exact ⟨pr_ii rfl rfl, rfl⟩

set_option maxHeartbeats 1000000 in
theorem rleast_any (k : Int) (w : World) (h0 : 0 ≤ k) (h1 : k ≤ 10) (h2 : k ≠ 1) :
    Calls Tryz.prog 188 #[.int .i64 k] w fun e w' => e = .returned (.int .i64 (lo k)) ∧ w = w' := by
  have hc : k = 0 ∨ k = 2 ∨ k = 3 ∨ k = 4 ∨ k = 5 ∨ k = 6 ∨ k = 7 ∨ k = 8 ∨ k = 9 ∨ k = 10 := by omega
  clear h0 h1 h2
  rcases hc with rfl | rfl | rfl | rfl | rfl | rfl | rfl | rfl | rfl | rfl
  all_goals
    go_enter Tryz.func188, Tryz.ntmps188
    go_wp2
    go_ret
    exact ⟨rfl, rfl⟩

set_option maxHeartbeats 1000000 in
theorem rmost_any (k : Int) (w : World) (h0 : 0 ≤ k) (h1 : k ≤ 10) (h2 : k ≠ 1) :
    Calls Tryz.prog 187 #[.int .i64 k] w fun e w' => e = .returned (.int .i64 (hi k)) ∧ Keep NoB w w' := by
  have hc : k = 0 ∨ k = 2 ∨ k = 3 ∨ k = 4 ∨ k = 5 ∨ k = 6 ∨ k = 7 ∨ k = 8 ∨ k = 9 ∨ k = 10 := by omega
  clear h0 h1 h2
  rcases hc with rfl | rfl | rfl | rfl | rfl | rfl | rfl | rfl | rfl | rfl
  all_goals
    go_enter Tryz.func187, Tryz.ntmps187
    go_wp2
    go_ret
    exact ⟨rfl, (Keep.refl NoB w).alloc _⟩

end Go.Proofs.YtbnekeomdhljhaaGreatDoor.O

namespace Go.Proofs.YtbnekeomdhljhaaGreatDoor.W
open Go.RowKit

/-- What Check answers. -/
def chk (t n : Int) : Int := if okB t n = true then 0 else 21
theorem chk_ok {t n : Int} (h : okB t n = true) : chk t n = 0 := by unfold chk; rw [if_pos h]
theorem chk_bad {t n : Int} (h : okB t n = false) : chk t n = 21 := by unfold chk; rw [if_neg (by simp [h])]

set_option maxHeartbeats 400000 in
theorem known_any (t : Int) (w : World) :
    Calls Tryz.prog 124 #[.int .i64 t] w fun e w' => e = .returned (.bool (knownB t)) ∧ w = w' := by
  by_cases h1 : 1 ≤ t
  · by_cases h2 : t < 5
    · go_enter Tryz.func124, Tryz.ntmps124
      go_wp2
      go_ret
      exact ⟨ret_bool (by simp [knownB]; omega), rfl⟩
    · go_enter Tryz.func124, Tryz.ntmps124
      go_wp2
      go_ret
      exact ⟨ret_bool (by simp [knownB]; omega), rfl⟩
  · go_enter Tryz.func124, Tryz.ntmps124
    go_wp2
    go_ret
    exact ⟨ret_bool (by simp [knownB]; omega), rfl⟩

set_option maxHeartbeats 400000 in
theorem rknown_any (t : Int) (w : World) :
    Calls Tryz.prog 77 #[.int .i64 t] w fun e w' => e = .returned (.bool (knownB t)) ∧ w = w' := by
  go_enter Tryz.func77, Tryz.ntmps77
  go_wp2
  all_goals
    go_ret
    exact ⟨ret_bool (by rw [Bool.eq_iff_iff]; simp [knownB]; omega), rfl⟩

set_option maxHeartbeats 1000000 in
theorem check_ok (t n : Int) (w : World) (h : okB t n = true) :
    Calls Tryz.prog 135 #[.agg #[.int .i64 t, .int .i64 n]] w fun e w' => e = .returned (.int .i64 0) ∧ Keep NoB w w' := by
  have hk := ok_known h
  have ho := (ok_iff t n).1 h
  clear h
  by_cases h1 : t = 1
  · subst h1
    by_cases hn : n < 0
    · go_enter Tryz.func135, Tryz.ntmps135
      go_wp2_with (go_at_call 124; refine (known_any _ _).mono ?_; rintro e w' ⟨rfl, rfl⟩)
      go_ret
      exact ⟨rfl, (Keep.refl _ _).alloc _⟩
    · go_enter Tryz.func135, Tryz.ntmps135
      go_wp2_with (go_at_call 124; refine (known_any _ _).mono ?_; rintro e w' ⟨rfl, rfl⟩)
      go_ret
      exact ⟨rfl, (Keep.refl _ _).alloc _⟩
  · have hn : ¬ n < 0 := by omega
    clear h1 ho
    go_enter Tryz.func135, Tryz.ntmps135
    go_wp2_with (go_at_call 124; refine (known_any _ _).mono ?_; rintro e w' ⟨rfl, rfl⟩)
    go_ret
    exact ⟨rfl, (Keep.refl _ _).alloc _⟩

set_option maxHeartbeats 1000000 in
theorem check_bad (t n : Int) (w : World) (h : okB t n = false) :
    Calls Tryz.prog 135 #[.agg #[.int .i64 t, .int .i64 n]] w fun e w' => e = .returned (.int .i64 21) ∧ Keep NoB w w' := by
  have ho := (ok_not t n).1 h
  clear h
  cases hk : knownB t
  · clear ho
    go_enter Tryz.func135, Tryz.ntmps135
    go_wp2_with (go_at_call 124; refine (known_any _ _).mono ?_; rintro e w' ⟨rfl, rfl⟩)
    go_ret
    exact ⟨rfl, (Keep.refl _ _).alloc _⟩
  · have hk' := (known_iff t).1 hk
    have hn : n < 0 := by omega
    have h1 : ¬ t = 1 := by omega
    clear ho hk'
    go_enter Tryz.func135, Tryz.ntmps135
    go_wp2_with (go_at_call 124; refine (known_any _ _).mono ?_; rintro e w' ⟨rfl, rfl⟩)
    go_ret
    exact ⟨rfl, (Keep.refl _ _).alloc _⟩

/-- Check, in one form. -/
theorem check_any (t n : Int) (w : World) :
    Calls Tryz.prog 135 #[.agg #[.int .i64 t, .int .i64 n]] w fun e w' => e = .returned (.int .i64 (chk t n)) ∧ Keep NoB w w' := by
  cases h : okB t n
  · rw [chk_bad h]; exact check_bad t n w h
  · rw [chk_ok h]; exact check_ok t n w h

set_option maxHeartbeats 1000000 in
theorem rcheck_any (t n : Int) (w : World) :
    Calls Tryz.prog 137 #[.agg #[.int .i64 t, .int .i64 n]] w fun e w' => e = .returned (.int .i64 (chk t n)) ∧ Keep NoB w w' := by
  cases h : okB t n
  · rw [chk_bad h]
    have ho := (ok_not t n).1 h
    clear h
    cases hk : knownB t
    · clear ho
      go_enter Tryz.func137, Tryz.ntmps137
      go_wp2_with (go_at_call 77; refine (rknown_any _ _).mono ?_; rintro e w' ⟨rfl, rfl⟩)
      go_ret
      exact ⟨rfl, (Keep.refl _ _).alloc _⟩
    · have hk' := (known_iff t).1 hk
      have hn : n < 0 := by omega
      have h1 : 1 < t := by omega
      clear ho hk'
      go_enter Tryz.func137, Tryz.ntmps137
      go_wp2_with (go_at_call 77; refine (rknown_any _ _).mono ?_; rintro e w' ⟨rfl, rfl⟩)
      go_ret
      exact ⟨rfl, (Keep.refl _ _).alloc _⟩
  · rw [chk_ok h]
    have hk := ok_known h
    have ho := (ok_iff t n).1 h
    clear h
    by_cases h1 : 1 < t
    · have hn : ¬ n < 0 := by omega
      clear ho
      go_enter Tryz.func137, Tryz.ntmps137
      go_wp2_with (go_at_call 77; refine (rknown_any _ _).mono ?_; rintro e w' ⟨rfl, rfl⟩)
      go_ret
      exact ⟨rfl, (Keep.refl _ _).alloc _⟩
    · clear ho
      go_enter Tryz.func137, Tryz.ntmps137
      go_wp2_with (go_at_call 77; refine (rknown_any _ _).mono ?_; rintro e w' ⟨rfl, rfl⟩)
      go_ret
      exact ⟨rfl, (Keep.refl _ _).alloc _⟩

/-! ### Zero, Nil -/

set_option maxHeartbeats 1000000 in
theorem zero_ok (t : Int) (w : World) (h : knownB t = true) :
    Calls Tryz.prog 136 #[.int .i64 t] w fun e w' => e = .returned (.tuple #[.agg #[.int .i64 t, .int .i64 0], .int .i64 0]) ∧ Keep NoB w w' := by
  go_enter Tryz.func136, Tryz.ntmps136
  go_wp2_with (go_at_call 124; refine (known_any _ _).mono ?_; rintro e w' ⟨rfl, rfl⟩)
  exact bodyPost_ret (v := .tuple #[.agg #[.int .i64 t, .int .i64 0], .int .i64 0]) (by simp [results, Tryz.results136, go_sem]) rfl ⟨rfl, (Keep.refl _ _).alloc _⟩
set_option maxHeartbeats 1000000 in
theorem zero_bad (t : Int) (w : World) (h : knownB t = false) :
    Calls Tryz.prog 136 #[.int .i64 t] w fun e w' => e = .returned (.tuple #[.agg #[.int .i64 0, .int .i64 0], .int .i64 20]) ∧ Keep NoB w w' := by
  go_enter Tryz.func136, Tryz.ntmps136
  go_wp2_with (go_at_call 124; refine (known_any _ _).mono ?_; rintro e w' ⟨rfl, rfl⟩)
  exact bodyPost_ret (v := .tuple #[.agg #[.int .i64 0, .int .i64 0], .int .i64 20]) (by simp [results, Tryz.results136, go_sem]) rfl ⟨rfl, (Keep.refl _ _).alloc _⟩

end Go.Proofs.YtbnekeomdhljhaaGreatDoor.W

namespace Go.Proofs.YtbnekeomdhljhaaGreatDoor.W
open Go.RowKit

/-! ### great -/

end Go.Proofs.YtbnekeomdhljhaaGreatDoor.W

namespace Go.Proofs.YtbnekeomdhljhaaGreatDoor.W
open Go.RowKit

set_option maxRecDepth 100000 in
set_option maxHeartbeats 2000000 in
theorem ints_any (A B : Option Addr) (la lb : List Int) (n m c d : Nat) (w : World) (ha : Rd w A (ivs la)) (hb : Rd w B (ivs lb)) (hn : Hid (la.length = n)) (hm : Hid (lb.length = m))
    (h1 : n ≤ 9223372036854775807) (h2 : m ≤ 9223372036854775807) (R : Bool) (hR : Hid (R = decide (la = lb))) :
    Calls Tryz.prog 30 #[.slice A n c, .slice B m d] w fun e w' => e = .returned (.bool R) ∧ Keep NoB w w' := by
  by_cases hnm : n = m
  · subst hnm
    go_enter Tryz.func30, Tryz.ntmps30
    go_wp2
    go_loopw [5] (fun i wr => ∃ k : Nat, k ≤ n ∧ i = .int .i64 k ∧ Hid (la.take k = lb.take k) ∧ Keep NoB w wr) (fun i _ => n - (intOf i).toNat)
    case atStart => exact ⟨0, Nat.zero_le _, rfl, rfl, Keep.refl _ _⟩
    case round =>
      obtain ⟨k, hk, rfl, ht, hK⟩ := hrel
      by_cases hlt : k < n
      · have hka : k < la.length := by rw [hn.out]; exact hlt
        have hkb : k < lb.length := by rw [hm.out]; exact hlt
        obtain ⟨ga, oa, rfl, hca⟩ := rdI_at ha (by omega)
        obtain ⟨gb, ob, rfl, hcb⟩ := rdI_at hb (by omega)
        have ca := hK.cell (hca k hka) id
        have cb := hK.cell (hcb k hkb) id
        have HT := Lib.hid (show la.take (k + 1) = la.take k ++ [la[k]] from List.take_succ_eq_append_getElem hka)
        have HU := Lib.hid (show lb.take (k + 1) = lb.take k ++ [lb[k]] from List.take_succ_eq_append_getElem hkb)
        clear hca hcb
        by_cases he : la[k] = lb[k]
        · have HV : Hid (la.take (k + 1) = lb.take (k + 1)) := by show _ = _; rw [HT.out, HU.out, ht.out, he]
          rw [he] at ca
          clear he HT HU ha hb
          generalize lb[k] = y at ca cb
          go_wp2
          go_quiet (fail)
          go_wp2
          go_roundw
          case rel => exact ⟨k + 1, by omega, by go_num, HV, hK.drewN _⟩
          case measure => simp [intOf]; omega
        · have hf : R = false := by
            rw [hR.out, decide_eq_false_iff_not]
            intro e
            exact he (by simp [e])
          subst hf
          clear HT HU ha hb
          generalize la[k] = x at ca he
          generalize lb[k] = y at cb he
          have hne : (x != y) = true := by rw [bne_iff_ne]; exact he
          clear he
          go_wp2
          go_quiet (fail)
          go_wp2
          go_ret
          exact ⟨rfl, hK.drewN _⟩
      · have hf : R = true := by
          rw [hR.out, decide_eq_true_iff]
          have e1 := ht.out
          rwa [List.take_of_length_le (by rw [hn.out]; omega), List.take_of_length_le (by rw [hm.out]; omega)] at e1
        subst hf
        go_wp2
        go_ret
        exact ⟨rfl, hK⟩
  · have hf : R = false := by
      rw [hR.out, decide_eq_false_iff_not]
      intro e
      exact hnm (by rw [← hn.out, ← hm.out, e])
    subst hf
    have hne : ((n : Int) != (m : Int)) = true := by rw [bne_iff_ne]; omega
    clear hnm
    go_enter Tryz.func30, Tryz.ntmps30
    go_wp2
    go_ret
    exact ⟨rfl, Keep.refl _ _⟩

set_option maxRecDepth 100000 in
set_option maxHeartbeats 2000000 in
theorem same_any (A B : Option Addr) (la lb : List (Int × Int)) (n m c d : Nat) (w : World) (ha : Rd w A (vvs la)) (hb : Rd w B (vvs lb)) (hn : Hid (la.length = n)) (hm : Hid (lb.length = m))
    (h1 : n ≤ 9223372036854775807) (h2 : m ≤ 9223372036854775807) (R : Bool) (hR : Hid (R = decide (la = lb))) :
    Calls Tryz.prog 35 #[.slice A n c, .slice B m d] w fun e w' => e = .returned (.bool R) ∧ Keep NoB w w' := by
  by_cases hnm : n = m
  · subst hnm
    go_enter Tryz.func35, Tryz.ntmps35
    go_wp2
    go_loopw [5] (fun i wr => ∃ k : Nat, k ≤ n ∧ i = .int .i64 k ∧ Hid (la.take k = lb.take k) ∧ Keep NoB w wr) (fun i _ => n - (intOf i).toNat)
    case atStart => exact ⟨0, Nat.zero_le _, rfl, rfl, Keep.refl _ _⟩
    case round =>
      obtain ⟨k, hk, rfl, ht, hK⟩ := hrel
      by_cases hlt : k < n
      · have hka : k < la.length := by rw [hn.out]; exact hlt
        have hkb : k < lb.length := by rw [hm.out]; exact hlt
        obtain ⟨ga, oa, rfl, hca⟩ := rdV_at ha (by omega)
        obtain ⟨gb, ob, rfl, hcb⟩ := rdV_at hb (by omega)
        have ca0 := hK.cell (hca k hka).1 id
        have ca1 := hK.cell (hca k hka).2 id
        have cb0 := hK.cell (hcb k hkb).1 id
        have cb1 := hK.cell (hcb k hkb).2 id
        have HT := Lib.hid (show la.take (k + 1) = la.take k ++ [la[k]] from List.take_succ_eq_append_getElem hka)
        have HU := Lib.hid (show lb.take (k + 1) = lb.take k ++ [lb[k]] from List.take_succ_eq_append_getElem hkb)
        clear hca hcb
        by_cases he : la[k] = lb[k]
        · have HV : Hid (la.take (k + 1) = lb.take (k + 1)) := by show _ = _; rw [HT.out, HU.out, ht.out, he]
          rw [he] at ca0 ca1
          clear he HT HU ha hb
          generalize lb[k] = y at ca0 ca1 cb0 cb1
          obtain ⟨y0, y1⟩ := y
          dsimp only at ca0 ca1 cb0 cb1
          go_wp2
          go_quiet (fail)
          go_wp2
          go_roundw
          case rel => exact ⟨k + 1, by omega, by go_num, HV, hK.drewN _⟩
          case measure => simp [intOf]; omega
        · have hf : R = false := by
            rw [hR.out, decide_eq_false_iff_not]
            intro e
            exact he (by simp [e])
          subst hf
          clear HT HU ha hb
          generalize la[k] = x at ca0 ca1 he
          generalize lb[k] = y at cb0 cb1 he
          obtain ⟨x0, x1⟩ := x
          obtain ⟨y0, y1⟩ := y
          dsimp only at ca0 ca1 cb0 cb1
          by_cases h0 : x0 = y0
          · subst h0
            have hne : (x1 == y1) = false := by rw [beq_eq_false_iff_ne]; rintro rfl; exact he rfl
            clear he
            go_wp2
            go_quiet (fail)
            go_wp2
            go_ret
            exact ⟨rfl, hK.drewN _⟩
          · have hne : (x0 == y0) = false := by rw [beq_eq_false_iff_ne]; exact h0
            clear he h0
            go_wp2
            go_quiet (fail)
            go_wp2
            go_ret
            exact ⟨rfl, hK.drewN _⟩
      · have hf : R = true := by
          rw [hR.out, decide_eq_true_iff]
          have e1 := ht.out
          rwa [List.take_of_length_le (by rw [hn.out]; omega), List.take_of_length_le (by rw [hm.out]; omega)] at e1
        subst hf
        go_wp2
        go_ret
        exact ⟨rfl, hK⟩
  · have hf : R = false := by
      rw [hR.out, decide_eq_false_iff_not]
      intro e
      exact hnm (by rw [← hn.out, ← hm.out, e])
    subst hf
    have hne : ((n : Int) != (m : Int)) = true := by rw [bne_iff_ne]; omega
    clear hnm
    go_enter Tryz.func35, Tryz.ntmps35
    go_wp2
    go_ret
    exact ⟨rfl, Keep.refl _ _⟩

end Go.Proofs.YtbnekeomdhljhaaGreatDoor.W

namespace Go.Proofs.YtbnekeomdhljhaaGreatDoor.W
open Go.RowKit

theorem rd_new (w : World) (E : TypeId) (cs : Array Value) : Rd (w.alloc (.cells cs E)) (some ⟨w.heap.size, 0, none⟩) cs.toList := fun _ =>
  ⟨_, _, rfl, fun j u hu => by rw [Nat.zero_add, (Blk.new w E cs).cell j]; simpa using hu⟩

theorem own_after {w W W' : World} {E size n : Nat} {v v' : Value} {xs : List Value} (ho : ∀ g, v.ownBlock = some g → Fresh w g) (hK : Keep NoB w W) (hg : W.grownBy W' v.ownBlock)
    (hv : v'.ownBlock = v.ownBlock ∨ v'.ownBlock = some W.heap.size) (hrow : W'.ownsRow 0 E size v' n xs) : Own W' E size (Fresh w) v' n xs ∧ Keep NoB w W' := by
  refine ⟨⟨hrow, fun g e => ?_⟩, hK.grown hg (fun g e h => by have := ho g e; unfold Fresh at this; omega)⟩
  rcases hv with h | h
  · exact ho g (h ▸ e)
  · rw [h] at e; cases e; exact hK.size

theorem rd_made {w : World} {E : TypeId} {cs : Array Value} {b : Nat} {xs : List Value} (hb : b = w.heap.size) (hx : xs = cs.toList) : Rd (w.alloc (.cells cs E)) (some ⟨b, 0, none⟩) xs := by
  subst hb hx; exact rd_new w E cs

/-- The zeros of types. -/
def zs (l : List Int) : List (Int × Int) := l.map fun t => (t, 0)

set_option maxRecDepth 100000 in
set_option maxHeartbeats 4000000 in
theorem zeros_any (A : Option Addr) (l : List Int) (n c : Nat) (w : World) (ha : Rd w A (ivs l)) (hn : Hid (l.length = n)) (h1 : n ≤ 4096) :
    Calls Tryz.prog 85 #[.slice A n c] w fun e w' => Keep NoB w w' ∧
      ((l.all knownB = true ∧ ∃ B d, e = .returned (.tuple #[.slice B n d, .int .i64 0]) ∧ Own w' 68 2 (Fresh w) (.slice B n d) n (vvs (zs l))) ∨
       (l.all knownB = false ∧ e = .returned (.tuple #[.slice none 0 0, .int .i64 20]))) := by
  obtain ⟨i0, hi, hz0, hz1, hz2⟩ := info_parts val_info
  go_enter Tryz.func85, Tryz.ntmps85
  go_wp2_with (at_make; refine wpList_make_own _ rfl _ _ 53 rfl w.heap.size 68 i0 _ 2 Tryz.underlying53 hi hz0 hz1 _ _ _ n rfl rfl rfl (by rw [hz2]; omega) (by unfold maxLen; omega) (Nat.le_refl _) ?_; intro w1 hrow1 hg1)
  have hO0 : Own w1 68 2 (Fresh w) (.slice (some ⟨w.heap.size, 0, none⟩) 0 n) 0 (vvs (zs (l.take 0))) := Own.of_row hrow1 (fun _ h => h)
  have hK0 : Keep NoB w w1 := (Keep.refl NoB w).grown hg1 (fun g e _ => by cases e)
  clear hrow1 hg1
  go_loopw [4, 14] (fun v i wr => ∃ k : Nat, k ≤ n ∧ i = .int .i64 k ∧ (∃ B d, v = .slice B k d ∧ Own wr 68 2 (Fresh w) (.slice B k d) k (vvs (zs (l.take k)))) ∧ Hid ((l.take k).all knownB = true) ∧ Keep NoB w wr) (fun _ i _ => n - (intOf i).toNat)
  case atStart => exact ⟨0, Nat.zero_le _, rfl, ⟨_, _, rfl, hO0⟩, rfl, hK0⟩
  case round =>
    obtain ⟨k, hk, rfl, ⟨B, d, rfl, hO⟩, hall, hK⟩ := hrel
    clear hO0 hK0
    by_cases hlt : k < n
    · have hka : k < l.length := by rw [hn.out]; exact hlt
      obtain ⟨g, off, rfl, hc⟩ := rdI_at ha (by omega)
      have ca := hK.cell (hc k hka) id
      clear hc
      have HT := Lib.hid (show l.take (k + 1) = l.take k ++ [l[k]] from List.take_succ_eq_append_getElem hka)
      have HM := Lib.hid (List.getElem_mem hka)
      generalize l[k] = t at ca HT HM
      cases hkn : knownB t
      · go_wp2_with fail
        refine (zero_bad t _ hkn).mono ?_
        rintro e w2 ⟨rfl, hk2⟩
        go_wp2
        go_ret2
        refine ⟨(keepN hK hk2).alloc _, .inr ⟨?_, rfl⟩⟩
        rw [List.all_eq_false]
        exact ⟨t, HM.out, by simp [hkn]⟩
      · have hall2 : Hid ((l.take (k + 1)).all knownB = true) := by show _ = _; rw [HT.out, List.all_append, hall.out]; simp [hkn]
        have HZ : Hid (vvs (zs (l.take (k + 1))) = vvs (zs (l.take k)) ++ [.int .i64 t, .int .i64 0]) := by show _ = _; rw [HT.out]; simp [zs, vvs]
        go_wp2_with fail
        refine (zero_ok t _ hkn).mono ?_
        rintro e w2 ⟨rfl, hk2⟩
        have hO2 := hO.keepN hk2
        have hK2 := keepN hK hk2
        clear hkn HT HM hall hO hK ca
        go_wp2_with (at_builtin; refine wpList_append_rd _ rfl (.tmp 26) (.tmp 28) _ rfl 68 2 16 i0 _ Tryz.underlying53 hi hz0 hz1 hz2 rfl (by decide) _ k _ _ 1 _ [.int .i64 t, .int .i64 0] rfl ((hO2.1.alloc _).alloc _) rfl (rd_made (by simp) rfl) rfl (by simp [Value.oneCell']) (by unfold maxLen; omega) (by omega) ?_; intro B2 d2 w3 hrow3 hg3 hv3; rw [← HZ.out] at hrow3; obtain ⟨hO3, hK3⟩ := own_after hO2.2 ((hK2.alloc _).alloc _) hg3 hv3 hrow3; clear hrow3 hg3 hv3)
        go_roundw
        case rel => exact ⟨k + 1, by omega, by go_num, ⟨B2, d2, rfl, hO3⟩, hall2, hK3⟩
        case measure => simp [intOf]; omega
    · obtain rfl : k = n := by omega
      rw [List.take_of_length_le (by rw [hn.out]; omega)] at hO hall
      have hall' := hall.out
      have H := Lib.hid hall'
      clear hall hall'
      go_wp2
      go_ret2
      exact ⟨hK, .inl ⟨H.out, B, d, rfl, hO⟩⟩

/-- What Zeros answers, in one form. -/
def zN (l : List Int) (n : Nat) : Nat := if l.all knownB = true then n else 0
def zL (l : List Int) : List (Int × Int) := if l.all knownB = true then zs l else []
def zE (l : List Int) : Int := if l.all knownB = true then 0 else 20
theorem zL_length (l : List Int) : (zL l).length = zN l l.length := by unfold zL zN; split <;> simp [zs]
theorem zeros_form {l : List Int} {n : Nat} {w w' : World} {e : Ending} (h : Keep NoB w w' ∧
      ((l.all knownB = true ∧ ∃ B d, e = .returned (.tuple #[.slice B n d, .int .i64 0]) ∧ Own w' 68 2 (Fresh w) (.slice B n d) n (vvs (zs l))) ∨
       (l.all knownB = false ∧ e = .returned (.tuple #[.slice none 0 0, .int .i64 20])))) :
    ∃ B d, e = .returned (.tuple #[.slice B (zN l n) d, .int .i64 (zE l)]) ∧ Own w' 68 2 (Fresh w) (.slice B (zN l n) d) (zN l n) (vvs (zL l)) ∧ Keep NoB w w' := by
  obtain ⟨hK, ⟨h1, B, d, rfl, hO⟩ | ⟨h1, rfl⟩⟩ := h
  · have e1 : zN l n = n := by unfold zN; rw [if_pos h1]
    have e2 : zL l = zs l := by unfold zL; rw [if_pos h1]
    have e3 : zE l = 0 := by unfold zE; rw [if_pos h1]
    rw [e1, e2, e3]
    exact ⟨B, d, rfl, hO, hK⟩
  · have h2 : ¬ l.all knownB = true := by rw [h1]; decide
    have e1 : zN l n = 0 := by unfold zN; rw [if_neg h2]
    have e2 : zL l = [] := by unfold zL; rw [if_neg h2]
    have e3 : zE l = 20 := by unfold zE; rw [if_neg h2]
    rw [e1, e2, e3]
    exact ⟨none, 0, rfl, Own.nil _ _ _ _, hK⟩
theorem zeros_u (A : Option Addr) (l : List Int) (n c : Nat) (w : World) (ha : Rd w A (ivs l)) (hn : Hid (l.length = n)) (h1 : n ≤ 4096) :
    Calls Tryz.prog 85 #[.slice A n c] w fun e w' => ∃ B d, e = .returned (.tuple #[.slice B (zN l n) d, .int .i64 (zE l)]) ∧ Own w' 68 2 (Fresh w) (.slice B (zN l n) d) (zN l n) (vvs (zL l)) ∧ Keep NoB w w' :=
  (zeros_any A l n c w ha hn h1).mono fun _ _ h => zeros_form h

/-- The types of values. -/
def ts (x : List (Int × Int)) : List Int := x.map (·.1)

end Go.Proofs.YtbnekeomdhljhaaGreatDoor.W

namespace Go.Proofs.YtbnekeomdhljhaaGreatDoor.W
open Go.RowKit

/-- May all of the values be, and have they just these types? -/
def allOk (x : List (Int × Int)) : Bool := x.all fun v => okB v.1 v.2
def fitsB (l : List Int) (x : List (Int × Int)) : Bool := decide (l = ts x) && allOk x
theorem fits_true (l : List Int) (x : List (Int × Int)) : fitsB l x = true ↔ l = ts x ∧ allOk x = true := by unfold fitsB; simp
theorem fits_false (l : List Int) (x : List (Int × Int)) (h : ¬ (l = ts x ∧ allOk x = true)) : fitsB l x = false := by
  cases hf : fitsB l x
  · rfl
  · exact absurd ((fits_true l x).1 hf) h

set_option maxRecDepth 100000 in
set_option maxHeartbeats 4000000 in
theorem fits_any (A B : Option Addr) (l : List Int) (x : List (Int × Int)) (n m c d : Nat) (w : World) (ha : Rd w A (ivs l)) (hb : Rd w B (vvs x)) (hn : Hid (l.length = n)) (hm : Hid (x.length = m))
    (h1 : n ≤ 9223372036854775807) (h2 : m ≤ 9223372036854775807) (R : Bool) (hR : Hid (R = fitsB l x)) :
    Calls Tryz.prog 84 #[.slice A n c, .slice B m d] w fun e w' => e = .returned (.bool R) ∧ Keep NoB w w' := by
  by_cases hnm : n = m
  · subst hnm
    go_enter Tryz.func84, Tryz.ntmps84
    go_wp2
    go_loopw [14] (fun i wr => ∃ k : Nat, k ≤ n ∧ i = .int .i64 k ∧ Hid (l.take k = ts (x.take k) ∧ allOk (x.take k) = true) ∧ Keep NoB w wr) (fun i _ => n - (intOf i).toNat)
    case atStart => exact ⟨0, Nat.zero_le _, rfl, ⟨rfl, rfl⟩, Keep.refl _ _⟩
    case round =>
      obtain ⟨k, hk, rfl, ht, hK⟩ := hrel
      by_cases hlt : k < n
      · have hka : k < l.length := by rw [hn.out]; exact hlt
        have hkb : k < x.length := by rw [hm.out]; exact hlt
        obtain ⟨ga, oa, rfl, hca⟩ := rdI_at ha (by omega)
        obtain ⟨gb, ob, rfl, hcb⟩ := rdV_at hb (by omega)
        have ca := hK.cell (hca k hka) id
        have cb0 := hK.cell (hcb k hkb).1 id
        have cb1 := hK.cell (hcb k hkb).2 id
        have HT := Lib.hid (show l.take (k + 1) = l.take k ++ [l[k]] from List.take_succ_eq_append_getElem hka)
        have HU := Lib.hid (show x.take (k + 1) = x.take k ++ [x[k]] from List.take_succ_eq_append_getElem hkb)
        have HX : Hid (l = ts x → l[k] = x[k].1) := fun e => by simp [e, ts]
        have HY : Hid (allOk x = true → okB x[k].1 x[k].2 = true) := fun e => (List.all_eq_true.1 e) _ (List.getElem_mem hkb)
        clear hca hcb
        generalize l[k] = u at ca HT HX
        generalize x[k] = y at cb0 cb1 HU HX HY
        obtain ⟨t, v⟩ := y
        dsimp only at cb0 cb1 HX HY
        have hB := Blk.new wr 68 #[.int .i64 t, .int .i64 v]
        have hKW := hK.alloc (.cells #[.int .i64 t, .int .i64 v] 68)
        have hca := ((Keep.refl NoB wr).alloc (.cells #[.int .i64 t, .int .i64 v] 68)).cell ca id
        by_cases he : t = u
        · subst he
          have HQ : Hid (∀ w', Keep NoB (wr.alloc (.cells #[.int .i64 t, .int .i64 v] 68)) w' → w'.cell? ⟨wr.heap.size, 0, none⟩ = some (.int .i64 t) ∧ w'.cell? ⟨wr.heap.size, 1, none⟩ = some (.int .i64 v) ∧ w'.cell? ⟨ga, oa + k, none⟩ = some (.int .i64 t)) :=
            fun w' hk' => ⟨(hB.keep hk' id).cell 0, (hB.keep hk' id).cell 1, hk'.cell hca id⟩
          have hd0 := (Keep.refl NoB (wr.alloc (.cells #[.int .i64 t, .int .i64 v] 68))).drew
          cases hok : okB t v
          · have hf : R = false := by
              rw [hR.out]
              exact fits_false l x (fun h => by rw [HY.out h.2] at hok; cases hok)
            subst hf
            have HC := Lib.hid (check_bad t v · hok)
            clear HT HU HX HY hok ha hb hB hca
            go_wp2
            go_region_held (fun w' => w'.cell? ⟨wr.heap.size, 0, none⟩ = some (.int .i64 t) ∧ w'.cell? ⟨wr.heap.size, 1, none⟩ = some (.int .i64 v) ∧ w'.cell? ⟨ga, oa + k, none⟩ = some (.int .i64 t))
              (first | exact HQ.out _ hd0 | exact HQ.out _ (keepN hd0 hk2))
              ((go_at_call 135; refine (HC.out _).mono ?_; rintro e w2 ⟨rfl, hk2⟩))
            all_goals go_wp2
            all_goals go_ret
            all_goals exact ⟨rfl, keepN hKW.drew hk2⟩
          · have ht2 : Hid (l.take (k + 1) = ts (x.take (k + 1)) ∧ allOk (x.take (k + 1)) = true) := by
              obtain ⟨e1, e2⟩ := ht.out
              refine ⟨?_, ?_⟩
              · rw [HT.out, HU.out, e1]; simp [ts]
              · unfold allOk at e2 ⊢; rw [HU.out, List.all_append, e2]; simp [hok]
            have HC := Lib.hid (check_ok t v · hok)
            clear HT HU HX HY hok ha hb hB hca
            go_wp2
            go_region_held (fun w' => w'.cell? ⟨wr.heap.size, 0, none⟩ = some (.int .i64 t) ∧ w'.cell? ⟨wr.heap.size, 1, none⟩ = some (.int .i64 v) ∧ w'.cell? ⟨ga, oa + k, none⟩ = some (.int .i64 t))
              (first | exact HQ.out _ hd0 | exact HQ.out _ (keepN hd0 hk2))
              ((go_at_call 135; refine (HC.out _).mono ?_; rintro e w2 ⟨rfl, hk2⟩))
            all_goals go_wp2
            all_goals go_roundw
            all_goals first | (case rel => exact ⟨k + 1, by omega, by go_num, ht2, keepN hKW.drew hk2⟩) | skip
            all_goals first | (case measure => simp [intOf]; omega) | skip
        · have hf : R = false := by
            rw [hR.out]
            exact fits_false l x (fun h => he (HX.out h.1).symm)
          subst hf
          have hne : (t != u) = true := by rw [bne_iff_ne]; exact he
          have hc0 : (wr.alloc (.cells #[.int .i64 t, .int .i64 v] 68)).cell? ⟨wr.heap.size, 0, none⟩ = some (.int .i64 t) := hB.cell 0
          have hc1 : (wr.alloc (.cells #[.int .i64 t, .int .i64 v] 68)).cell? ⟨wr.heap.size, 1, none⟩ = some (.int .i64 v) := hB.cell 1
          clear HT HU HX HY he ha hb hB
          go_wp2
          generalize wr.alloc (.cells #[.int .i64 t, .int .i64 v] 68) = W0 at hca hc0 hc1 hKW ⊢
          go_quiet (fail)
          go_wp2
          go_ret
          exact ⟨rfl, hKW.drewN _⟩
      · have hf : R = true := by
          rw [hR.out, fits_true]
          have e1 := ht.out
          rwa [List.take_of_length_le (by rw [hn.out]; omega), List.take_of_length_le (by rw [hm.out]; omega)] at e1
        subst hf
        go_wp2
        go_ret
        exact ⟨rfl, hK⟩
  · have hf : R = false := by
      rw [hR.out]
      exact fits_false l x (fun h => hnm (by rw [← hn.out, ← hm.out, h.1]; simp [ts]))
    subst hf
    have hne : ((n : Int) != (m : Int)) = true := by rw [bne_iff_ne]; omega
    clear hnm
    go_enter Tryz.func84, Tryz.ntmps84
    go_wp2
    go_ret
    exact ⟨rfl, Keep.refl _ _⟩

end Go.Proofs.YtbnekeomdhljhaaGreatDoor.W

namespace Go.Proofs.YtbnekeomdhljhaaGreatDoor.W
open Go.RowKit

theorem gLet : Tryz.prog.globalNamed "backstay/value.letters" = some 1 := by kernel_rfl
theorem gPow : Tryz.prog.globalNamed "internal/strconv.uint64pow10" = some 4 := by kernel_rfl
theorem gSyn : Tryz.prog.globalNamed "strconv.ErrSyntax" = some 5 := by kernel_rfl
theorem gRng : Tryz.prog.globalNamed "strconv.ErrRange" = some 6 := by kernel_rfl

theorem var_keep {n : String} {g : Nat} {cs : Array Value} {w w' : World} (hg : Tryz.prog.globalNamed n = some g) (h : w.var? Tryz.prog n = some cs) (hk : Keep NoB w w') : w'.var? Tryz.prog n = some cs :=
  Go.Joins.var_stays hg h hk.toBelow (Nat.le_refl _)

def letV : Array Value := #[.int .i32 0, .int .i32 73, .int .i32 82, .int .i32 70, .int .i32 80]
def sigV : Array Value := #[.string ⟨#[]⟩, .string ⟨#[]⟩, .string ⟨#[35]⟩, .string ⟨#[64]⟩, .string ⟨#[38]⟩]

/-- The letters stand. -/
def LetAt (w : World) : Prop := w.var? Tryz.prog "backstay/value.letters" = some letV
theorem LetAt.keep {w w' : World} (h : LetAt w) (hk : Keep NoB w w') : LetAt w' := var_keep gLet h hk
theorem LetAt.cell {w : World} (h : LetAt w) (i : Nat) : w.cell? ⟨1, i, none⟩ = letV[i]? := World.var?_cell gLet h i

/-- What the texts of values are made with stands. -/
structure Laid (w : World) : Prop where
  pow : Lib.TabIs Tryz.prog w "internal/strconv.uint64pow10" .u64 Lib.pow10Tab
  syn : ∃ tp p, w.var? Tryz.prog "strconv.ErrSyntax" = some #[.iface tp p]
  rng : ∃ tp p, w.var? Tryz.prog "strconv.ErrRange" = some #[.iface tp p]
theorem Laid.keep {w w' : World} (h : Laid w) (hk : Keep NoB w w') : Laid w' :=
  ⟨var_keep gPow h.pow hk, h.syn.imp fun _ ⟨p, hp⟩ => ⟨p, var_keep gSyn hp hk⟩, h.rng.imp fun _ ⟨p, hp⟩ => ⟨p, var_keep gRng hp hk⟩⟩
set_option maxRecDepth 100000 in
set_option maxHeartbeats 1000000 in
theorem letter_any (t : Int) (w : World) (h : LetAt w) :
    Calls Tryz.prog 179 #[.int .i64 t] w fun e w' => e = .returned (.string (str (letC t))) ∧ w = w' := by
  cases hk : knownB t
  · have HL := Lib.hid (letC_none hk)
    go_enter Tryz.func179, Tryz.ntmps179
    go_wp2_with (go_at_call 124; refine (known_any _ _).mono ?_; rintro e w' ⟨rfl, rfl⟩)
    go_ret
    exact ⟨by rw [HL.out]; rfl, rfl⟩
  · rcases known_cases hk with rfl | rfl | rfl | rfl
    · have c : w.cell? ⟨1, 1, none⟩ = some (.int .i32 73) := h.cell 1
      go_enter Tryz.func179, Tryz.ntmps179
      go_wp2_with (go_at_call 124; refine (known_any _ _).mono ?_; rintro e w' ⟨rfl, rfl⟩)
      go_ret
      exact ⟨rfl, rfl⟩
    · have c : w.cell? ⟨1, 2, none⟩ = some (.int .i32 82) := h.cell 2
      go_enter Tryz.func179, Tryz.ntmps179
      go_wp2_with (go_at_call 124; refine (known_any _ _).mono ?_; rintro e w' ⟨rfl, rfl⟩)
      go_ret
      exact ⟨rfl, rfl⟩
    · have c : w.cell? ⟨1, 3, none⟩ = some (.int .i32 70) := h.cell 3
      go_enter Tryz.func179, Tryz.ntmps179
      go_wp2_with (go_at_call 124; refine (known_any _ _).mono ?_; rintro e w' ⟨rfl, rfl⟩)
      go_ret
      exact ⟨rfl, rfl⟩
    · have c : w.cell? ⟨1, 4, none⟩ = some (.int .i32 80) := h.cell 4
      go_enter Tryz.func179, Tryz.ntmps179
      go_wp2_with (go_at_call 124; refine (known_any _ _).mono ?_; rintro e w' ⟨rfl, rfl⟩)
      go_ret
      exact ⟨rfl, rfl⟩

end Go.Proofs.YtbnekeomdhljhaaGreatDoor.W

namespace Go.Proofs.YtbnekeomdhljhaaGreatDoor.W
open Go.RowKit

theorem str_app (a b : List UInt8) : str a ++ str b = str (a ++ b) := by
  apply ByteArray.ext
  simp [ByteArray.data_append]

theorem sgn_len (t : Int) : (sgn t).length ≤ 1 := by unfold sgn; split <;> (try split) <;> (try split) <;> simp

end Go.Proofs.YtbnekeomdhljhaaGreatDoor.W

namespace Go.Proofs.YtbnekeomdhljhaaGreatDoor.A
open Go.ChangeShapes Go.WideShapes Go.ChangeAt Go.RowKit

/-- Texts as a datum. -/
def strD (l : List (List UInt8)) : DataW Unit := .agg (l.map fun s => .lit (.string s))

theorem strs_of_head {P : Program} {W : World} {name : String} {l : List (List UInt8)} {rest : List (String × DataW Unit)} {g : Nat} {t e : TypeId} {n : Nat}
    (hg : P.globalNamed name = some g) (hty : (P.globals[g]?).map (·.type) = some t) (ht : P.underlying t = some (.array n e)) (he : P.underlying e = some .string) (hce : P.cellsOf e = 1) (hct : P.cellsOf t = n)
    (h : laidMet P ((name, strD l) :: rest) W) : W.var? P name = some (svs l).toArray := by
  obtain ⟨ps, ⟨g', t', cs, fuel, p, q, hg', ht', hvar, hd, _, _⟩, _⟩ := h
  obtain rfl := Option.some.inj (hg.symm.trans hg')
  obtain rfl := Option.some.inj (hty.symm.trans ht')
  obtain ⟨xs, m, _, ex, hlen, hl, hel⟩ := DataW.trod_array ht hd
  rw [hct] at hlen
  rw [hce] at hel
  have e3 : l.map (fun s => (DataW.lit (.string s) : DataW Unit)) = xs.map (·.1) := DataW.agg.inj (Prod.mk.inj ex).1
  have hll : l.length = n := by have := congrArg List.length e3; simpa [hl] using this
  have key : cs.toList = svs l := by
    refine List.ext_getElem (by simp [hlen, hll]) fun i h1 h2 => ?_
    have hin : i < n := by rw [← hlen]; exact h1
    have k := hel i hin
    have hix : i < xs.length := by rw [hl]; exact hin
    rw [List.getElem?_eq_getElem hix, Nat.mul_one, List.drop_eq_getElem_cons h1] at k
    obtain ⟨z, a0, b0, _⟩ := DataW.trod_string he k
    have a1 : cs.toList[i] = .string z := by simpa using a0
    have hil : i < l.length := by rw [hll]; exact hin
    have b1 : (DataW.lit (.string l[i]) : DataW Unit) = (xs[i]).1 := by
      have := congrArg (fun y => y[i]?) e3
      simpa [hil, hix] using this
    rw [b0] at b1
    simp only [DataW.lit.injEq, Lit.string.injEq] at b1
    rw [a1, List.getElem_map, b1]
  rw [hvar]
  have : cs = (svs l).toArray := by rw [← key]
  rw [this]

theorem strs_cell {P : Program} {W : World} {name : String} {l : List (List UInt8)} {g : Nat} (hg : P.globalNamed name = some g) (h : W.var? P name = some (svs l).toArray) (i : Nat) (hi : i < l.length) :
    W.cell? ⟨g, i, none⟩ = some (.string (str l[i])) := by
  have := World.var?_cell hg h i
  simpa [hi] using this

end Go.Proofs.YtbnekeomdhljhaaGreatDoor.A

namespace Go.Proofs.YtbnekeomdhljhaaGreatDoor.A
open Go.RowKit

theorem gBin : Tryz.prog.globalNamed "backstay/alu.binNames" = some 2 := by kernel_rfl
theorem gUn : Tryz.prog.globalNamed "backstay/alu.unNames" = some 3 := by kernel_rfl
theorem var_keepA {n : String} {g : Nat} {cs : Array Value} {w w' : World} (hg : Tryz.prog.globalNamed n = some g) (h : w.var? Tryz.prog n = some cs) (hk : Keep NoB w w') : w'.var? Tryz.prog n = some cs :=
  Go.Joins.var_stays hg h hk.toBelow (Nat.le_refl _)

/-- The names stand. -/
structure NamesAt (w : World) : Prop where
  bin : w.var? Tryz.prog "backstay/alu.binNames" = some (svs binNs).toArray
  un : w.var? Tryz.prog "backstay/alu.unNames" = some (svs unNs).toArray
theorem NamesAt.keep (w w' : World) (h : NamesAt w) (hk : Keep NoB w w') : NamesAt w' := ⟨var_keepA gBin h.bin hk, var_keepA gUn h.un hk⟩

/-- What a function of names answers, in the same world. -/
def NmS (f : FuncId) (l : List (List UInt8)) : Prop := ∀ (n : Int) (W : World), NamesAt W → -9223372036854775808 ≤ n ∧ n ≤ 9223372036854775807 →
  Calls Tryz.prog f #[.int .i64 n] W fun e w' => e = .returned (.string (str (nameAt l n))) ∧ W = w'
theorem NmS.nmC {f : FuncId} {l : List (List UInt8)} (h : NmS f l) : NmC NamesAt f l := fun n W hW hn => (h n W hW hn).mono fun e w' ⟨he, hw⟩ => ⟨he, by rw [← hw]; exact Keep.refl _ _⟩

set_option maxHeartbeats 4000000 in
theorem binName_any : NmS 181 binNs := fun n w h _ => by
  by_cases hi : 0 ≤ n ∧ n < 14
  · obtain ⟨k, rfl⟩ := Int.eq_ofNat_of_zero_le hi.1
    have hkl : k < binNs.length := by have : binNs.length = 14 := rfl; omega
    have hck := strs_cell gBin h.bin k hkl
    have HD : Hid (nameAt binNs (k : Int) = binNs[k]) := Lib.hid (by unfold nameAt; rw [if_pos hi.1, Int.toNat_natCast, getD_at hkl])
    generalize binNs[k] = x at hck HD
    clear h hkl
    go_enter Tryz.func181, Tryz.ntmps181
    go_wp2
    go_ret
    exact ⟨by rw [HD.out]; rfl, rfl⟩
  · have HD : Hid (nameAt binNs n = []) := Lib.hid (by
      unfold nameAt
      split
      · have : binNs.length ≤ n.toNat := by have : binNs.length = 14 := rfl; omega
        exact getD_past this
      · rfl)
    by_cases h0 : n < 0
    · go_enter Tryz.func181, Tryz.ntmps181
      go_wp2
      go_ret
      exact ⟨by rw [HD.out]; rfl, rfl⟩
    · have h2 : (14 : Int) ≤ n := by omega
      have h0' : decide (n < 0) = false := by simpa using h0
      go_enter Tryz.func181, Tryz.ntmps181
      go_wp2
      go_ret
      exact ⟨by rw [HD.out]; rfl, rfl⟩

set_option maxHeartbeats 4000000 in
theorem unName_any : NmS 183 unNs := fun n w h _ => by
  by_cases hi : 0 ≤ n ∧ n < 9
  · obtain ⟨k, rfl⟩ := Int.eq_ofNat_of_zero_le hi.1
    have hkl : k < unNs.length := by have : unNs.length = 9 := rfl; omega
    have hck := strs_cell gUn h.un k hkl
    have HD : Hid (nameAt unNs (k : Int) = unNs[k]) := Lib.hid (by unfold nameAt; rw [if_pos hi.1, Int.toNat_natCast, getD_at hkl])
    generalize unNs[k] = x at hck HD
    clear h hkl
    go_enter Tryz.func183, Tryz.ntmps183
    go_wp2
    go_ret
    exact ⟨by rw [HD.out]; rfl, rfl⟩
  · have HD : Hid (nameAt unNs n = []) := Lib.hid (by
      unfold nameAt
      split
      · have : unNs.length ≤ n.toNat := by have : unNs.length = 9 := rfl; omega
        exact getD_past this
      · rfl)
    by_cases h0 : n < 0
    · go_enter Tryz.func183, Tryz.ntmps183
      go_wp2
      go_ret
      exact ⟨by rw [HD.out]; rfl, rfl⟩
    · have h2 : (9 : Int) ≤ n := by omega
      have h0' : decide (n < 0) = false := by simpa using h0
      go_enter Tryz.func183, Tryz.ntmps183
      go_wp2
      go_ret
      exact ⟨by rw [HD.out]; rfl, rfl⟩

set_option maxHeartbeats 4000000 in
theorem named_any (f : FuncId) (hcf : ∀ (args : Array Value) (w : World), (callFunc f args).run Tryz.prog w = .ok (.enter f args) w) (l : List (List UInt8)) (n : Nat) (N : Hid (NmS f l)) (S : ByteArray) (s : List UInt8) (w : World) (h : NamesAt w)
    (hn : Hid (l.length = n)) (h1 : n ≤ 100000) (hs : Hid (S.data.toList = s)) :
    Calls Tryz.prog 202 #[.string S, .int .i64 n, .func (.func f) #[] #[]] w fun e w' => e = .returned (.tuple #[.int .i64 (ofI l s), .int .i64 (ofE l s)]) ∧ w = w' := by
  have hS : S.toList = s := by rw [ByteArray.toList_eq, hs.out]
  have HN := Lib.hid (fun n hn => N.out n w h hn)
  clear h N
  go_enter Tryz.func202, Tryz.ntmps202
  go_wp2
  go_loop [10] (fun i => ∃ k : Nat, k ≤ n ∧ i = .int .i64 (k : Int) ∧ Hid (∀ j (_ : j < k), l.getD j [] ≠ s)) (fun i => n - (intOf i).toNat)
  case atStart => exact ⟨0, Nat.zero_le _, rfl, fun j hj => by omega⟩
  case round =>
    obtain ⟨k, hk, rfl, hb⟩ := hrel
    by_cases hlt : k < n
    · have hkl : k < l.length := by rw [hn.out]; exact hlt
      have HK := Lib.hid (HN.out (k : Int) ⟨by omega, by omega⟩)
      have hD : nameAt l (k : Int) = l[k] := by unfold nameAt; rw [if_pos (by omega), Int.toNat_natCast, getD_at hkl]
      have hE : Hid (l.getD k [] = l[k]) := getD_at hkl
      rw [hD] at HK
      clear hD
      by_cases he : l[k] = s
      · have HH := Lib.hid (of_hit hkl he hb.out)
        have hq : (l[k] == S.toList) = true := by rw [hS, he]; simp
        generalize l[k] = x at HK hq
        clear he hE hS
        go_wp2_with fail
        refine HK.out.mono ?_
        rintro e w' ⟨rfl, rfl⟩
        go_wp2
        go_ret2
        exact ⟨ret2 HH.out.1.symm HH.out.2.symm, rfl⟩
      · have hq : (l[k] == S.toList) = false := by rw [hS]; simpa using he
        have HB : Hid (∀ j (_ : j < k + 1), l.getD j [] ≠ s) := fun j hj => by
          rcases Nat.lt_succ_iff_lt_or_eq.1 hj with h | rfl
          · exact hb.out j h
          · rw [hE.out]; exact he
        generalize l[k] = x at HK hq
        clear he hE hS
        go_wp2_with fail
        refine HK.out.mono ?_
        rintro e w' ⟨rfl, rfl⟩
        go_wp2
        go_round
        case rel => exact ⟨k + 1, by omega, by go_num, HB⟩
        case measure => simp [intOf]; omega
    · obtain rfl : k = n := by omega
      have HH := Lib.hid (of_miss (l := l) (s := s) (fun j hj => hb.out j (by rw [← hn.out]; exact hj)))
      clear hS
      go_wp2
      go_ret2
      exact ⟨ret2 HH.out.1.symm HH.out.2.symm, rfl⟩

theorem binOf_any : OfC NamesAt 182 binNs := fun S s w h hs _ => by
  have H := Lib.hid (fun W hW => named_any 181 Tryz.call181 binNs 14 (Lib.hid binName_any) S s W hW rfl (by omega) hs)
  go_enter Tryz.func182, Tryz.ntmps182
  go_wp2_with (go_at_call 202; refine (H.out _ h).mono ?_; rintro e w' ⟨rfl, rfl⟩)
  go_ret2
  exact ⟨rfl, Keep.refl _ _⟩
theorem unOf_any : OfC NamesAt 184 unNs := fun S s w h hs _ => by
  have H := Lib.hid (fun W hW => named_any 183 Tryz.call183 unNs 9 (Lib.hid unName_any) S s W hW rfl (by omega) hs)
  go_enter Tryz.func184, Tryz.ntmps184
  go_wp2_with (go_at_call 202; refine (H.out _ h).mono ?_; rintro e w' ⟨rfl, rfl⟩)
  go_ret2
  exact ⟨rfl, Keep.refl _ _⟩

end Go.Proofs.YtbnekeomdhljhaaGreatDoor.A

namespace Go.Proofs.YtbnekeomdhljhaaGreatDoor.O
open Go.RowKit

/-- What the texts of operands are made with stands. -/
structure LaidO (w : World) : Prop where
  lets : W.LetAt w
  names : A.NamesAt w
  lib : W.Laid w
theorem LaidO.keep {w w' : World} (h : LaidO w) (hk : Keep NoB w w') : LaidO w' := ⟨h.lets.keep hk, A.NamesAt.keep _ _ h.names hk, h.lib.keep hk⟩
def I64 (n : Int) : Prop := -9223372036854775808 ≤ n ∧ n ≤ 9223372036854775807

theorem word_dig {k n : Int} (h : digK k = true) : word k n = Lib.itoa n := by
  have h := of_decide_eq_true h
  unfold word
  rw [if_neg (by omega), if_neg (by omega), if_neg (by omega)]
theorem dig_0 {k : Int} (h : digK k = true) : k ≠ 0 := by have h := of_decide_eq_true h; omega
theorem word_0 {k : Int} (h : wordK k = true) : k ≠ 0 := by have h := of_decide_eq_true h; omega

theorem nameAt_len {l : List (List UInt8)} {m : Nat} (h : l.all (fun s => decide (s.length ≤ m)) = true) (n : Int) : (A.nameAt l n).length ≤ m := by
  unfold A.nameAt
  split
  · rcases Nat.lt_or_ge n.toNat l.length with hlt | hge
    · rw [A.getD_at hlt]
      exact of_decide_eq_true (List.all_eq_true.1 h _ (List.getElem_mem hlt))
    · rw [A.getD_past hge]; exact Nat.zero_le _
  · exact Nat.zero_le _
theorem word_len (k n : Int) (hn : I64 n) : (word k n).length ≤ 21 := by
  unfold word
  split
  · unfold W.letC
    repeat' split
    all_goals simp
  · split
    · exact Nat.le_trans (nameAt_len (m := 6) (by decide) n) (by omega)
    · split
      · exact Nat.le_trans (nameAt_len (m := 6) (by decide) n) (by omega)
      · exact Lib.itoa_length_le n hn.1 hn.2

set_option maxHeartbeats 1000000 in
theorem show_word (k n : Int) (b : Nat) (w : World) (hk : wordK k = true) (hn : I64 n) (h : LaidO w) (hb : w.cell? ⟨b, 0, none⟩ = some (fnV (wordF k))) :
    Calls Tryz.prog 199 #[.int .i64 n, .pointer (some ⟨b, 0, none⟩)] w fun e w' => ∃ d, e = .returned (.string d) ∧ Hid (d = str (word k n)) ∧ Keep NoB w w' := by
  have hk := of_decide_eq_true hk
  have hc : k = 8 ∨ k = 9 ∨ (k = 2 ∨ k = 3) := by omega
  clear hk
  rcases hc with rfl | rfl | hk
  · have HF := Lib.hid (A.binName_any n w h.names hn)
    have hb' : w.cell? ⟨b, 0, none⟩ = some (fnV 181) := hb
    clear h hn hb
    go_enter Tryz.func199, Tryz.ntmps199
    go_wp2_with fail
    refine HF.out.mono ?_
    rintro e w1 ⟨rfl, rfl⟩
    go_wp2
    go_ret
    exact ⟨_, rfl, rfl, Keep.refl _ _⟩
  · have HF := Lib.hid (A.unName_any n w h.names hn)
    have hb' : w.cell? ⟨b, 0, none⟩ = some (fnV 183) := hb
    clear h hn hb
    go_enter Tryz.func199, Tryz.ntmps199
    go_wp2_with fail
    refine HF.out.mono ?_
    rintro e w1 ⟨rfl, rfl⟩
    go_wp2
    go_ret
    exact ⟨_, rfl, rfl, Keep.refl _ _⟩
  · have HF := Lib.hid (W.letter_any n w h.lets)
    have hb' : w.cell? ⟨b, 0, none⟩ = some (fnV 179) := by rw [hb]; unfold wordF; rw [if_neg (by omega), if_neg (by omega)]
    have HW : Hid (word k n = W.letC n) := by show _ = _; unfold word; rw [if_pos (by omega)]
    clear h hn hb hk
    go_enter Tryz.func199, Tryz.ntmps199
    go_wp2_with fail
    refine HF.out.mono ?_
    rintro e w1 ⟨rfl, rfl⟩
    go_wp2
    go_ret
    exact ⟨_, rfl, by show _ = _; rw [HW.out], Keep.refl _ _⟩

end Go.Proofs.YtbnekeomdhljhaaGreatDoor.O

namespace Go.Proofs.YtbnekeomdhljhaaGreatDoor.O
open Go.RowKit

set_option maxHeartbeats 1000000 in
theorem rin_any (k n : Int) (p : Bool) (w : World) (hp : Hid (inK k n = p)) (h0 : 0 ≤ k) (h1 : k ≤ 10) (hI : I64 n) :
    Calls Tryz.prog 161 #[.int .i64 k, .int .i64 n] w fun e w' => e = .returned (.bool p) ∧ Keep NoB w w' := by
  by_cases hk : k = 1
  · subst hk
    have : p = true := by
      rw [← hp.out]
      exact decide_eq_true hI
    subst this
    clear hp h0 h1 hI
    go_enter Tryz.func161, Tryz.ntmps161
    go_wp2
    go_ret
    exact ⟨rfl, Keep.refl _ _⟩
  · have hq : (k == 1) = false := by rw [beq_eq_false_iff_ne]; exact hk
    have HL := Lib.hid (fun w => rleast_any k w h0 h1 hk)
    have HM := Lib.hid (fun w => rmost_any k w h0 h1 hk)
    have hd : Hid (decide (lo k ≤ n ∧ n ≤ hi k) = p) := hp
    clear hp h0 h1 hk hI
    generalize lo k = L at HL hd
    generalize hi k = M at HM hd
    cases d1 : decide (L ≤ n)
    · have : p = false := by rw [← hd.out]; exact decide_eq_false fun h => of_decide_eq_false d1 h.1
      subst this
      clear hd
      go_enter Tryz.func161, Tryz.ntmps161
      go_wp2_with fail
      refine (HL.out _).mono ?_
      rintro e w1 ⟨rfl, rfl⟩
      go_wp2
      go_ret
      exact ⟨rfl, Keep.refl _ _⟩
    · cases d2 : decide (n ≤ M)
      · have : p = false := by rw [← hd.out]; exact decide_eq_false fun h => of_decide_eq_false d2 h.2
        subst this
        clear hd
        go_enter Tryz.func161, Tryz.ntmps161
        go_wp2_with fail
        refine (HL.out _).mono ?_
        rintro e w1 ⟨rfl, rfl⟩
        go_wp2_with fail
        refine (HM.out _).mono ?_
        rintro e w1 ⟨rfl, k1⟩
        go_wp2
        go_ret
        exact ⟨rfl, k1⟩
      · have : p = true := by rw [← hd.out]; exact decide_eq_true ⟨of_decide_eq_true d1, of_decide_eq_true d2⟩
        subst this
        clear hd
        go_enter Tryz.func161, Tryz.ntmps161
        go_wp2_with fail
        refine (HL.out _).mono ?_
        rintro e w1 ⟨rfl, rfl⟩
        go_wp2_with fail
        refine (HM.out _).mono ?_
        rintro e w1 ⟨rfl, k1⟩
        go_wp2
        go_ret
        exact ⟨rfl, k1⟩

theorem blk_inst {w : World} {g : Nat} {t : TypeId} {a0 a1 a2 : Value} (h : Blk w g t #[a0, a1, a2]) : w.cell? ⟨g, 0, none⟩ = some a0 ∧ w.cell? ⟨g, 1, none⟩ = some a1 ∧ w.cell? ⟨g, 2, none⟩ = some a2 := ⟨h.cell 0, h.cell 1, h.cell 2⟩

set_option maxHeartbeats 2000000 in
theorem rcheck_any (op a b : Int) (w : World) (ha : I64 a) (hb : I64 b) :
    Calls Tryz.prog 132 #[instV op a b] w fun e w' => e = .returned (.int .i64 (chk op a b)) ∧ Keep NoB w w' := by
  obtain ⟨j0, j1, l0, l1⟩ := kinds_ok op
  obtain ⟨p, hp⟩ : ∃ p, Hid (inK (rowAt op).ka a = p) := ⟨_, rfl⟩
  obtain ⟨q, hq⟩ : ∃ q, Hid (inK (rowAt op).kb b = q) := ⟨_, rfl⟩
  have HA := Lib.hid (fun w => rin_any (rowAt op).ka a p w hp j0 j1 ha)
  have HB := Lib.hid (fun w => rin_any (rowAt op).kb b q w hq l0 l1 hb)
  have HK := Lib.hid (fun w => rkinds_any op w)
  have HX : Hid (chk op a b = if (isOp op && p && q) = true then 0 else 40) := by show _ = _; unfold chk okI; rw [hp.out, hq.out]
  clear j0 j1 l0 l1 hp hq ha hb
  generalize (rowAt op).ka = j at HA HK
  generalize (rowAt op).kb = l at HB HK
  generalize chk op a b = c at HX ⊢
  have bx0 := Blk.new w 74 #[.int .i64 op, .int .i64 a, .int .i64 b]
  have gK := (Keep.refl NoB w).alloc (.cells #[.int .i64 op, .int .i64 a, .int .i64 b] 74)
  go_enter Tryz.func132, Tryz.ntmps132
  go_wp2_with fail
  refine (HK.out _).mono ?_
  rintro e w1 ⟨rfl, rfl⟩
  go_wp2_with fail
  refine (HA.out _).mono ?_
  rintro e w2 ⟨rfl, k2⟩
  have bx := bx0.keep k2 id
  replace gK := keepN gK k2
  clear k2 bx0
  obtain ⟨x0, x1, x2⟩ := blk_inst bx
  go_wp2_with fail
  refine (HB.out _).mono ?_
  rintro e w3 ⟨rfl, k3⟩
  have bx3 := bx.keep k3 id
  replace gK := keepN gK k3
  clear k3 bx x0 x1 x2 HA HB HK
  obtain ⟨x0, x1, x2⟩ := blk_inst bx3
  cases ho : isOp op
  · have hn := isOp_no ho
    have hc : c = 40 := by rw [HX.out, ho]; rfl
    subst hc
    by_cases h0 : op < 0
    · have d0 : decide (op < 0) = true := by simpa using h0
      clear hn HX ho h0
      go_wp2
      go_ret
      exact ⟨rfl, gK⟩
    · have d0 : decide (op < 0) = false := by simpa using h0
      have d1 : decide (30 ≤ op) = true := by rw [decide_eq_true_iff]; omega
      clear hn HX ho h0
      go_wp2
      go_ret
      exact ⟨rfl, gK⟩
  · have hn := isOp_yes ho
    have d0 : decide (op < 0) = false := by rw [decide_eq_false_iff_not]; omega
    have d1 : decide (30 ≤ op) = false := by rw [decide_eq_false_iff_not]; omega
    cases p
    · have hc : c = 40 := by rw [HX.out, ho]; rfl
      subst hc
      clear hn HX ho
      go_wp2
      go_ret
      exact ⟨rfl, gK⟩
    · cases q
      · have hc : c = 40 := by rw [HX.out, ho]; rfl
        subst hc
        clear hn HX ho
        go_wp2
        go_ret
        exact ⟨rfl, gK⟩
      · have hc : c = 0 := by rw [HX.out, ho]; rfl
        subst hc
        clear hn HX ho
        go_wp2
        go_ret
        exact ⟨rfl, gK⟩

end Go.Proofs.YtbnekeomdhljhaaGreatDoor.O

namespace Go.Proofs.YtbnekeomdhljhaaGreatDoor.O
open Go.RowKit

theorem op_cases {op : Int} (h : isOp op = true) : op = 0 ∨ op = 1 ∨ op = 2 ∨ op = 3 ∨ op = 4 ∨ op = 5 ∨ op = 6 ∨ op = 7 ∨ op = 8 ∨ op = 9 ∨ op = 10 ∨ op = 11 ∨ op = 12 ∨ op = 13 ∨ op = 14 ∨ op = 15 ∨ op = 16 ∨ op = 17 ∨ op = 18 ∨ op = 19 ∨ op = 20 ∨ op = 21 ∨ op = 22 ∨ op = 23 ∨ op = 24 ∨ op = 25 ∨ op = 26 ∨ op = 27 ∨ op = 28 ∨ op = 29 := by
  have := isOp_yes h
  omega
theorem fin_at {op : Int} (h : isOp op = true) : (rowAt op).fin = ((op == 18) || ((op == 24) || ((op == 25) || (op == 27)))) := by
  rcases op_cases h with rfl | rfl | rfl | rfl | rfl | rfl | rfl | rfl | rfl | rfl | rfl | rfl | rfl | rfl | rfl | rfl | rfl | rfl | rfl | rfl | rfl | rfl | rfl | rfl | rfl | rfl | rfl | rfl | rfl | rfl <;> rfl
theorem ten_at {op : Int} (h : isOp op = true) : decide ((rowAt op).ka = 10) = ((op == 18) || (op == 19)) := by
  rcases op_cases h with rfl | rfl | rfl | rfl | rfl | rfl | rfl | rfl | rfl | rfl | rfl | rfl | rfl | rfl | rfl | rfl | rfl | rfl | rfl | rfl | rfl | rfl | rfl | rfl | rfl | rfl | rfl | rfl | rfl | rfl <;> rfl
theorem rcheck_gen (op a b c : Int) (w : World) (h : chk op a b = c) (ha : I64 a) (hb : I64 b) :
    Calls Tryz.prog 132 #[instV op a b] w fun e w' => e = .returned (.int .i64 c) ∧ Keep NoB w w' := by subst h; exact rcheck_any op a b w ha hb

set_option maxHeartbeats 2000000 in
theorem rends_any (op a b : Int) (w : World) (ha : I64 a) (hb : I64 b) :
    Calls Tryz.prog 133 #[instV op a b] w fun e w' => e = .returned (.bool (endsI op a b)) ∧ Keep NoB w w' := by
  have bx0 := Blk.new w 74 #[.int .i64 op, .int .i64 a, .int .i64 b]
  have gK := (Keep.refl NoB w).alloc (.cells #[.int .i64 op, .int .i64 a, .int .i64 b] 74)
  cases hok : okI op a b
  · have HC := Lib.hid (fun w => rcheck_gen op a b 40 w (by unfold chk; rw [hok]; rfl) ha hb)
    have HX : Hid (endsI op a b = false) := by show _ = _; unfold endsI; rw [rowR_no hok]; rfl
    clear hok ha hb
    go_enter Tryz.func133, Tryz.ntmps133
    go_wp2_with fail
    refine (HC.out _).mono ?_
    rintro e w1 ⟨rfl, k1⟩
    go_wp2
    go_ret
    exact ⟨by rw [HX.out]; rfl, keepN gK k1⟩
  · have HC := Lib.hid (fun w => rcheck_gen op a b 0 w (by unfold chk; rw [hok]; rfl) ha hb)
    have HX : Hid (endsI op a b = ((op == 18) || ((op == 24) || ((op == 25) || (op == 27))))) := by show _ = _; unfold endsI; rw [rowR_ok hok, fin_at (ok_op hok).1]
    clear hok ha hb
    cases e1 : op == 18
    · cases e2 : op == 24
      · cases e3 : op == 25
        · cases e4 : op == 27
          · rw [e1, e2, e3, e4] at HX
            go_enter Tryz.func133, Tryz.ntmps133
            go_wp2_with fail
            refine (HC.out _).mono ?_
            rintro e w1 ⟨rfl, k1⟩
            have bx := bx0.keep k1 id
            obtain ⟨x0, x1, x2⟩ := blk_inst bx
            go_wp2
            go_ret
            exact ⟨by rw [HX.out]; rfl, keepN gK k1⟩
          · rw [e1, e2, e3, e4] at HX
            go_enter Tryz.func133, Tryz.ntmps133
            go_wp2_with fail
            refine (HC.out _).mono ?_
            rintro e w1 ⟨rfl, k1⟩
            have bx := bx0.keep k1 id
            obtain ⟨x0, x1, x2⟩ := blk_inst bx
            go_wp2
            go_ret
            exact ⟨by rw [HX.out]; rfl, keepN gK k1⟩
        · rw [e1, e2, e3] at HX
          go_enter Tryz.func133, Tryz.ntmps133
          go_wp2_with fail
          refine (HC.out _).mono ?_
          rintro e w1 ⟨rfl, k1⟩
          have bx := bx0.keep k1 id
          obtain ⟨x0, x1, x2⟩ := blk_inst bx
          go_wp2
          go_ret
          exact ⟨by rw [HX.out]; rfl, keepN gK k1⟩
      · rw [e1, e2] at HX
        go_enter Tryz.func133, Tryz.ntmps133
        go_wp2_with fail
        refine (HC.out _).mono ?_
        rintro e w1 ⟨rfl, k1⟩
        have bx := bx0.keep k1 id
        obtain ⟨x0, x1, x2⟩ := blk_inst bx
        go_wp2
        go_ret
        exact ⟨by rw [HX.out]; rfl, keepN gK k1⟩
    · rw [e1] at HX
      go_enter Tryz.func133, Tryz.ntmps133
      go_wp2_with fail
      refine (HC.out _).mono ?_
      rintro e w1 ⟨rfl, k1⟩
      have bx := bx0.keep k1 id
      obtain ⟨x0, x1, x2⟩ := blk_inst bx
      go_wp2
      go_ret
      exact ⟨by rw [HX.out]; rfl, keepN gK k1⟩

set_option maxHeartbeats 2000000 in
theorem rgoes_any (op a b : Int) (w : World) (ha : I64 a) (hb : I64 b) :
    Calls Tryz.prog 131 #[instV op a b] w fun e w' => e = .returned (.tuple #[.int .i64 (goesN op a b), .bool (goesI op a b)]) ∧ Keep NoB w w' := by
  have bx0 := Blk.new w 74 #[.int .i64 op, .int .i64 a, .int .i64 b]
  have gK := (Keep.refl NoB w).alloc (.cells #[.int .i64 op, .int .i64 a, .int .i64 b] 74)
  cases hok : okI op a b
  · have HC := Lib.hid (fun w => rcheck_gen op a b 40 w (by unfold chk; rw [hok]; rfl) ha hb)
    have h1 : goesI op a b = false := by unfold goesI; rw [rowR_no hok]; rfl
    have HX : Hid (goesN op a b = 0 ∧ goesI op a b = false) := ⟨by unfold goesN; rw [if_neg (by rw [h1]; decide)], h1⟩
    clear hok ha hb h1
    go_enter Tryz.func131, Tryz.ntmps131
    go_wp2_with fail
    refine (HC.out _).mono ?_
    rintro e w1 ⟨rfl, k1⟩
    go_wp2
    go_ret2
    exact ⟨pr2 HX.out.1.symm HX.out.2.symm, keepN gK k1⟩
  · have HC := Lib.hid (fun w => rcheck_gen op a b 0 w (by unfold chk; rw [hok]; rfl) ha hb)
    have h0 : goesI op a b = ((op == 18) || (op == 19)) := by unfold goesI; rw [rowR_ok hok, ten_at (ok_op hok).1]
    clear hok ha hb
    by_cases u1 : op = 18
    · have e1 : (op != 18) = false := by simp [u1]
      have h1 : goesI op a b = true := by rw [h0, u1]; rfl
      have HX : Hid (goesN op a b = a ∧ goesI op a b = true) := ⟨by unfold goesN; rw [if_pos h1], h1⟩
      clear h0 h1 u1
      go_enter Tryz.func131, Tryz.ntmps131
      go_wp2_with fail
      refine (HC.out _).mono ?_
      rintro e w1 ⟨rfl, k1⟩
      have bx := bx0.keep k1 id
      obtain ⟨x0, x1, x2⟩ := blk_inst bx
      go_wp2
      go_ret2
      exact ⟨pr2 HX.out.1.symm HX.out.2.symm, keepN gK k1⟩
    · have e1 : (op != 18) = true := by simp [u1]
      by_cases u2 : op = 19
      · have e2 : (op != 19) = false := by simp [u2]
        have h1 : goesI op a b = true := by rw [h0, u2]; rfl
        have HX : Hid (goesN op a b = a ∧ goesI op a b = true) := ⟨by unfold goesN; rw [if_pos h1], h1⟩
        clear h0 h1 u1 u2
        go_enter Tryz.func131, Tryz.ntmps131
        go_wp2_with fail
        refine (HC.out _).mono ?_
        rintro e w1 ⟨rfl, k1⟩
        have bx := bx0.keep k1 id
        obtain ⟨x0, x1, x2⟩ := blk_inst bx
        go_wp2
        go_ret2
        exact ⟨pr2 HX.out.1.symm HX.out.2.symm, keepN gK k1⟩
      · have e2 : (op != 19) = true := by simp [u2]
        have h1 : goesI op a b = false := by rw [h0]; simp [u1, u2]
        have HX : Hid (goesN op a b = 0 ∧ goesI op a b = false) := ⟨by unfold goesN; rw [if_neg (by rw [h1]; decide)], h1⟩
        clear h0 h1 u1 u2
        go_enter Tryz.func131, Tryz.ntmps131
        go_wp2_with fail
        refine (HC.out _).mono ?_
        rintro e w1 ⟨rfl, k1⟩
        have bx := bx0.keep k1 id
        obtain ⟨x0, x1, x2⟩ := blk_inst bx
        go_wp2
        go_ret2
        exact ⟨pr2 HX.out.1.symm HX.out.2.symm, keepN gK k1⟩

end Go.Proofs.YtbnekeomdhljhaaGreatDoor.O

namespace Go.Proofs.YtbnekeomdhljhaaGreatDoor.C
open Go.RowKit O

theorem rgoes_gen (op a b to : Int) (t : Bool) (w : World) (h1 : goesN op a b = to) (h2 : goesI op a b = t) (ha : O.I64 a) (hb : O.I64 b) :
    Calls Tryz.prog 131 #[instV op a b] w fun e w' => e = .returned (.tuple #[.int .i64 to, .bool t]) ∧ Keep NoB w w' := by subst h1 h2; exact rgoes_any op a b w ha hb
theorem rends_gen (op a b : Int) (t : Bool) (w : World) (h : endsI op a b = t) (ha : O.I64 a) (hb : O.I64 b) :
    Calls Tryz.prog 133 #[instV op a b] w fun e w' => e = .returned (.bool t) ∧ Keep NoB w w' := by subst h; exact rends_any op a b w ha hb
/-- The numbers of a list fit. -/
def AllI (l : List I3) : Prop := ∀ x ∈ l, O.I64 x.2.1 ∧ O.I64 x.2.2

set_option maxRecDepth 100000 in
set_option maxHeartbeats 4000000 in
theorem rcchk_any (A : Option Addr) (l : List I3) (n c : Nat) (w : World) (hr : Rd w A (iis l)) (hn : Hid (l.length = n)) (hI : Hid (AllI l)) (hm : n ≤ 9223372036854775807) (R : Int) (hR : Hid (chkB l = R)) :
    Calls Tryz.prog 75 #[.slice A n c] w fun e w' => e = .returned (.int .i64 R) ∧ Keep NoB w w' := by
  by_cases h0 : n = 0
  · subst h0
    obtain rfl : 50 = R := by rw [← hR.out, List.length_eq_zero_iff.1 hn.out]; rfl
    go_enter Tryz.func75, Tryz.ntmps75
    go_wp2
    go_ret
    exact ⟨rfl, Keep.refl _ _⟩
  by_cases h5 : 512 < n
  · obtain rfl : 50 = R := by rw [← hR.out, chkB_no (okB_long (by rw [hn.out]; omega))]
    have hq : decide ((512 : Int) < (n : Int)) = true := by rw [decide_eq_true_iff]; omega
    have hz : decide ((n : Int) < 1) = false := by rw [decide_eq_false_iff_not]; omega
    clear h5 h0
    go_enter Tryz.func75, Tryz.ntmps75
    go_wp2
    go_ret
    exact ⟨rfl, Keep.refl _ _⟩
  obtain ⟨m, rfl⟩ : ∃ m, n = m + 1 := ⟨n - 1, by omega⟩
  have hz2 : decide ((m : Int) + 1 < 1) = false := by rw [decide_eq_false_iff_not]; omega
  have hq2 : decide ((512 : Int) < (m : Int) + 1) = false := by rw [decide_eq_false_iff_not]; omega
  have hm5 : m + 1 ≤ 512 := by omega
  have hl0 : 0 < l.length := by rw [hn.out]; omega
  obtain ⟨g, off, rfl, hc⟩ := rdJ_at hr hl0
  have HC := Lib.hid hc
  clear hc hr h0 h5
  go_enter Tryz.func75, Tryz.ntmps75
  go_wp2
  go_loopw [4] (fun i wr => ∃ k : Nat, k ≤ m + 1 ∧ i = .int .i64 k ∧ Hid ((l.take k).all (itemB (m + 1)) = true) ∧ Keep NoB w wr) (fun i _ => m + 1 - (intOf i).toNat)
  case atStart => exact ⟨0, Nat.zero_le _, rfl, rfl, Keep.refl _ _⟩
  case round =>
    obtain ⟨k, hk, rfl, hall, hK⟩ := hrel
    by_cases hlt : k < m + 1
    · have hkl : k < l.length := by rw [hn.out]; exact hlt
      obtain ⟨d0, d1, d2⟩ := HC.out k hkl
      have c0 := hK.cell d0 id
      have c1 := hK.cell d1 id
      have c2 := hK.cell d2 id
      have HT := Lib.hid (show l.take (k + 1) = l.take k ++ [l[k]] from List.take_succ_eq_append_getElem hkl)
      have HN : Hid (itemB l.length l[k] = false → 50 = R) := fun h => by rw [← hR.out, chkB_no (okB_item (all_no hkl h))]
      have hab := hI.out l[k] (List.getElem_mem hkl)
      rw [hn.out] at HN
      generalize l[k] = x at d0 d1 d2 c0 c1 c2 HT HN hab
      obtain ⟨op, a, b⟩ := x
      dsimp only at d0 d1 d2 c0 c1 c2 hab
      have ha := Lib.hid hab.1
      have hb' := Lib.hid hab.2
      have HD : Hid (∀ w', Keep NoB w w' → w'.cell? ⟨g, off + k * 3, none⟩ = some (.int .i64 op) ∧ w'.cell? ⟨g, off + k * 3 + 1, none⟩ = some (.int .i64 a) ∧ w'.cell? ⟨g, off + k * 3 + 2, none⟩ = some (.int .i64 b)) := fun w' h => ⟨h.cell d0 id, h.cell d1 id, h.cell d2 id⟩
      obtain ⟨to, hto⟩ : ∃ to, goesN op a b = to := ⟨_, rfl⟩
      have hb : 0 ≤ to ∧ to ≤ 511 := by rw [← hto]; exact gN_in (op, a, b)
      obtain ⟨t, htt⟩ : ∃ t, goesI op a b = t := ⟨_, rfl⟩
      have HG := Lib.hid (fun w => rgoes_gen op a b to t w hto htt ha.out hb'.out)
      clear d0 d1 d2 hab
      cases ho : okI op a b
      · obtain rfl := HN.out (item_no1 ho)
        have HO := Lib.hid (fun w => rcheck_gen op a b 40 w (by unfold chk; rw [ho]; rfl) ha.out hb'.out)
        clear ho hto HN HT hall hR htt
        go_wp2_with fail
        refine (HG.out _).mono ?_
        rintro e w2 ⟨rfl, k2⟩
        have gK := keepN hK k2
        obtain ⟨x0, x1, x2⟩ := HD.out _ gK
        clear c0 c1 c2
        go_wp2_with (go_at_call 132; refine (HO.out _).mono ?_; rintro e w3 ⟨rfl, k3⟩)
        go_ret
        exact ⟨rfl, keepN gK k3⟩
      have HO := Lib.hid (fun w => rcheck_gen op a b 0 w (by unfold chk; rw [ho]; rfl) ha.out hb'.out)
      by_cases ht : to < ((m + 1 : Nat) : Int)
      · have ht2 : ¬ ((m : Int) + 1 ≤ to) := by omega
        have ht3 : decide ((m : Int) + 1 ≤ to) = false := by rw [decide_eq_false_iff_not]; omega
        have ha2 : Hid ((l.take (k + 1)).all (itemB (m + 1)) = true) := by
          show _ = _
          rw [HT.out, List.all_append, hall.out]
          simp only [List.all_cons, List.all_nil, Bool.and_true, Bool.true_and]
          exact item_yes ho (by show goesN op a b < _; rw [hto]; exact ht)
        clear ho hto HN HT hall hR ht htt
        cases t
        all_goals
          go_wp2_with fail
          refine (HG.out _).mono ?_
          rintro e w2 ⟨rfl, k2⟩
          have gK := keepN hK k2
          obtain ⟨x0, x1, x2⟩ := HD.out _ gK
          clear c0 c1 c2
          go_wp2_with (go_at_call 132; refine (HO.out _).mono ?_; rintro e w3 ⟨rfl, k3⟩)
          go_roundw
          case rel => exact ⟨k + 1, by omega, by go_num, ha2, keepN gK k3⟩
          case measure => simp [intOf]; omega
      · obtain rfl := HN.out (item_no2 (by show ¬ goesN op a b < _; rw [hto]; exact ht))
        have ht2 : ((m : Int) + 1 ≤ to) := by omega
        obtain rfl : t = true := by
          cases t
          · have := gN_no (x := (op, a, b)) htt
            rw [show gN (op, a, b) = to from hto] at this
            omega
          · rfl
        clear ho hto HN HT hall hR ht htt
        go_wp2_with fail
        refine (HG.out _).mono ?_
        rintro e w2 ⟨rfl, k2⟩
        have gK := keepN hK k2
        obtain ⟨x0, x1, x2⟩ := HD.out _ gK
        clear c0 c1 c2
        go_wp2_with (go_at_call 132; refine (HO.out _).mono ?_; rintro e w3 ⟨rfl, k3⟩)
        go_ret
        exact ⟨rfl, keepN gK k3⟩
    · obtain rfl : k = m + 1 := by omega
      rw [List.take_of_length_le (by rw [hn.out]; omega)] at hall
      have hml : m < l.length := by rw [hn.out]; omega
      obtain ⟨d0, d1, d2⟩ := HC.out m hml
      have c0 := hK.cell d0 id
      have c1 := hK.cell d1 id
      have c2 := hK.cell d2 id
      have hlast : Hid (lastB l = eB l[m]) := by
        show _ = _
        rw [lastB_at hl0]
        congr 2
        rw [hn.out]; omega
      have hab := hI.out l[m] (List.getElem_mem hml)
      clear d0 d1 d2 HC
      generalize l[m] = x at c0 c1 c2 hlast hab
      obtain ⟨op, a, b⟩ := x
      dsimp only at c0 c1 c2 hab
      cases he : endsI op a b
      · obtain rfl : 50 = R := by rw [← hR.out, chkB_no (okB_last (by rw [hlast.out]; exact he))]
        have HE := Lib.hid (fun w => rends_gen op a b _ w he hab.1 hab.2)
        clear he hlast hR hab hall
        go_wp2_with (go_at_call 133; refine (HE.out _).mono ?_; rintro e w1 ⟨rfl, k1⟩)
        go_ret
        exact ⟨rfl, keepN hK k1⟩
      · obtain rfl : 0 = R := by
          rw [← hR.out, chkB_ok (okB_mk (by rw [hn.out]; exact hm5) (by rw [hlast.out]; exact he) (by rw [hn.out]; exact hall.out))]
        have HE := Lib.hid (fun w => rends_gen op a b _ w he hab.1 hab.2)
        clear he hlast hR hab hall
        go_wp2_with (go_at_call 133; refine (HE.out _).mono ?_; rintro e w1 ⟨rfl, k1⟩)
        go_ret
        exact ⟨rfl, keepN hK k1⟩

set_option maxRecDepth 100000 in
set_option maxHeartbeats 4000000 in
theorem lists_any (A B : Option Addr) (la lb : List I3) (n m c d : Nat) (w : World) (ha : Rd w A (iis la)) (hb : Rd w B (iis lb)) (hn : Hid (la.length = n)) (hm : Hid (lb.length = m))
    (h1 : n ≤ 9223372036854775807) (h2 : m ≤ 9223372036854775807) (R : Bool) (hR : Hid (R = decide (la = lb))) :
    Calls Tryz.prog 79 #[.slice A n c, .slice B m d] w fun e w' => e = .returned (.bool R) ∧ Keep NoB w w' := by
  by_cases hnm : n = m
  · subst hnm
    go_enter Tryz.func79, Tryz.ntmps79
    go_wp2
    go_loopw [5] (fun i wr => ∃ k : Nat, k ≤ n ∧ i = .int .i64 k ∧ Hid (la.take k = lb.take k) ∧ Keep NoB w wr) (fun i _ => n - (intOf i).toNat)
    case atStart => exact ⟨0, Nat.zero_le _, rfl, rfl, Keep.refl _ _⟩
    case round =>
      obtain ⟨k, hk, rfl, ht, hK⟩ := hrel
      by_cases hlt : k < n
      · have hka : k < la.length := by rw [hn.out]; exact hlt
        have hkb : k < lb.length := by rw [hm.out]; exact hlt
        obtain ⟨ga, oa, rfl, hca⟩ := rdJ_at ha (by omega)
        obtain ⟨gb, ob, rfl, hcb⟩ := rdJ_at hb (by omega)
        have ca0 := hK.cell (hca k hka).1 id
        have ca1 := hK.cell (hca k hka).2.1 id
        have ca2 := hK.cell (hca k hka).2.2 id
        have cb0 := hK.cell (hcb k hkb).1 id
        have cb1 := hK.cell (hcb k hkb).2.1 id
        have cb2 := hK.cell (hcb k hkb).2.2 id
        have HT := Lib.hid (show la.take (k + 1) = la.take k ++ [la[k]] from List.take_succ_eq_append_getElem hka)
        have HU := Lib.hid (show lb.take (k + 1) = lb.take k ++ [lb[k]] from List.take_succ_eq_append_getElem hkb)
        clear hca hcb
        by_cases he : la[k] = lb[k]
        · have HV : Hid (la.take (k + 1) = lb.take (k + 1)) := by show _ = _; rw [HT.out, HU.out, ht.out, he]
          rw [he] at ca0 ca1 ca2
          clear he HT HU ha hb
          generalize lb[k] = y at ca0 ca1 ca2 cb0 cb1 cb2
          obtain ⟨y0, y1, y2⟩ := y
          dsimp only at ca0 ca1 ca2 cb0 cb1 cb2
          go_wp2
          go_quiet (fail)
          go_wp2
          go_roundw
          case rel => exact ⟨k + 1, by omega, by go_num, HV, hK.drewN _⟩
          case measure => simp [intOf]; omega
        · have hf : R = false := by
            rw [hR.out, decide_eq_false_iff_not]
            intro e
            exact he (by simp [e])
          subst hf
          clear HT HU ha hb
          generalize la[k] = x at ca0 ca1 ca2 he
          generalize lb[k] = y at cb0 cb1 cb2 he
          obtain ⟨x0, x1, x2⟩ := x
          obtain ⟨y0, y1, y2⟩ := y
          dsimp only at ca0 ca1 ca2 cb0 cb1 cb2
          by_cases h0 : x0 = y0
          · subst h0
            by_cases h3 : x1 = y1
            · subst h3
              have hne : (x2 == y2) = false := by rw [beq_eq_false_iff_ne]; rintro rfl; exact he rfl
              clear he
              go_wp2
              go_quiet (fail)
              go_wp2
              go_ret
              exact ⟨rfl, hK.drewN _⟩
            · have hne : (x1 == y1) = false := by rw [beq_eq_false_iff_ne]; exact h3
              clear he h3
              go_wp2
              go_quiet (fail)
              go_wp2
              go_ret
              exact ⟨rfl, hK.drewN _⟩
          · have hne : (x0 == y0) = false := by rw [beq_eq_false_iff_ne]; exact h0
            clear he h0
            go_wp2
            go_quiet (fail)
            go_wp2
            go_ret
            exact ⟨rfl, hK.drewN _⟩
      · have hf : R = true := by
          rw [hR.out, decide_eq_true_iff]
          have e1 := ht.out
          rwa [List.take_of_length_le (by rw [hn.out]; omega), List.take_of_length_le (by rw [hm.out]; omega)] at e1
        subst hf
        go_wp2
        go_ret
        exact ⟨rfl, hK⟩
  · have hf : R = false := by
      rw [hR.out, decide_eq_false_iff_not]
      intro e
      exact hnm (by rw [← hn.out, ← hm.out, e])
    subst hf
    have hne : ((n : Int) != (m : Int)) = true := by rw [bne_iff_ne]; omega
    clear hnm
    go_enter Tryz.func79, Tryz.ntmps79
    go_wp2
    go_ret
    exact ⟨rfl, Keep.refl _ _⟩

end Go.Proofs.YtbnekeomdhljhaaGreatDoor.C

namespace Go.Proofs.YtbnekeomdhljhaaGreatDoor.F
open Go.RowKit W

/-- A function's value: its name, and where its lists lie. -/
structure FV where
  S : ByteArray
  A : Option Addr
  na : Nat
  ca : Nat
  B : Option Addr
  nb : Nat
  cb : Nat
  L : Option Addr
  nl : Nat
  cl : Nat
  D : Option Addr
  nd : Nat
  cd : Nat
def FV.sig (v : FV) : Value := .agg #[.slice v.A v.na v.ca, .slice v.B v.nb v.cb]
def FV.cells (v : FV) : Array Value := #[.string v.S, .slice v.A v.na v.ca, .slice v.B v.nb v.cb, .slice v.L v.nl v.cl, .slice v.D v.nd v.cd]
def FV.val (v : FV) : Value := .agg v.cells
/-- What its lists hold, wherever the value itself lies; numbers fit an int64. -/
structure FnAt (w : World) (v : FV) (f : Fu) : Prop where
  nm : v.S.data.toList = f.nm
  ra : Rd w v.A (ivs f.ar)
  rb : Rd w v.B (ivs f.rs)
  rl : Rd w v.L (ivs f.lc)
  rd : Rd w v.D (C.iis f.bd)
  la : f.ar.length = v.na
  lb : f.rs.length = v.nb
  ll : f.lc.length = v.nl
  ld : f.bd.length = v.nd
  hI : C.AllI f.bd
/-- It is no greater than statements go through. -/
structure SmF (v : FV) : Prop where
  sz : v.S.size ≤ 100
  na : v.na ≤ 100
  nb : v.nb ≤ 100
  nl : v.nl ≤ 100
  nd : v.nd ≤ 600
theorem FnAt.keep {O : Nat → Prop} {w w' : World} {v : FV} {f : Fu} (h : FnAt w v f) (hk : Keep O w w') (hO : ∀ k, k < w.heap.size → ¬ O k) : FnAt w' v f :=
  have h2 : Keep NoB w w' := hk.mono (fun k ho hl => absurd ho (hO k hl))
  ⟨h.nm, h.ra.keepN h2, h.rb.keepN h2, h.rl.keepN h2, h.rd.keepN h2, h.la, h.lb, h.ll, h.ld, h.hI⟩
theorem FnAt.keepN {w w' : World} {v : FV} {f : Fu} (h : FnAt w v f) (hk : Keep NoB w w') : FnAt w' v f := h.keep hk (fun _ _ => id)
theorem sz_len {S : ByteArray} {s : List UInt8} (h : S.data.toList = s) : S.size = s.length := by rw [← h]; rfl
theorem blk5 {w : World} {g : Nat} {t : TypeId} {v : FV} (h : Blk w g t v.cells) : w.cell? ⟨g, 0, none⟩ = some (.string v.S) ∧ w.cell? ⟨g, 1, none⟩ = some (.slice v.A v.na v.ca) ∧ w.cell? ⟨g, 2, none⟩ = some (.slice v.B v.nb v.cb) ∧
    w.cell? ⟨g, 3, none⟩ = some (.slice v.L v.nl v.cl) ∧ w.cell? ⟨g, 4, none⟩ = some (.slice v.D v.nd v.cd) := ⟨h.cell 0, h.cell 1, h.cell 2, h.cell 3, h.cell 4⟩

end Go.Proofs.YtbnekeomdhljhaaGreatDoor.F
