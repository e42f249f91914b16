/-
  What Heads of layer code answers: a body's heads, rising. Conditions: the list lies in memory.
  The plain mathematics of what is put in and taken out, of counts, and of stretches one behind the other. No program, no conditions.
  What Stretch of layer code answers: where a stretch begins, and the place behind its last one. Conditions: the list lies in memory.
  What the document's Head, Heads and Stretch of layer code answer. Conditions: the list lies in memory; numbers fit an int64.
  What shifted of layer code answers: a new list, in which those that go to a place behind one go so much farther. Conditions: the list lies in memory, of 1 to 512 instructions; by 1, or -1.
-/
import Derived.IntWalk
import Derived.Laws.CopyOwn
import Derived.OwnWalk
import Derived.Test.YtonpplpfipfnfaaDoorQ5
import Derived.Test.YtonpplpfipfnfaaDoorQ4
import Derived.Test.YtonpplpfipfnfaaDoorShelf
namespace Go.Proofs.YtonpplpfipfnfaaDoor.C
open Go.RowKit O

/-- The heads among the first places. -/
def hup (l : List I3) (k : Nat) : List Int := ((List.range k).filter (headB l)).map fun i : Nat => (i : Int)
theorem hup_succ (l : List I3) (k : Nat) : hup l (k + 1) = hup l k ++ if headB l k = true then [(k : Int)] else [] := by
  unfold hup
  rw [range_filter_snoc, List.map_append]
  cases headB l k <;> rfl
theorem hup_le (l : List I3) (k : Nat) : (hup l k).length ≤ k := by
  unfold hup
  rw [List.length_map]
  exact Nat.le_trans (List.length_filter_le _ _) (by simp)
theorem hup_all (l : List I3) : hup l l.length = hzs l := rfl
/-- What is answered. -/
def hzG (l : List I3) : List Int := if okB l = true then hzs l else []
theorem hzG_ok {l : List I3} (h : okB l = true) : hzG l = hzs l := if_pos h
theorem hzG_no {l : List I3} (h : okB l = false) : hzG l = [] := if_neg (by rw [h]; decide)

theorem blk_of_row {w1 : World} {E : TypeId} {sz g n : Nat} {zs : List Value} (hrow : w1.ownsRow 0 E sz (.slice (some ⟨g, 0, none⟩) n n) n zs) : ∃ cur, Blk w1 g E cur ∧ cur.size = n * sz := by
  obtain ⟨h3, h4⟩ := hrow
  rcases h4 with ⟨h4, _⟩ | ⟨g', cap, cur, h4, _, h6, _, _, h7, _⟩
  · cases h4
  · injection h4 with h4 _ h8
    injection h4 with h4
    injection h4 with h4 _ _
    subst h4 h8
    exact ⟨cur, h6, h7⟩
/-- A number stored behind those that stand. -/
theorem ivs_put (l : List Int) (u : Value) (r : List Value) (x : Int) : (ivs l ++ u :: r).toArray.setIfInBounds l.length (.int .i64 x) = (ivs (l ++ [x]) ++ r).toArray := by
  rw [List.setIfInBounds_toArray]
  congr 1
  rw [List.set_append_right _ _ (by simp)]
  simp [ivs]
/-- How Heads ends. -/
def HeadsR (w : World) (zs : List Int) (e : Ending) (w' : World) : Prop := ∃ A, e = .returned (.slice A zs.length zs.length) ∧ Rd w' A (ivs zs) ∧ Keep NoB w w'

set_option maxRecDepth 100000 in
set_option maxHeartbeats 4000000 in
theorem heads_any (A : Option Addr) (l : List I3) (n c : Nat) (w : World) (hr : Rd w A (iis l)) (hn : Hid (l.length = n)) (hm : n ≤ 9223372036854775807) :
    Calls Tryd.prog 12 #[.slice A n c] w (HeadsR w (hzG l)) := by
  cases ho : okB l
  · rw [hzG_no ho]
    have HC := Lib.hid (fun w hr => cchk_any A l n c w hr hn hm 50 (chkB_no ho))
    clear ho
    go_enter Tryd.func12, Tryd.ntmps12
    go_wp2_with (go_at_call 23; refine (HC.out _ hr).mono ?_; rintro e w1 ⟨rfl, k1⟩)
    go_ret
    exact ⟨none, rfl, Rd.none_ _ _, k1⟩
  · rw [hzG_ok ho]
    obtain ⟨h1, h5, _, _⟩ := okB_parts ho
    rw [hn.out] at h1 h5
    have HC := Lib.hid (fun w hr => cchk_any A l n c w hr hn hm 0 (chkB_ok ho))
    have HM := Lib.hid (fun w hr => met_any A l n c w hr hn ho)
    have hr0 := Lib.hid hr
    obtain ⟨i0, hi, hz0, hz1, hz2⟩ := info_parts int_info
    have HZ : Hid (hup l n = hzs l) := by show _ = _; rw [← hn.out]; rfl
    have HH : Hid (∀ k : Nat, k < n → decide (0 < metN l n (k : Int)) = headB l k) := fun k hk => by
      have := met_head (l := l) (i := k) (by rw [hn.out]; exact hk)
      rwa [hn.out] at this
    clear hr ho
    go_enter Tryd.func12, Tryd.ntmps12
    go_wp2_with fail
    refine (HC.out _ hr0.out).mono ?_
    rintro e w1 ⟨rfl, k1⟩
    go_wp2_with fail
    refine (HM.out _ (hr0.out.keepN k1)).mono ?_
    rintro e w2 ⟨b, N, rfl, hI, hb, k2⟩
    have gK := keepN k1 k2
    clear HC HM hr0 k1 k2
    go_wp2_with (at_make; refine wpList_make_full _ rfl _ _ 38 rfl 0 3 i0 _ 1 Tryd.underlying38 hi hz0 hz1 _ _ _ _ n rfl rfl rfl rfl (by rw [hz2]; omega) (by unfold maxLen; omega) (Nat.zero_le _) ?_; intro w3 hrow hg3)
    obtain ⟨cur, hB, hcs⟩ := blk_of_row hrow
    have hK3 : Keep NoB w w3 := gK.grown hg3 (fun g e _ => by cases e)
    have hI3 := hI.grown hg3 (by simp)
    have hw3 : w.heap.size ≤ w2.heap.size := gK.size
    obtain ⟨g, hg⟩ : ∃ g, w2.heap.size = g := ⟨_, rfl⟩
    rw [hg] at hB hw3 ⊢
    have hbg : b ≠ g := by have := hI.lt; omega
    clear hrow hg3 gK hI hg
    go_loopw [5, 17] (fun s i wr => ∃ k : Nat, k ≤ n ∧ i = .int .i64 k ∧ s = .int .i64 ((hup l k).length : Nat) ∧ (∃ rest, Blk wr g 3 (ivs (hup l k) ++ rest).toArray ∧ (hup l k).length + rest.length = n) ∧ IMap Tryd.prog 3 3 b N (metN l n) wr ∧ Keep NoB w wr) (fun _ i _ => n - (intOf i).toNat)
    case atStart => exact ⟨0, Nat.zero_le _, rfl, rfl, ⟨cur.toList, by simpa [hup] using hB, by simp [hup]; omega⟩, hI3, hK3⟩
    case round =>
      obtain ⟨k, hk, rfl, rfl, ⟨rest, hBr, hrl⟩, hIr, hK⟩ := hrel
      clear hB hcs hI3 hK3
      have hle := hup_le l k
      by_cases hlt : k < n
      · have hlk := hIr.look (t := 50) Tryd.underlying50 Tryd.underlying3 Tryd.underlying3 (met_zero _) (k : Int) (wf_in (by omega) (by omega))
        have hh := HH.out k hlt
        have hs := hup_succ l k
        generalize metN l n (k : Int) = v at hlk hh
        obtain ⟨m, hm'⟩ : ∃ m, (hup l k).length = m := ⟨_, rfl⟩
        rw [hm'] at hle hrl ⊢
        cases hhd : headB l k
        · rw [hhd] at hs hh
          have hq := of_decide_eq_false hh
          have hq2 : decide ((0 : Int) < (v : Int)) = false := by rw [decide_eq_false_iff_not]; omega
          have HS : Hid (hup l (k + 1) = hup l k) := by show _ = _; rw [hs]; simp
          have HL : Hid ((hup l (k + 1)).length = m) := by show _ = _; rw [HS.out, hm']
          have HB : Hid (∃ rest, Blk wr g 3 (ivs (hup l (k + 1)) ++ rest).toArray ∧ (hup l (k + 1)).length + rest.length = n) := ⟨rest, by rw [HS.out]; exact hBr, by rw [HL.out]; exact hrl⟩
          clear hs hh hBr hrl hhd hm'
          go_wp2
          go_roundw
          case rel => exact ⟨k + 1, by omega, by go_num, by rw [HL.out], HB.out, hIr, hK⟩
          case measure => simp [intOf]; omega
        · rw [hhd] at hs hh
          have hq := of_decide_eq_true hh
          have hq2 : decide ((0 : Int) < (v : Int)) = true := by rw [decide_eq_true_iff]; omega
          have HL : Hid ((hup l (k + 1)).length = m + 1) := by show _ = _; rw [hs, List.length_append, hm']; rfl
          obtain ⟨u, rest', rfl⟩ : ∃ u rest', rest = u :: rest' := by
            cases rest with
            | nil => simp at hrl; omega
            | cons u r => exact ⟨u, r, rfl⟩
          have hput := ivs_put (hup l k) u rest' (k : Int)
          rw [hm'] at hput
          have cc : wr.cell? ⟨g, m, none⟩ = some u := by rw [hBr.cell]; simp [← hm']
          have hf := fun i => hBr.frozen i
          have HB : Hid (∃ rest, Blk (wr.setCell ⟨g, m, none⟩ (.int .i64 (k : Int))) g 3 (ivs (hup l (k + 1)) ++ rest).toArray ∧ (hup l (k + 1)).length + rest.length = n) :=
            ⟨rest', by rw [hs]; simp only [if_true]; rw [← hput]; exact hBr.put _ _, by rw [HL.out]; simp at hrl; omega⟩
          have HI : Hid (IMap Tryd.prog 3 3 b N (metN l n) (wr.setCell ⟨g, m, none⟩ (.int .i64 (k : Int)))) := hIr.keep ((Keep.refl (fun x => x = g) wr).setCell (fun _ => rfl) _) hbg
          have HK : Hid (Keep NoB w (wr.setCell ⟨g, m, none⟩ (.int .i64 (k : Int)))) := hK.setCell (fun h => absurd h (by simp; omega)) _
          have hmn : m < n := by simp at hrl; omega
          clear hs hh hBr hrl hhd hm' hput hIr hK
          go_wp2
          go_roundw
          case rel => exact ⟨k + 1, by omega, by go_num, by rw [HL.out]; go_num, HB.out, HI.out, HK.out⟩
          case measure => simp [intOf]; omega
      · obtain rfl : k = n := by omega
        rw [HZ.out] at hBr hrl hle ⊢
        have hrd : Rd wr (some ⟨g, 0, none⟩) (ivs (hzs l)) := fun _ => ⟨g, 0, rfl, fun j u hu => by
          rw [Nat.zero_add, hBr.cell]
          simp only [List.getElem?_toArray]
          rw [List.getElem?_append_left (List.getElem?_eq_some_iff.1 hu).1]; exact hu⟩
        obtain ⟨zs, hz⟩ : ∃ zs, hzs l = zs := ⟨_, rfl⟩
        rw [hz] at hrd hle ⊢
        have HZ2 := Lib.hid hz
        clear hz
        have hle2 : (zs.length : Int) ≤ (k : Int) := by omega
        clear hBr hrl HZ HH
        go_wp2
        go_ret
        refine ⟨some ⟨g, 0, none⟩, ?_, ?_, hK⟩
        · rw [HZ2.out]; rfl
        · rw [HZ2.out]; exact hrd

end Go.Proofs.YtonpplpfipfnfaaDoor.C

namespace Go.Proofs.YtonpplpfipfnfaaDoor.C
open Go.RowKit O

theorem gone_op (k b : Int) (x : I3) : (gone k b x).1 = x.1 ∧ (gone k b x).2.2 = x.2.2 := by unfold gone; split <;> exact ⟨rfl, rfl⟩
theorem gone_yes {k b : Int} {x : I3} (h1 : gB x = true) (h2 : k < gN x) : gone k b x = (x.1, x.2.1 + b, x.2.2) := if_pos ⟨h1, h2⟩
theorem gone_no {k b : Int} {x : I3} (h : ¬ (gB x = true ∧ k < gN x)) : gone k b x = x := if_neg h
theorem gone_back {k : Int} {x : I3} (hx : gN x ≤ 510) : gone k (-1) (gone k 1 x) = x := by
  by_cases h : gB x = true ∧ k < gN x
  · obtain ⟨h1, h2⟩ := h
    rw [gone_yes h1 h2]
    have e := gN_yes h1
    have hb := gB_in h1
    have h3 : gB (x.1, x.2.1 + 1, x.2.2) = true := gB_put h1 (by omega) (by omega)
    have e3 := gN_yes h3
    rw [gone_yes h3 (by rw [e3]; show k < x.2.1 + 1; omega)]
    show (x.1, x.2.1 + 1 + -1, x.2.2) = x
    rw [show x.2.1 + 1 + -1 = x.2.1 by omega]
  · rw [gone_no h, gone_no h]
theorem insL_take (l : List I3) {k : Nat} (x : I3) (hk : k ≤ l.length) : (insL l k x).take k = (l.take k).map (gone k 1) := by
  unfold insL
  rw [List.take_append_of_le_length (by simp; omega), List.take_of_length_le (by simp; omega)]
theorem insL_drop (l : List I3) {k : Nat} (x : I3) (hk : k ≤ l.length) : (insL l k x).drop (k + 1) = (l.drop k).map (gone k 1) := by
  unfold insL
  have h : ((l.take k).map (gone k 1)).length = k := by simp; omega
  rw [List.drop_append, h, List.drop_of_length_le (by rw [h]; omega), show k + 1 - k = 1 by omega]
  rfl
theorem delL_insL {l : List I3} {k : Nat} {x : I3} (hk : k < l.length) (ho : okB l = true) (hm : l.length + 1 ≤ 512) : delL (insL l k x) k = l := by
  unfold delL
  rw [insL_take l x (by omega), insL_drop l x (by omega), ← List.map_append, ← List.map_append, List.take_append_drop, List.map_map]
  conv => rhs; rw [← List.map_id l]
  apply List.map_congr_left
  intro y hy
  have h2 := (item_parts (List.all_eq_true.1 (okB_parts ho).2.2.2 y hy)).2
  exact gone_back (by omega)
theorem insL_here (l : List I3) {k : Nat} (x : I3) (hk : k ≤ l.length) : (insL l k x)[k]? = some x := by
  unfold insL
  rw [List.getElem?_append_right (by simp; omega)]
  have h : ((l.take k).map (gone k 1)).length = k := by simp; omega
  rw [h, Nat.sub_self]; rfl
theorem insL_low (l : List I3) {k i : Nat} (x : I3) (hi : i < k) (hk : k ≤ l.length) : (insL l k x)[i]? = some (gone k 1 (l[i]'(by omega))) := by
  unfold insL
  rw [List.getElem?_append_left (by simp; omega), List.getElem?_map, List.getElem?_take, if_pos hi, List.getElem?_eq_getElem (by omega)]
  rfl
theorem insL_high (l : List I3) {k i : Nat} (x : I3) (hi : k ≤ i) (hl : i < l.length) : (insL l k x)[i + 1]? = some (gone k 1 l[i]) := by
  unfold insL
  have h : ((l.take k).map (gone k 1)).length = k := by simp; omega
  rw [List.getElem?_append_right (by rw [h]; omega), h, show i + 1 - k = (i - k) + 1 by omega, List.getElem?_cons_succ, List.getElem?_map, List.getElem?_drop, show k + (i - k) = i by omega, List.getElem?_eq_getElem hl]
  rfl
theorem cnt_gone (l : List I3) (k b op : Int) : cntB (l.map (gone k b)) op = cntB l op := by
  unfold cntB
  rw [List.countP_map]
  congr 1
  funext x
  show ((gone k b x).1 == op) = (x.1 == op)
  rw [(gone_op k b x).1]
theorem cnt_ins (l : List I3) (k : Nat) (x : I3) : cntB (insL l k x) x.1 = cntB l x.1 + 1 := by
  unfold insL
  have h : cntB ((l.take k).map (gone k 1) ++ x :: (l.drop k).map (gone k 1)) x.1 = cntB ((l.take k).map (gone k 1)) x.1 + (cntB ((l.drop k).map (gone k 1)) x.1 + 1) := by
    unfold cntB; rw [List.countP_append, List.countP_cons]; simp
  have h2 : cntB (l.take k) x.1 + cntB (l.drop k) x.1 = cntB l x.1 := by
    unfold cntB; rw [← List.countP_append, List.take_append_drop]
  rw [h, cnt_gone, cnt_gone]
  omega

/-! ### counts -/
theorem cnt_le (l : List I3) (op : Int) : cntB l op ≤ l.length := List.countP_le_length
/-- How many of the first ops' there are. -/
def sumB (l : List I3) (k : Nat) : Nat := l.countP fun x => decide (0 ≤ x.1 ∧ x.1 < (k : Int))
theorem sum_zero (l : List I3) : sumB l 0 = 0 := by
  unfold sumB
  rw [List.countP_eq_zero]
  intro x _
  rw [decide_eq_true_iff]; omega
theorem sum_succ (l : List I3) (k : Nat) : sumB l (k + 1) = sumB l k + cntB l (k : Int) := by
  unfold sumB cntB
  induction l with
  | nil => rfl
  | cons x l ih =>
    simp only [List.countP_cons, ih]
    by_cases h1 : x.1 = (k : Int)
    · have a1 : decide (0 ≤ x.1 ∧ x.1 < ((k + 1 : Nat) : Int)) = true := by rw [decide_eq_true_iff]; omega
      have a2 : decide (0 ≤ x.1 ∧ x.1 < (k : Int)) = false := by rw [decide_eq_false_iff_not]; omega
      have a3 : (x.1 == (k : Int)) = true := by rw [beq_iff_eq]; exact h1
      rw [a1, a2, a3]; simp; omega
    · have a3 : (x.1 == (k : Int)) = false := by rw [beq_eq_false_iff_ne]; exact h1
      have a1 : decide (0 ≤ x.1 ∧ x.1 < ((k + 1 : Nat) : Int)) = decide (0 ≤ x.1 ∧ x.1 < (k : Int)) := by
        rw [decide_eq_decide]; omega
      rw [a1, a3]; simp; omega
theorem sum_30 (l : List I3) : sumB l 30 = l.countP fun x => isOp x.1 := rfl
theorem sum_le (l : List I3) (k : Nat) : sumB l k ≤ l.length := List.countP_le_length
theorem known_snoc (l : List I3) (x : I3) : (l ++ [x]).countP (fun x => isOp x.1) = l.countP (fun x => isOp x.1) + if isOp x.1 = true then 1 else 0 := by
  rw [List.countP_append, List.countP_singleton]
theorem known_all {l : List I3} (h : okB l = true) : l.countP (fun x => isOp x.1) = l.length := by
  rw [List.countP_eq_length]
  intro x hx
  exact (ok_op (item_parts (List.all_eq_true.1 (okB_parts h).2.2.2 x hx)).1).1
theorem ends_any_of {l : List I3} (h : okB l = true) : 0 < cntB l 24 + cntB l 18 + cntB l 25 + cntB l 27 := by
  obtain ⟨h1, _, h3, h4⟩ := okB_parts h
  rw [lastB_at (by omega)] at h3
  have hm := List.getElem_mem (l := l) (n := l.length - 1) (by omega)
  have hk := (item_parts (List.all_eq_true.1 h4 _ hm)).1
  generalize l[l.length - 1] = x at h3 hm hk
  have he : (rowR x.1 x.2.1 x.2.2).fin = true := h3
  rw [rowR_ok hk, fin_at (ok_op hk).1] at he
  have pos : ∀ op, x.1 = op → 0 < cntB l op := fun op e => by
    unfold cntB
    exact List.countP_pos_iff.2 ⟨x, hm, by simp [e]⟩
  simp only [Bool.or_eq_true, beq_iff_eq] at he
  rcases he with e | e | e | e
  · have := pos _ e; omega
  · have := pos _ e; omega
  · have := pos _ e; omega
  · have := pos _ e; omega
theorem name_nil (op : Int) : (str (O.rowAt op).name).toList.isEmpty = !isOp op := by
  cases ho : isOp op
  · rw [O.rowAt_no ho]; decide +kernel
  · rcases op_cases ho with rfl | rfl | rfl | rfl | rfl | rfl | rfl | rfl | rfl | rfl | rfl | rfl | rfl | rfl | rfl | rfl | rfl | rfl | rfl | rfl | rfl | rfl | rfl | rfl | rfl | rfl | rfl | rfl | rfl | rfl <;> decide +kernel

/-! ### stretches -/
theorem heads_lt (l : List I3) : (headsL l).Pairwise (· < ·) := List.Pairwise.filter _ List.pairwise_lt_range
theorem heads_nodup (l : List I3) : (headsL l).Nodup := (heads_lt l).imp (fun h => Nat.ne_of_lt h)
theorem heads_next {l : List I3} {j : Nat} (hj : j < (headsL l).length) :
    (headsL l)[j] < l.length ∧ headB l (headsL l)[j] = true ∧ (j + 1 = (headsL l).length → nextH l (headsL l)[j] = l.length) ∧ ∀ h2 : j + 1 < (headsL l).length, (headsL l)[j + 1] = nextH l (headsL l)[j] := by
  obtain ⟨h1, h2⟩ := heads_mem.1 (List.getElem_mem hj)
  have hi : (hzs l).countP (fun y => decide (y < ((headsL l)[j] : Int))) = j := by
    have e : hzs l = ((headsL l).take j).map (fun i : Nat => (i : Int)) ++ ((headsL l).drop j).map (fun i : Nat => (i : Int)) := by
      unfold hzs; rw [← List.map_append, List.take_append_drop]
    rw [e, List.countP_append]
    have c1 : (((headsL l).take j).map (fun i : Nat => (i : Int))).countP (fun y => decide (y < ((headsL l)[j] : Int))) = j := by
      rw [List.countP_eq_length.2]
      · simp; omega
      · intro a ha
        obtain ⟨b, hb, rfl⟩ := List.mem_map.1 ha
        obtain ⟨i, hi, rfl⟩ := List.mem_iff_getElem.1 hb
        have hij : i < j := by simp at hi; omega
        rw [List.getElem_take]
        have := List.pairwise_iff_getElem.1 (heads_lt l) i j (by omega) hj hij
        simpa using this
    have c2 : (((headsL l).drop j).map (fun i : Nat => (i : Int))).countP (fun y => decide (y < ((headsL l)[j] : Int))) = 0 := by
      rw [List.countP_eq_zero]
      intro a ha
      obtain ⟨b, hb, rfl⟩ := List.mem_map.1 ha
      obtain ⟨i, hi, rfl⟩ := List.mem_iff_getElem.1 hb
      rw [List.getElem_drop]
      have hle : (headsL l)[j] ≤ (headsL l)[j + i]'(by simp at hi; omega) := by
        rcases Nat.eq_zero_or_pos i with e | e
        · subst e; exact Nat.le_refl _
        · exact Nat.le_of_lt (List.pairwise_iff_getElem.1 (heads_lt l) j (j + i) hj (by simp at hi; omega) (by omega))
      simp; omega
    rw [c1, c2, Nat.add_zero]
  obtain ⟨s1, s2, s3⟩ := stretch_at h1 h2 j hi
  have hl : (hzs l).length = (headsL l).length := by unfold hzs; simp
  refine ⟨h1, h2, fun e => s2 (by omega), fun h => ?_⟩
  have := s3 (by omega)
  unfold hzs at this
  rw [List.getElem_map] at this
  exact_mod_cast this
theorem heads_zero {l : List I3} (h : 0 < l.length) : ∃ hp : 0 < (headsL l).length, (headsL l)[0] = 0 := by
  have hh : headB l 0 = true := by unfold headB; simp
  have hs := heads_split h hh
  have hp : 0 < (headsL l).length := List.length_pos_of_mem (heads_mem.2 ⟨h, hh⟩)
  refine ⟨hp, ?_⟩
  have e : (headsL l)[0]? = some 0 := by rw [hs]; rfl
  exact Option.some.inj ((List.getElem?_eq_getElem hp).symm.trans e)
/-- Within a stretch, nothing goes, or ends. -/
theorem inner_no {l : List I3} {h i : Nat} (hn : h < l.length) (h1 : h ≤ i) (h2 : i + 1 < nextH l h) : gB (l[i]'(by have := (nextH_spec hn).2.1; omega)) = false ∧ eB (l[i]'(by have := (nextH_spec hn).2.1; omega)) = false := by
  obtain ⟨_, hle, hb, _⟩ := nextH_spec hn
  have hx := hb (i + 1) (by omega) h2
  unfold headB at hx
  rw [Nat.add_sub_cancel, at0_of (show i < l.length by omega)] at hx
  simp only [Bool.or_eq_false_iff] at hx
  exact ⟨hx.1.2, hx.1.1.2⟩
theorem goes_head {l : List I3} (ho : okB l = true) {x : I3} (hx : x ∈ l) (hg : gB x = true) : ∃ t : Nat, gN x = (t : Int) ∧ t ∈ headsL l := by
  have h1 := (item_parts (List.all_eq_true.1 (okB_parts ho).2.2.2 x hx)).2
  have h2 := (gN_in x).1
  refine ⟨(gN x).toNat, by omega, heads_mem.2 ⟨by omega, ?_⟩⟩
  unfold headB
  have : (l.any fun x' => gB x' && decide (gN x' = (((gN x).toNat : Nat) : Int))) = true := by
    rw [List.any_eq_true]
    exact ⟨x, hx, by rw [hg]; simp; omega⟩
  rw [this]; simp

end Go.Proofs.YtonpplpfipfnfaaDoor.C

namespace Go.Proofs.YtonpplpfipfnfaaDoor.C
open Go.RowKit O

theorem search_any (A : Option Addr) (zs : List Int) (n : Nat) (x : Int) (w : World) (hr : Rd w A (ivs zs)) (hn : Hid (zs.length = n)) (hs : zs.Pairwise (· ≤ ·)) (hm : n ≤ 1000000) (i : Nat) (hi : zs.countP (fun y => decide (y < x)) = i) (t : Bool) (ht : zs.contains x = t) :
    Calls Tryd.prog 16 #[.slice A n n, .int .i64 x] w fun e w' => e = .returned (.tuple #[.int .i64 (i : Nat), .bool t]) ∧ Keep NoB w w' := by
  have hn := hn.out
  subst hn hi ht
  rcases zs with _ | ⟨z, zs⟩
  · exact (Tryd.slices_BinarySearch_int_empty A 0 x w).mono fun e w' ⟨he, hw⟩ => ⟨he, by rw [hw]; exact Keep.refl _ _⟩
  · obtain ⟨g, off, rfl, hc⟩ := rdI_at hr (by simp)
    have h := Tryd.slices_BinarySearch_int g off (z :: zs).length (z :: zs).length (z :: zs) x w (Nat.le_refl _) (by omega) (fun j hj => by rw [hc j hj, List.getD_eq_getElem?_getD, List.getElem?_eq_getElem hj]; rfl) (by rw [List.take_length]; exact hs)
    rw [List.take_length] at h
    exact h.mono fun e w' ⟨he, q, hw⟩ => ⟨he, by rw [hw]; exact (Keep.refl NoB w).drewN q⟩

/-- Is it a head of a body? -/
def isH (l : List I3) (x : Int) : Bool := okB l && (decide (0 ≤ x ∧ x < (l.length : Int)) && headB l x.toNat)
def strA (l : List I3) (x : Int) : Int := if isH l x = true then x else 0
def strB (l : List I3) (x : Int) : Int := if isH l x = true then (nextH l x.toNat : Int) else 0
def strE (l : List I3) (x : Int) : Int := if isH l x = true then 0 else 50
theorem str_no {l : List I3} {x : Int} (h : isH l x = false) : strA l x = 0 ∧ strB l x = 0 ∧ strE l x = 50 := by
  unfold strA strB strE; rw [h]; simp
theorem str_yes {l : List I3} {x : Int} (h : isH l x = true) : strA l x = x ∧ strB l x = (nextH l x.toNat : Int) ∧ strE l x = 0 := by
  unfold strA strB strE; rw [h]; simp
theorem isH_parts {l : List I3} {x : Int} (h : isH l x = true) : okB l = true ∧ ∃ k : Nat, x = (k : Int) ∧ k < l.length ∧ headB l k = true := by
  unfold isH at h
  simp only [Bool.and_eq_true, decide_eq_true_eq] at h
  exact ⟨h.1, x.toNat, by omega, by omega, h.2.2⟩
theorem hzG_contains (l : List I3) (x : Int) : (hzG l).contains x = isH l x := by
  cases ho : okB l
  · rw [hzG_no ho]; unfold isH; rw [ho]; rfl
  · rw [hzG_ok ho]
    cases hh : isH l x
    · rw [Bool.eq_false_iff]
      intro hc
      obtain ⟨h, rfl, h1, h2⟩ := (hzs_contains x).1 hc
      unfold isH at hh
      rw [ho, Int.toNat_natCast, h2, decide_eq_true (by omega)] at hh
      cases hh
    · obtain ⟨_, k, rfl, h1, h2⟩ := isH_parts hh
      exact (hzs_contains _).2 ⟨k, rfl, h1, h2⟩
theorem hzG_len (l : List I3) : (hzG l).length ≤ 512 := by
  cases ho : okB l
  · rw [hzG_no ho]; simp
  · rw [hzG_ok ho]
    exact Nat.le_trans (hzs_length_le l) (okB_parts ho).2.1
theorem hzG_sorted (l : List I3) : (hzG l).Pairwise (· ≤ ·) := by
  cases ho : okB l
  · rw [hzG_no ho]; exact List.Pairwise.nil
  · rw [hzG_ok ho]; exact hzs_sorted l

theorem ret_3 {a b c a' b' c' : Int} (h1 : a = a') (h2 : b = b') (h3 : c = c') : Ending.returned (.tuple #[.int .i64 a, .int .i64 b, .int .i64 c]) = .returned (.tuple #[.int .i64 a', .int .i64 b', .int .i64 c']) := by rw [h1, h2, h3]

set_option maxRecDepth 100000 in
set_option maxHeartbeats 4000000 in
theorem stretch_any (A : Option Addr) (l : List I3) (n c : Nat) (x : Int) (w : World) (hr : Rd w A (iis l)) (hn : Hid (l.length = n)) (hm : n ≤ 9223372036854775807) :
    Calls Tryd.prog 4 #[.slice A n c, .int .i64 x] w fun e w' => e = .returned (.tuple #[.int .i64 (strA l x), .int .i64 (strB l x), .int .i64 (strE l x)]) ∧ Keep NoB w w' := by
  have HH := Lib.hid (fun w hr => heads_any A l n c w hr hn hm)
  have hr0 := Lib.hid hr
  have hlen := hzG_len l
  have hs := Lib.hid (hzG_sorted l)
  have hct := hzG_contains l x
  obtain ⟨i, hi⟩ : ∃ i, (hzG l).countP (fun y => decide (y < x)) = i := ⟨_, rfl⟩
  obtain ⟨m, hzm⟩ : ∃ m, (hzG l).length = m := ⟨_, rfl⟩
  rw [hzm] at hlen
  have hmm := Lib.hid hzm
  cases hh : isH l x
  · obtain ⟨e1, e2, e3⟩ := str_no hh
    rw [e1, e2, e3]
    rw [hh] at hct
    have HS := Lib.hid (fun A w hr => search_any A (hzG l) m x w hr hmm hs.out (by omega) i hi false hct)
    clear hct hi hh e1 e2 e3 hr hzm
    go_enter Tryd.func4, Tryd.ntmps4
    go_wp2_with fail
    refine (HH.out _ hr0.out).mono ?_
    rintro e w1 ⟨A1, rfl, hrd, k1⟩
    rw [hmm.out]
    go_wp2_with fail
    refine (HS.out _ _ hrd).mono ?_
    rintro e w2 ⟨rfl, k2⟩
    go_wp2
    refine bodyPost_ret (results_tmp3 rfl _ _ _) rfl ?_
    exact ⟨rfl, keepN k1 k2⟩
  · obtain ⟨ho, k, rfl, hkn, hhd⟩ := isH_parts hh
    obtain ⟨e1, e2, e3⟩ := str_yes hh
    rw [e1, e2, e3, Int.toNat_natCast]
    rw [hh] at hct
    have HS := Lib.hid (fun A w hr => search_any A (hzG l) m k w hr hmm hs.out (by omega) i hi true hct)
    rw [hzG_ok ho] at hi hzm
    obtain ⟨s1, s2, s3⟩ := stretch_at hkn hhd i hi
    rw [hzm] at s1 s2
    have hz : hzG l = hzs l := hzG_ok ho
    rw [hz] at HH HS hmm
    by_cases hlast : m = i + 1
    · have hN := Lib.hid (s2 hlast)
      rw [hn.out] at hN
      have hq : ((i : Int) == (m : Int) - 1) = true := by rw [beq_iff_eq]; omega
      clear hct hi hh e1 e2 e3 hr hzm s1 s2 s3 hlast ho hkn hhd hz hs
      go_enter Tryd.func4, Tryd.ntmps4
      go_wp2_with fail
      refine (HH.out _ hr0.out).mono ?_
      rintro e w1 ⟨A1, rfl, hrd, k1⟩
      rw [hmm.out]
      go_wp2_with fail
      refine (HS.out _ _ hrd).mono ?_
      rintro e w2 ⟨rfl, k2⟩
      go_wp2
      refine bodyPost_ret (results_tmp3 rfl _ _ _) rfl ?_
      exact ⟨ret_3 rfl (by rw [hN.out]) rfl, keepN k1 k2⟩
    · have hlt : i + 1 < m := by omega
      have h3 := Lib.hid s3
      have hq : ((i : Int) == (m : Int) - 1) = false := by rw [beq_eq_false_iff_ne]; omega
      have hlen2 : 0 < (hzs l).length := by omega
      have hlt2 : i + 1 < (hzs l).length := by omega
      clear hct hi hh e1 e2 e3 hr s1 s2 s3 hlast ho hkn hhd hz hs hzm
      go_enter Tryd.func4, Tryd.ntmps4
      go_wp2_with fail
      refine (HH.out _ hr0.out).mono ?_
      rintro e w1 ⟨A1, rfl, hrd, k1⟩
      rw [hmm.out]
      go_wp2_with fail
      refine (HS.out _ _ hrd).mono ?_
      rintro e w2 ⟨rfl, k2⟩
      obtain ⟨g, off, rfl, hc⟩ := rdI_at (hrd.keepN k2) hlen2
      have cc := hc (i + 1) hlt2
      rw [h3.out hlt2] at cc
      have hsum : IntKind.i64.wrap ((i : Int) + 1) = (i : Int) + 1 := IntWalk.i64_in _ (by omega)
      have hs0 : (0 : Int) ≤ (i : Int) + 1 := by omega
      have hst : ((i : Int) + 1).toNat = i + 1 := by omega
      have hsl : (i : Int) + 1 < (m : Int) := by omega
      have gK := keepN k1 k2
      clear hc hlen2 hlt2 hrd HS HH hr0 k1 k2
      go_wp2
      go_quiet (fail)
      go_wp2
      refine bodyPost_ret (results_tmp3 rfl _ _ _) rfl ?_
      exact ⟨rfl, gK.drewN _⟩

end Go.Proofs.YtonpplpfipfnfaaDoor.C

namespace Go.Proofs.YtonpplpfipfnfaaDoor.C
open Go.RowKit O

theorem headB_any {l : List I3} {k : Nat} (h : l.any (fun x => gB x && decide (gN x = (k : Int))) = true) : headB l k = true := by unfold headB; rw [h]; simp
theorem headB_parts (l : List I3) (j : Nat) (h : j < l.length) : headB l (j + 1) = (eB l[j] || gB l[j] || l.any fun x => gB x && decide (gN x = ((j + 1 : Nat) : Int))) := by
  unfold headB
  rw [Nat.add_sub_cancel, at0_of h]; simp

set_option maxRecDepth 100000 in
set_option maxHeartbeats 4000000 in
theorem rhead_any (A : Option Addr) (l : List I3) (n c k : Nat) (w : World) (hr : Rd w A (iis l)) (hn : Hid (l.length = n)) (hI : Hid (AllI l)) (hk : k < n) (h5 : n ≤ 512) (R : Bool) (hR : Hid (headB l k = R)) :
    Calls Tryd.prog 18 #[.slice A n c, .int .i64 k] w fun e w' => e = .returned (.bool R) ∧ Keep NoB w w' := by
  by_cases h0 : k = 0
  · subst h0
    obtain rfl : true = R := by rw [← hR.out]; rfl
    go_enter Tryd.func18, Tryd.ntmps18
    go_wp2
    go_ret
    exact ⟨rfl, Keep.refl _ _⟩
  obtain ⟨j, rfl⟩ : ∃ j, k = j + 1 := ⟨k - 1, by omega⟩
  have hz : ((j : Int) + 1 == 0) = false := by rw [beq_eq_false_iff_ne]; omega
  have hl0 : 0 < l.length := by rw [hn.out]; omega
  obtain ⟨g, off, rfl, hc⟩ := rdJ_at hr hl0
  have hjl : j < l.length := by rw [hn.out]; omega
  obtain ⟨d0, d1, d2⟩ := hc j hjl
  have hP := Lib.hid (headB_parts l j hjl)
  have hab := hI.out l[j] (List.getElem_mem hjl)
  have HC := Lib.hid hc
  clear hc hr h0
  generalize l[j] = x at d0 d1 d2 hP hab
  obtain ⟨op, a, b⟩ := x
  dsimp only at d0 d1 d2 hab
  have ha := Lib.hid hab.1
  have hb := Lib.hid hab.2
  have HD : Hid (∀ w', Keep NoB w w' → w'.cell? ⟨g, off + j * 3, none⟩ = some (.int .i64 op) ∧ w'.cell? ⟨g, off + j * 3 + 1, none⟩ = some (.int .i64 a) ∧ w'.cell? ⟨g, off + j * 3 + 2, none⟩ = some (.int .i64 b)) := fun w' h => ⟨h.cell d0 id, h.cell d1 id, h.cell d2 id⟩
  obtain ⟨en, hen⟩ : ∃ en, endsI op a b = en := ⟨_, rfl⟩
  obtain ⟨go, hgo⟩ : ∃ go, goesI op a b = go := ⟨_, rfl⟩
  obtain ⟨to0, hto0⟩ : ∃ to, goesN op a b = to := ⟨_, rfl⟩
  have HE := Lib.hid (fun w => rends_gen op a b en w hen ha.out hb.out)
  have HG := Lib.hid (fun w => rgoes_gen op a b to0 go w hto0 hgo ha.out hb.out)
  have hP2 : Hid (headB l (j + 1) = (en || go || l.any fun x => gB x && decide (gN x = ((j + 1 : Nat) : Int)))) := by rw [← hen, ← hgo]; exact hP
  clear hab hP hen hgo hto0
  by_cases hq : en = true ∨ go = true
  · obtain rfl : true = R := by rw [← hR.out, hP2.out]; rcases hq with e | e <;> rw [e] <;> simp
    rcases hq with rfl | rfl
    · go_enter Tryd.func18, Tryd.ntmps18
      go_wp2_with fail
      refine (HE.out _).mono ?_
      rintro e w1 ⟨rfl, k1⟩
      obtain ⟨x0, x1, x2⟩ := HD.out _ k1
      clear d0 d1 d2
      go_wp2_with (go_at_call 27; refine (HG.out _).mono ?_; rintro e w2 ⟨rfl, k2⟩)
      go_ret
      exact ⟨rfl, keepN k1 k2⟩
    · cases en
      all_goals
        go_enter Tryd.func18, Tryd.ntmps18
        go_wp2_with fail
        refine (HE.out _).mono ?_
        rintro e w1 ⟨rfl, k1⟩
        obtain ⟨x0, x1, x2⟩ := HD.out _ k1
        clear d0 d1 d2
        go_wp2_with (go_at_call 27; refine (HG.out _).mono ?_; rintro e w2 ⟨rfl, k2⟩)
        go_ret
        exact ⟨rfl, keepN k1 k2⟩
  · obtain rfl : en = false := by cases en <;> simp at hq ⊢
    obtain rfl : go = false := by cases go <;> simp at hq ⊢
    go_enter Tryd.func18, Tryd.ntmps18
    go_wp2_with fail
    refine (HE.out _).mono ?_
    rintro e w1 ⟨rfl, k1⟩
    obtain ⟨x0, x1, x2⟩ := HD.out _ k1
    clear d0 d1 d2
    go_wp2_with (go_at_call 27; refine (HG.out _).mono ?_; rintro e w2 ⟨rfl, k2⟩)
    have gK := keepN k1 k2
    clear x0 x1 x2 HE HG HD hq k1 k2 ha hb
    go_loopw [8] (fun i wr => ∃ q : Nat, q ≤ n ∧ i = .int .i64 q ∧ Hid ((l.take q).any (fun x => gB x && decide (gN x = ((j + 1 : Nat) : Int))) = false) ∧ Keep NoB w wr) (fun i _ => n - (intOf i).toNat)
    case atStart => exact ⟨0, Nat.zero_le _, rfl, rfl, gK⟩
    case round =>
      obtain ⟨q, hq, rfl, hno, hK⟩ := hrel
      by_cases hlt : q < n
      · have hql : q < l.length := by rw [hn.out]; exact hlt
        obtain ⟨d0, d1, d2⟩ := HC.out q hql
        have c0 := hK.cell d0 id
        have c1 := hK.cell d1 id
        have c2 := hK.cell d2 id
        have HT := Lib.hid (show l.take (q + 1) = l.take q ++ [l[q]] from List.take_succ_eq_append_getElem hql)
        have HM := Lib.hid (List.getElem_mem hql)
        have hab := hI.out l[q] HM.out
        clear d0 d1 d2
        generalize l[q] = x at c0 c1 c2 HT hab HM
        obtain ⟨op, a, b⟩ := x
        dsimp only at c0 c1 c2 hab
        obtain ⟨to, hto⟩ : ∃ to, goesN op a b = to := ⟨_, rfl⟩
        obtain ⟨t, htt⟩ : ∃ t, goesI op a b = t := ⟨_, rfl⟩
        have HG := Lib.hid (fun w => rgoes_gen op a b to t w hto htt hab.1 hab.2)
        by_cases hh : t = true ∧ to = (j : Int) + 1
        · obtain ⟨rfl, he⟩ := hh
          have hq2 : (to == (j : Int) + 1) = true := by rw [beq_iff_eq]; exact he
          obtain rfl : true = R := by
            rw [← hR.out]
            refine (headB_any (k := j + 1) (List.any_eq_true.2 ⟨_, HM.out, ?_⟩)).symm
            show (goesI op a b && decide (goesN op a b = _)) = true
            rw [htt, hto, decide_eq_true (by omega)]; rfl
          clear hto htt hab he HT HM hno hR
          go_wp2_with (go_at_call 27; refine (HG.out _).mono ?_; rintro e w2 ⟨rfl, k2⟩)
          go_ret
          exact ⟨rfl, keepN hK k2⟩
        · have hno2 : Hid ((l.take (q + 1)).any (fun x => gB x && decide (gN x = ((j + 1 : Nat) : Int))) = false) := by
            show _ = _
            rw [HT.out, List.any_append, hno.out]
            show (false || (goesI op a b && decide (goesN op a b = _) || false)) = false
            rw [htt, hto]
            cases t
            · rfl
            · rw [decide_eq_false (fun e => hh ⟨rfl, by omega⟩)]; rfl
          cases t
          · clear hto htt hab HT HM hno hR hh
            go_wp2_with (go_at_call 27; refine (HG.out _).mono ?_; rintro e w2 ⟨rfl, k2⟩)
            go_roundw
            case rel => exact ⟨q + 1, by omega, by go_num, hno2, keepN hK k2⟩
            case measure => simp [intOf]; omega
          · have hq2 : (to == (j : Int) + 1) = false := by rw [beq_eq_false_iff_ne]; exact fun e => hh ⟨rfl, e⟩
            clear hto htt hab HT HM hno hR hh
            go_wp2_with (go_at_call 27; refine (HG.out _).mono ?_; rintro e w2 ⟨rfl, k2⟩)
            go_roundw
            case rel => exact ⟨q + 1, by omega, by go_num, hno2, keepN hK k2⟩
            case measure => simp [intOf]; omega
      · obtain rfl : false = R := by
          have := hno.out
          rw [List.take_of_length_le (by rw [hn.out]; omega)] at this
          rw [← hR.out, hP2.out, this]; rfl
        clear hno hR HC hP2
        go_wp2
        go_ret
        exact ⟨rfl, hK⟩

/-- How Heads ends, the capacity whatever it is. -/
def HeadsQ (w : World) (zs : List Int) (e : Ending) (w' : World) : Prop := ∃ A c, e = .returned (.slice A zs.length c) ∧ Rd w' A (ivs zs) ∧ Keep NoB w w'

set_option maxRecDepth 100000 in
set_option maxHeartbeats 4000000 in
theorem rheads_any (A : Option Addr) (l : List I3) (n c : Nat) (w : World) (hr : Rd w A (iis l)) (hn : Hid (l.length = n)) (hI : Hid (AllI l)) (hm : n ≤ 9223372036854775807) :
    Calls Tryd.prog 13 #[.slice A n c] w (HeadsQ w (hzG l)) := by
  cases ho : okB l
  · rw [hzG_no ho]
    have HC := Lib.hid (fun w hr => rcchk_any A l n c w hr hn hI hm 50 (chkB_no ho))
    clear ho
    go_enter Tryd.func13, Tryd.ntmps13
    go_wp2_with (go_at_call 17; refine (HC.out _ hr).mono ?_; rintro e w1 ⟨rfl, k1⟩)
    go_ret
    exact ⟨none, 0, rfl, Rd.none_ _ _, k1⟩
  · rw [hzG_ok ho]
    obtain ⟨h1, h5, _, _⟩ := okB_parts ho
    rw [hn.out] at h1 h5
    have HC := Lib.hid (fun w hr => rcchk_any A l n c w hr hn hI hm 0 (chkB_ok ho))
    have HH := Lib.hid (fun w hr k hk R hR => rhead_any A l n c k w hr hn hI hk h5 R hR)
    have hr0 := Lib.hid hr
    obtain ⟨i0, hi, hz0, hz1, hz2⟩ := info_parts int_info
    have HZ : Hid (hup l n = hzs l) := by show _ = _; rw [← hn.out]; rfl
    clear hr ho
    go_enter Tryd.func13, Tryd.ntmps13
    go_wp2_with (go_at_call 17; refine (HC.out _ hr0.out).mono ?_; rintro e w1 ⟨rfl, k1⟩)
    go_loopw [3, 4] (fun v i wr => ∃ k : Nat, k ≤ n ∧ i = .int .i64 k ∧ (∃ B d, v = .slice B (hup l k).length d ∧ Own wr 3 1 (Fresh w) (.slice B (hup l k).length d) (hup l k).length (ivs (hup l k))) ∧ Keep NoB w wr) (fun _ i _ => n - (intOf i).toNat)
    case atStart => exact ⟨0, Nat.zero_le _, rfl, ⟨none, 0, rfl, Own.nil _ _ _ _⟩, k1⟩
    case round =>
      obtain ⟨k, hk, rfl, ⟨B, d, rfl, hO⟩, hK⟩ := hrel
      have hle := hup_le l k
      by_cases hlt : k < n
      · have hs := Lib.hid (hup_succ l k)
        obtain ⟨m, hm'⟩ : ∃ m, (hup l k).length = m := ⟨_, rfl⟩
        rw [hm'] at hle hO ⊢
        cases hhd : headB l k
        · have HS : Hid (hup l (k + 1) = hup l k) := by show _ = _; rw [hs.out, hhd]; simp
          have HL : Hid ((hup l (k + 1)).length = m) := by show _ = _; rw [HS.out, hm']
          have HD := Lib.hid (fun w hr => HH.out w hr k hlt false hhd)
          clear hhd hm' hs
          go_wp2_with (go_at_call 18; refine (HD.out _ (hr0.out.keepN hK)).mono ?_; rintro e w2 ⟨rfl, k2⟩)
          go_roundw
          case rel => exact ⟨k + 1, by omega, by go_num, ⟨B, d, by rw [HL.out], by rw [HL.out, HS.out]; exact hO.keepN k2⟩, keepN hK k2⟩
          case measure => simp [intOf]; omega
        · have HS : Hid (ivs (hup l (k + 1)) = ivs (hup l k) ++ [.int .i64 (k : Int)]) := by show _ = _; rw [hs.out, hhd]; simp [ivs]
          have HL : Hid ((hup l (k + 1)).length = m + 1) := by show _ = _; rw [hs.out, hhd, List.length_append, hm']; rfl
          have HD := Lib.hid (fun w hr => HH.out w hr k hlt true hhd)
          clear hhd hm' hs
          go_wp2_with fail
          refine (HD.out _ (hr0.out.keepN hK)).mono ?_
          rintro e w2 ⟨rfl, k2⟩
          have hO2 := hO.keepN k2
          have hK2 := keepN hK k2
          clear hO hK k2
          go_wp2_with (at_builtin; refine wpList_append_rd _ rfl (.tmp 19) (.tmp 21) _ rfl 3 1 8 i0 _ Tryd.underlying38 hi hz0 hz1 hz2 rfl (by decide) _ m _ _ 1 _ [.int .i64 (k : Int)] rfl (hO2.1.alloc _) rfl (W.rd_made (by simp) rfl) rfl (by simp [Value.oneCell']) (by unfold maxLen; omega) (by omega) ?_; intro B2 d2 w3 hrow3 hg3 hv3; rw [← HS.out] at hrow3; obtain ⟨hO3, hK3⟩ := W.own_after hO2.2 (hK2.alloc _) hg3 hv3 hrow3; clear hrow3 hg3 hv3)
          go_roundw
          case rel => exact ⟨k + 1, by omega, by go_num, ⟨B2, d2, by rw [HL.out], by rw [HL.out]; exact hO3⟩, hK3⟩
          case measure => simp [intOf]; omega
      · obtain rfl : k = n := by omega
        rw [HZ.out] at hO hle ⊢
        obtain ⟨A', c', e, _, _, hrd, _⟩ := hO.form
        obtain ⟨zs, hz⟩ : ∃ zs, hzs l = zs := ⟨_, rfl⟩
        rw [hz] at hrd hle e ⊢
        have HZ2 := Lib.hid hz
        injection e with e1 _ e2
        subst e1 e2
        clear hO HZ HH hz
        go_wp2
        go_ret
        refine ⟨B, d, ?_, ?_, hK⟩
        · rw [HZ2.out]; rfl
        · rw [HZ2.out]; exact hrd

set_option maxRecDepth 100000 in
set_option maxHeartbeats 4000000 in
theorem rstretch_any (A : Option Addr) (l : List I3) (n c : Nat) (x : Int) (w : World) (hr : Rd w A (iis l)) (hn : Hid (l.length = n)) (hI : Hid (AllI l)) (hm : n ≤ 9223372036854775807) :
    Calls Tryd.prog 5 #[.slice A n c, .int .i64 x] w fun e w' => e = .returned (.tuple #[.int .i64 (strA l x), .int .i64 (strB l x), .int .i64 (strE l x)]) ∧ Keep NoB w w' := by
  have hr0 := Lib.hid hr
  have no_ : isH l x = false → strA l x = 0 ∧ strB l x = 0 ∧ strE l x = 50 := str_no
  cases ho : okB l
  · obtain ⟨e1, e2, e3⟩ := no_ (by unfold isH; rw [ho]; rfl)
    rw [e1, e2, e3]
    have HC := Lib.hid (fun w hr => rcchk_any A l n c w hr hn hI hm 50 (chkB_no ho))
    clear ho e1 e2 e3 no_ hr
    go_enter Tryd.func5, Tryd.ntmps5
    go_wp2_with (go_at_call 17; refine (HC.out _ hr0.out).mono ?_; rintro e w1 ⟨rfl, k1⟩)
    refine bodyPost_ret (results_tmp3 rfl _ _ _) rfl ?_
    exact ⟨rfl, k1⟩
  obtain ⟨h1, h5, _, _⟩ := okB_parts ho
  rw [hn.out] at h1 h5
  have HC := Lib.hid (fun w hr => rcchk_any A l n c w hr hn hI hm 0 (chkB_ok ho))
  have HH := Lib.hid (fun w hr k hk R hR => rhead_any A l n c k w hr hn hI hk h5 R hR)
  clear hr
  by_cases hx0 : 0 ≤ x
  · have q0 : decide (x < 0) = false := by rw [decide_eq_false_iff_not]; omega
    by_cases hx1 : x < (n : Int)
    · obtain ⟨k, rfl⟩ : ∃ k : Nat, x = (k : Int) := ⟨x.toNat, by omega⟩
      have hk : k < n := by omega
      have q1 : decide ((n : Int) ≤ (k : Int)) = false := by rw [decide_eq_false_iff_not]; omega
      have q2 : ¬ ((n : Int) ≤ (k : Int)) := by omega
      have q3 : ¬ n ≤ k := by omega
      cases hhd : headB l k
      · obtain ⟨e1, e2, e3⟩ := no_ (by unfold isH; rw [ho, Int.toNat_natCast, hhd]; simp)
        rw [e1, e2, e3]
        have HD := Lib.hid (fun w hr => HH.out w hr k hk false hhd)
        clear ho e1 e2 e3 no_ hhd HH hx0 hx1
        go_enter Tryd.func5, Tryd.ntmps5
        go_wp2_with fail
        refine (HC.out _ hr0.out).mono ?_
        rintro e w1 ⟨rfl, k1⟩
        go_wp2_with (go_at_call 18; refine (HD.out _ (hr0.out.keepN k1)).mono ?_; rintro e w2 ⟨rfl, k2⟩)
        refine bodyPost_ret (results_tmp3 rfl _ _ _) rfl ?_
        exact ⟨rfl, keepN k1 k2⟩
      · have hk' : k < l.length := by rw [hn.out]; exact hk
        obtain ⟨e1, e2, e3⟩ := str_yes (l := l) (x := (k : Int)) (by unfold isH; rw [ho, Int.toNat_natCast, hhd]; simp; exact hk')
        rw [e1, e2, e3, Int.toNat_natCast]
        have HD := Lib.hid (fun w hr => HH.out w hr k hk true hhd)
        have HNx := Lib.hid (fun to a b hb he => nextH_of (l := l) (h := k) (to := to) a b hb he)
        rw [hn.out] at HNx
        clear ho e1 e2 e3 no_ hhd hx0 hx1
        go_enter Tryd.func5, Tryd.ntmps5
        go_wp2_with fail
        refine (HC.out _ hr0.out).mono ?_
        rintro e w1 ⟨rfl, k1⟩
        go_wp2_with (go_at_call 18; refine (HD.out _ (hr0.out.keepN k1)).mono ?_; rintro e w2 ⟨rfl, k2⟩)
        have gK := keepN k1 k2
        clear k1 k2
        go_loopw [8] (fun i wr => ∃ to : Nat, k < to ∧ to ≤ n ∧ i = .int .i64 to ∧ Hid (∀ j, k < j → j < to → headB l j = false) ∧ Keep NoB w wr) (fun i _ => n - (intOf i).toNat)
        case atStart => exact ⟨k + 1, by omega, by omega, by go_num, fun j h1 h2 => by omega, gK⟩
        case round =>
          obtain ⟨to, hkt, htn, rfl, hno, hK⟩ := hrel
          clear gK
          by_cases hlt : to < n
          · cases hhd : headB l to
            · have HD2 := Lib.hid (fun w hr => HH.out w hr to hlt false hhd)
              have hno2 : Hid (∀ j, k < j → j < to + 1 → headB l j = false) := fun j h1 h2 => by
                by_cases e : j = to
                · rw [e]; exact hhd
                · exact hno.out j h1 (by omega)
              clear hhd
              go_wp2_with (go_at_call 18; refine (HD2.out _ (hr0.out.keepN hK)).mono ?_; rintro e w2 ⟨rfl, k2⟩)
              go_roundw
              case rel => exact ⟨to + 1, by omega, by omega, by go_num, hno2, keepN hK k2⟩
              case measure => simp [intOf]; omega
            · have HD2 := Lib.hid (fun w hr => HH.out w hr to hlt true hhd)
              have hN := Lib.hid (HNx.out to hkt htn hno.out (.inr hhd))
              clear hhd
              go_wp2_with (go_at_call 18; refine (HD2.out _ (hr0.out.keepN hK)).mono ?_; rintro e w2 ⟨rfl, k2⟩)
              refine bodyPost_ret (results_tmp3 rfl _ _ _) rfl ?_
              exact ⟨ret_3 rfl (by rw [hN.out]) rfl, keepN hK k2⟩
          · obtain rfl : to = n := by omega
            have hN := Lib.hid (HNx.out to hkt (Nat.le_refl _) hno.out (.inl rfl))
            go_wp2
            refine bodyPost_ret (results_tmp3 rfl _ _ _) rfl ?_
            exact ⟨ret_3 rfl (by rw [hN.out]) rfl, hK⟩
    · obtain ⟨e1, e2, e3⟩ := no_ (by unfold isH; rw [ho, decide_eq_false (by rw [hn.out]; omega)]; rfl)
      rw [e1, e2, e3]
      have q1 : decide ((n : Int) ≤ x) = true := by rw [decide_eq_true_iff]; omega
      clear ho e1 e2 e3 no_ HH hx1 hx0
      go_enter Tryd.func5, Tryd.ntmps5
      go_wp2_with (go_at_call 17; refine (HC.out _ hr0.out).mono ?_; rintro e w1 ⟨rfl, k1⟩)
      refine bodyPost_ret (results_tmp3 rfl _ _ _) rfl ?_
      exact ⟨rfl, k1⟩
  · obtain ⟨e1, e2, e3⟩ := no_ (by unfold isH; rw [ho, decide_eq_false (by omega)]; rfl)
    rw [e1, e2, e3]
    have q0 : decide (x < 0) = true := by rw [decide_eq_true_iff]; omega
    clear ho e1 e2 e3 no_ HH hx0
    go_enter Tryd.func5, Tryd.ntmps5
    go_wp2_with (go_at_call 17; refine (HC.out _ hr0.out).mono ?_; rintro e w1 ⟨rfl, k1⟩)
    refine bodyPost_ret (results_tmp3 rfl _ _ _) rfl ?_
    exact ⟨rfl, k1⟩

end Go.Proofs.YtonpplpfipfnfaaDoor.C

namespace Go.Proofs.YtonpplpfipfnfaaDoor.C
open Go.RowKit O

theorem instr_info : (Tryd.prog.info? 24).map (fun i => (i.zero, i.size, i.bytes)) = some (some (.agg #[.int .i64 0, .int .i64 0, .int .i64 0]), 3, 24) := by kernel_rfl
theorem instr_size : (Tryd.prog.info? 24).map (·.size) = some 3 := by kernel_rfl

/-- The builtin copy of whole elements into a block that is known whole. -/
theorem run_copy_k {P : Program} {w : World} (dT sT ty elem : TypeId) (k : Nat) (hu : P.underlying dT = some (.slice elem)) (hsz : (P.info? elem).map (·.size) = some k)
    (g n dCap sCap : Nat) (ad : Addr) (cs0 : Array Value) (t : TypeId) (hg : Blk w g t cs0) (cs : List Value) (hn : cs.length = n * k) (hsrc : ∀ j v, cs[j]? = some v → w.cell? (ad.add j) = some v) (hfit : cs0.size = cs.length) (h1 : ∀ v ∈ cs, v.oneCell' = true) :
    ∃ w', (Builtin.copy_ #[dT, sT] ty #[.slice (some ⟨g, 0, none⟩) n dCap, .slice (some ad) n sCap]).run P w = .ok (goInt n) w' ∧ Blk w' g t cs.toArray ∧ Keep (fun b => b = g) w w' := by
  have hl := run_loadCells_list (P := P) w ad cs hsrc
  have hst := run_storeCells_at P g 0 t cs 0 cs0 w hg (by omega) h1
  have e : cs0.toList.take (0 + 0) ++ cs ++ cs0.toList.drop (0 + 0 + cs.length) = cs := by
    rw [List.drop_of_length_le (by simp; omega)]; simp
  rw [e] at hst
  refine ⟨w.setRow g cs.toArray, ?_, setRow_heap w g cs0 cs.toArray t _ hg, ⟨rfl, rfl, rfl, by simp, fun b _ hne => setRow_other w g b _ hne⟩⟩
  cases hq : P.info? elem with
  | none => simp [hq] at hsz
  | some i =>
    have hi : i.size = k := by simpa [hq] using hsz
    simp [Builtin.copy_, run_underlying hu, Builtin.lenOf, Builtin.firstCells, sizeOf, typeInfo, hq, hi, ← hn, hl, hst]

/-- A new slice of as many instructions, and the list copied into it. -/
theorem made_copy {w w1 : World} {l : List I3} {n c : Nat} {g0 off : Nat} {zs : List Value} (hr : Rd w (some ⟨g0, off, none⟩) (iis l)) (hn : l.length = n) (h0 : 1 ≤ n)
    (hrow : w1.ownsRow 0 24 3 (.slice (some ⟨w.heap.size, 0, none⟩) n n) n zs) (hg : w.grownBy w1 none) :
    ∃ w2, (Builtin.copy_ #[22, 22] 3 #[.slice (some ⟨w.heap.size, 0, none⟩) n n, .slice (some ⟨g0, off, none⟩) n c]).run Tryd.prog w1 = .ok (goInt n) w2 ∧ Blk w2 w.heap.size 24 (iis l).toArray ∧ Keep NoB w w2 := by
  have hK0 : Keep NoB w w1 := (Keep.refl NoB w).grown hg (fun g e _ => by cases e)
  obtain ⟨cur, hB, hcs⟩ : ∃ cur, Blk w1 w.heap.size 24 cur ∧ cur.size = n * 3 := by
    obtain ⟨h3, h4⟩ := hrow
    rcases h4 with ⟨h4, _⟩ | ⟨g, cap, cur, h4, _, h6, _, _, h7, _⟩
    · cases h4
    · injection h4 with h4 _ h8
      injection h4 with h4
      injection h4 with h4 _ _
      subst h4 h8
      exact ⟨cur, h6, h7⟩
  have hlen : (iis l).length = n * 3 := by rw [iis_length, hn]
  obtain ⟨w2, e, h1, h2⟩ := run_copy_k (P := Tryd.prog) (w := w1) 22 22 3 24 3 Tryd.underlying22 instr_size w.heap.size n n c ⟨g0, off, none⟩ cur _ hB (iis l) hlen
    (fun j v hv => by
      obtain ⟨g', off', e, hc⟩ := hr (by rw [hlen]; omega)
      injection e with e; injection e with e1 e2; subst e1 e2
      refine hK0.cell ?_ id
      have := hc j v hv
      unfold Addr.add
      by_cases hj : j = 0
      · subst hj; simpa using this
      · simpa [hj] using this) (by rw [hlen]; exact hcs) (iis_cells l)
  exact ⟨w2, e, h1, hK0.trans h2 (fun b e hl => by omega)⟩

/-- In a list of cells, one number put elsewhere. -/
theorem iis_set (pre post : List I3) (x : I3) (a' : Int) : (iis (pre ++ x :: post)).toArray.setIfInBounds (pre.length * 3 + 1) (.int .i64 a') = (iis (pre ++ (x.1, a', x.2.2) :: post)).toArray := by
  rw [List.setIfInBounds_toArray, iis_append, iis_append, iis_cons, iis_cons]
  congr 1
  rw [List.set_append_right _ _ (by rw [iis_length]; omega), iis_length, show pre.length * 3 + 1 - pre.length * 3 = 1 by omega]
  rfl
theorem blk_at {w : World} {g : Nat} {t : TypeId} {l : List I3} (h : Blk w g t (iis l).toArray) {i : Nat} (hi : i < l.length) :
    w.cell? ⟨g, i * 3, none⟩ = some (.int .i64 l[i].1) ∧ w.cell? ⟨g, i * 3 + 1, none⟩ = some (.int .i64 l[i].2.1) ∧ w.cell? ⟨g, i * 3 + 2, none⟩ = some (.int .i64 l[i].2.2) := by
  obtain ⟨h1, h2, h3⟩ := iis_at l i hi
  exact ⟨by rw [h.cell]; simpa using h1, by rw [h.cell]; simpa using h2, by rw [h.cell]; simpa using h3⟩
theorem blk_mid {w : World} {g j : Nat} {t : TypeId} {pre post : List I3} {x : I3} (h : Blk w g t (iis (pre ++ x :: post)).toArray) (hj : pre.length = j) :
    w.cell? ⟨g, j * 3, none⟩ = some (.int .i64 x.1) ∧ w.cell? ⟨g, j * 3 + 1, none⟩ = some (.int .i64 x.2.1) ∧ w.cell? ⟨g, j * 3 + 2, none⟩ = some (.int .i64 x.2.2) := by
  have := blk_at h (i := j) (by simp; omega)
  have e : (pre ++ x :: post)[j]'(by simp; omega) = x := by
    subst hj; simp
  rw [e] at this; exact this

set_option maxRecDepth 100000 in
set_option maxHeartbeats 4000000 in
theorem shifted_any (A : Option Addr) (l : List I3) (n c : Nat) (p b1 : Int) (w : World) (hr : Rd w A (iis l)) (hn : Hid (l.length = n)) (h1 : 1 ≤ n) (h5 : n ≤ 512) (hb1 : -1 ≤ b1) (hb2 : b1 ≤ 1) :
    Calls Tryd.prog 20 #[.slice A n c, .int .i64 p, .int .i64 b1] w fun e w' => e = .returned (.slice (some ⟨w.heap.size, 0, none⟩) n n) ∧ Blk w' w.heap.size 24 (iis (l.map (gone p b1))).toArray ∧ Keep NoB w w' := by
  obtain ⟨i0, hi, hz0, hz1, hz2⟩ := info_parts instr_info
  have hl0 : 0 < l.length := by rw [hn.out]; omega
  obtain ⟨g0, off, rfl, _⟩ := rdJ_at hr hl0
  have hR0 := Lib.hid hr
  clear hr hl0
  go_enter Tryd.func20, Tryd.ntmps20
  go_wp2_with (at_make; refine wpList_make_full _ rfl _ _ 22 rfl 0 24 i0 _ 3 Tryd.underlying22 hi hz0 hz1 _ _ _ _ n rfl rfl rfl rfl (by rw [hz2]; omega) (by unfold maxLen; omega) (Nat.zero_le _) ?_; intro w1 hrow1 hg1; obtain ⟨w2, hcopy, hB2, hK2⟩ := made_copy (c := c) hR0.out hn.out h1 hrow1 hg1; clear hrow1 hg1)
  clear hcopy
  go_loopw [20] (fun i wr => ∃ j : Nat, j ≤ n ∧ i = .int .i64 j ∧ Blk wr w.heap.size 24 (iis ((l.take j).map (gone p b1) ++ l.drop j)).toArray ∧ Keep NoB w wr) (fun i _ => n - (intOf i).toNat)
  case atStart => exact ⟨0, Nat.zero_le _, rfl, by simpa using hB2, hK2⟩
  case round =>
    obtain ⟨j, hj, rfl, hB, hK⟩ := hrel
    clear hB2 hK2
    by_cases hlt : j < n
    · have hjl : j < l.length := by rw [hn.out]; exact hlt
      have hpre : ((l.take j).map (gone p b1)).length = j := by simp; omega
      have hT : Hid ((l.take (j + 1)).map (gone p b1) = (l.take j).map (gone p b1) ++ [gone p b1 l[j]]) := by show _ = _; rw [List.take_succ_eq_append_getElem hjl, List.map_append]; rfl
      rw [List.drop_eq_getElem_cons hjl] at hB
      generalize l[j] = x at hB hT
      generalize (l.take j).map (gone p b1) = pre at hB hT hpre
      obtain ⟨post, hpost⟩ : ∃ post, l.drop (j + 1) = post := ⟨_, rfl⟩
      have HP : Hid (l.drop (j + 1) = post) := Lib.hid hpost
      rw [hpost] at hB
      clear hpost
      obtain ⟨op, a, b⟩ := x
      obtain ⟨c0, c1, c2⟩ := blk_mid hB hpre
      dsimp only at c0 c1 c2
      obtain ⟨to, hto⟩ : ∃ to, goesN op a b = to := ⟨_, rfl⟩
      have hK1 := hK.alloc (.cells #[.int .i64 op, .int .i64 a, .int .i64 b] 24)
      have hB1 := hB.alloc (.cells #[.int .i64 op, .int .i64 a, .int .i64 b] 24)
      clear hB hK
      cases hg : goesI op a b
      · have hE : Hid ((l.take (j + 1)).map (gone p b1) ++ post = pre ++ (op, a, b) :: post) := by
          show _ = _
          rw [hT.out, gone_no (by rintro ⟨h, _⟩; exact absurd (show goesI op a b = true from h) (by rw [hg]; decide))]; simp
        have HG := Lib.hid (fun w => goes_gen op a b to _ w hto hg)
        clear hg hto hT hpre
        go_wp2_with (go_at_call 30; refine (HG.out _).mono ?_; rintro e w3 ⟨rfl, k3⟩)
        go_roundw
        case rel => exact ⟨j + 1, by omega, by go_num, by rw [HP.out, hE.out]; exact hB1.keep k3 id, keepN hK1 k3⟩
        case measure => simp [intOf]; omega
      · have ha := gB_in (x := (op, a, b)) (show goesI op a b = true from hg)
        dsimp only at ha
        have hta : to = a := by rw [← hto]; exact gN_yes (x := (op, a, b)) hg
        subst hta
        have HG := Lib.hid (fun w => goes_gen op to b to _ w hto hg)
        by_cases hp : p < to
        · have hE : Hid (∀ cs, (iis (pre ++ (op, to + b1, b) :: post)).toArray = cs → (iis ((l.take (j + 1)).map (gone p b1) ++ post)).toArray = cs) := by
            intro cs h
            rw [← h, hT.out, gone_yes (x := (op, to, b)) hg (by rw [gN_yes (x := (op, to, b)) hg]; exact hp)]; simp
          have hS := Lib.hid (iis_set pre post (op, to, b) (to + b1))
          rw [hpre] at hS
          have hp2 : decide (p < to) = true := by rw [decide_eq_true_iff]; exact hp
          clear hg hto hT hp
          go_wp2_with fail
          refine (HG.out _).mono ?_
          rintro e w3 ⟨rfl, k3⟩
          replace hB1 := hB1.keep k3 id
          replace hK1 := keepN hK1 k3
          obtain ⟨e0, e1, e2⟩ := blk_mid hB1 hpre
          dsimp only at e0 e1 e2
          have hf := fun i => hB1.frozen i
          go_wp2
          go_roundw
          case rel => exact ⟨j + 1, by omega, by go_num, by rw [HP.out, hE.out _ rfl, ← hS.out]; exact hB1.put _ _, hK1.setCell (fun h => absurd h (by simp)) _⟩
          case measure => simp [intOf]; omega
        · have hE : Hid ((l.take (j + 1)).map (gone p b1) ++ post = pre ++ (op, to, b) :: post) := by
            show _ = _
            rw [hT.out, gone_no (by rintro ⟨_, h⟩; rw [gN_yes (x := (op, to, b)) hg] at h; exact hp h)]; simp
          have hp2 : decide (p < to) = false := by rw [decide_eq_false_iff_not]; exact hp
          clear hg hto hT hp hpre
          go_wp2_with (go_at_call 30; refine (HG.out _).mono ?_; rintro e w3 ⟨rfl, k3⟩)
          go_roundw
          case rel => exact ⟨j + 1, by omega, by go_num, by rw [HP.out, hE.out]; exact hB1.keep k3 id, keepN hK1 k3⟩
          case measure => simp [intOf]; omega
    · obtain rfl : j = n := by omega
      rw [List.take_of_length_le (by rw [hn.out]; omega), List.drop_of_length_le (by rw [hn.out]; omega), List.append_nil] at hB
      go_wp2
      go_ret
      exact ⟨rfl, hB, hK⟩

end Go.Proofs.YtonpplpfipfnfaaDoor.C
