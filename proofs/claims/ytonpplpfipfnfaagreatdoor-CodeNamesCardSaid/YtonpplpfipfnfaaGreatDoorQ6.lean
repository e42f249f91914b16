/-
  The plain mathematics of heads and stretches: which places are noted as heads, how often, and where a stretch ends. No program, no conditions.
  The plain mathematics of what is put in and taken out, of counts, and of stretches one behind the other. No program, no conditions.
  What shifted of layer code answers: a new list, in which those that go to a place behind one go so much farther. Conditions: the list lies in memory, of 1 to 512 instructions; by 1, or -1.
  A region that draws its order and has a neck: an operation that waits for all ahead of it, and for which all behind it wait. What lies ahead is walked in an order of one's own choice (KMix); then the neck comes up alone, and may write what was made. No program, no conditions.
  What Insert of layer code answers: a new body with one more, or ErrCode. Conditions: the list lies in memory.
  What Delete of layer code answers: a new body without one, or ErrCode. Conditions: the list lies in memory.
  A Reel's look with each of its two keepers: too few bytes, or they are handed on. Conditions: no more than 2^47 bytes.
  A Reel's next: what comes next, its width, the error; the place stays. Conditions: no more than 2^47 bytes.
-/
import Derived.Deep.DeepFit
import Derived.IntWalk
import Derived.Laws.CopyOwn
import Derived.OwnWalk
import Derived.StillTail
import Derived.Test.YtonpplpfipfnfaaGreatDoorQ3
import Derived.Test.YtonpplpfipfnfaaGreatDoorQ4
import Derived.Test.YtonpplpfipfnfaaGreatDoorQ2
import Derived.Test.YtonpplpfipfnfaaGreatDoorQ5
namespace Go.Proofs.YtonpplpfipfnfaaGreatDoor.C
open Go.RowKit O

/-- The places that an instruction at a place makes heads, of those that there are. -/
def madeL (n : Nat) (x : I3) (k : Nat) : List Int := (if gB x = true then [gN x] else []) ++ (if (gB x || eB x) = true ∧ k + 1 < n then [((k + 1 : Nat) : Int)] else [])
/-- How often a place is noted. -/
def metN (l : List I3) : Nat → Int → Nat
  | 0, h => if h = 0 then 1 else 0
  | k + 1, h => metN l k h + (madeL l.length (at0 l k) k).count h
theorem madeL_len (n : Nat) (x : I3) (k : Nat) : (madeL n x k).length ≤ 2 := by
  unfold madeL
  rw [List.length_append]
  have h1 : (if gB x = true then [gN x] else []).length ≤ 1 := by split <;> simp
  have h2 : (if (gB x || eB x) = true ∧ k + 1 < n then [((k + 1 : Nat) : Int)] else []).length ≤ 1 := by split <;> simp
  omega
theorem metN_le (l : List I3) (k : Nat) (h : Int) : metN l k h ≤ 1 + 2 * k := by
  induction k with
  | zero => unfold metN; split <;> omega
  | succ k ih =>
    unfold metN
    have h1 := madeL_len l.length (at0 l k) k
    have h2 := List.count_le_length (a := h) (l := madeL l.length (at0 l k) k)
    omega
theorem metN_pos (l : List I3) (k : Nat) (h : Int) : 0 < metN l k h ↔ h = 0 ∨ ∃ j, j < k ∧ h ∈ madeL l.length (at0 l j) j := by
  induction k with
  | zero =>
    unfold metN
    constructor
    · intro hp; by_cases e : h = 0
      · exact .inl e
      · rw [if_neg e] at hp; omega
    · rintro (e | ⟨j, hj, _⟩)
      · rw [if_pos e]; omega
      · omega
  | succ k ih =>
    unfold metN
    constructor
    · intro hp
      by_cases h1 : 0 < metN l k h
      · rcases ih.1 h1 with e | ⟨j, hj, hm⟩
        · exact .inl e
        · exact .inr ⟨j, by omega, hm⟩
      · exact .inr ⟨k, by omega, List.count_pos_iff.1 (by omega)⟩
    · rintro (e | ⟨j, hj, hm⟩)
      · have := ih.2 (.inl e); omega
      · by_cases e : j = k
        · subst e; have := List.count_pos_iff.2 hm; omega
        · have := ih.2 (.inr ⟨j, by omega, hm⟩); omega
theorem met_head {l : List I3} {i : Nat} (hi : i < l.length) : decide (0 < metN l l.length (i : Int)) = headB l i := by
  rw [Bool.eq_iff_iff, decide_eq_true_iff, metN_pos]
  unfold headB
  simp only [Bool.or_eq_true, decide_eq_true_eq, List.any_eq_true, Bool.and_eq_true]
  constructor
  · rintro (e | ⟨j, hj, hm⟩)
    · exact .inl (.inl (.inl (by omega)))
    · unfold madeL at hm
      rcases List.mem_append.1 hm with h | h
      · split at h
        · next hg => exact .inr ⟨at0 l j, by rw [at0_of hj]; exact List.getElem_mem hj, hg, (List.mem_singleton.1 h).symm⟩
        · simp at h
      · split at h
        · next hg =>
          have e := List.mem_singleton.1 h
          obtain rfl : i = j + 1 := by omega
          rw [Nat.add_sub_cancel]
          rcases Bool.or_eq_true_iff.1 hg.1 with h1 | h1
          · exact .inl (.inr h1)
          · exact .inl (.inl (.inr h1))
        · simp at h
  · have made : ∀ j, j + 1 = i → (gB (at0 l j) || eB (at0 l j)) = true → (i : Int) ∈ madeL l.length (at0 l j) j := by
      intro j hj hg
      unfold madeL
      refine List.mem_append.2 (.inr ?_)
      rw [if_pos ⟨hg, by omega⟩, hj]
      simp
    by_cases h0 : i = 0
    · exact fun _ => .inl (by omega)
    rintro (((e | e) | e) | ⟨x, hx, hg, hn⟩)
    · exact absurd e h0
    · exact .inr ⟨i - 1, by omega, made _ (by omega) (by rw [e]; simp)⟩
    · exact .inr ⟨i - 1, by omega, made _ (by omega) (by rw [e]; simp)⟩
    · obtain ⟨j, hj, rfl⟩ := List.mem_iff_getElem.1 hx
      refine .inr ⟨j, hj, ?_⟩
      rw [at0_of hj]
      unfold madeL
      refine List.mem_append.2 (.inl ?_)
      rw [if_pos hg, hn]; simp

theorem range_filter_snoc (p : Nat → Bool) (k : Nat) : (List.range (k + 1)).filter p = (List.range k).filter p ++ if p k = true then [k] else [] := by
  rw [List.range_succ, List.filter_append]
  cases h : p k <;> simp [h]

/-- Heads as numbers. -/
def hzs (l : List I3) : List Int := (headsL l).map fun i : Nat => (i : Int)
theorem heads_mem {l : List I3} {i : Nat} : i ∈ headsL l ↔ i < l.length ∧ headB l i = true := by
  unfold headsL; rw [List.mem_filter, List.mem_range]
theorem hzs_sorted (l : List I3) : (hzs l).Pairwise (· ≤ ·) := by
  unfold hzs
  rw [List.pairwise_map]
  refine List.Pairwise.imp (R := (· < ·)) (fun {a b} h => by omega) ?_
  exact List.Pairwise.filter _ List.pairwise_lt_range
theorem hzs_length_le (l : List I3) : (hzs l).length ≤ l.length := by
  unfold hzs headsL
  rw [List.length_map]
  exact Nat.le_trans (List.length_filter_le _ _) (by simp)
theorem hzs_contains {l : List I3} (x : Int) : (hzs l).contains x = true ↔ ∃ h : Nat, x = (h : Int) ∧ h < l.length ∧ headB l h = true := by
  unfold hzs
  rw [List.contains_iff_mem, List.mem_map]
  constructor
  · rintro ⟨a, ha, e⟩; exact ⟨a, e.symm, heads_mem.1 ha⟩
  · rintro ⟨h, e, hm⟩; exact ⟨h, heads_mem.2 hm, e.symm⟩
theorem heads_split {l : List I3} {h : Nat} (hn : h < l.length) (hh : headB l h = true) :
    headsL l = (List.range h).filter (headB l) ++ h :: (List.range' (h + 1) (l.length - (h + 1))).filter (headB l) := by
  unfold headsL
  have e : List.range l.length = List.range h ++ h :: List.range' (h + 1) (l.length - (h + 1)) := by
    rw [List.range_eq_range', List.range_eq_range', show l.length = h + (1 + (l.length - (h + 1))) by omega, ← List.range'_append_1, Nat.zero_add]
    congr 1
    rw [show h + (1 + (l.length - (h + 1))) - (h + 1) = l.length - (h + 1) by omega, Nat.add_comm 1, List.range'_succ]
  rw [e, List.filter_append, List.filter_cons, if_pos hh]
theorem stretch_at {l : List I3} {h : Nat} (hn : h < l.length) (hh : headB l h = true) (i : Nat) (hi : (hzs l).countP (fun y => decide (y < (h : Int))) = i) :
    i < (hzs l).length ∧ ((hzs l).length = i + 1 → nextH l h = l.length) ∧ ∀ hlt : i + 1 < (hzs l).length, (hzs l)[i + 1] = (nextH l h : Int) := by
  have hs := heads_split hn hh
  have hz : hzs l = ((List.range h).filter (headB l)).map (fun i : Nat => (i : Int)) ++ (h : Int) :: ((List.range' (h + 1) (l.length - (h + 1))).filter (headB l)).map (fun i : Nat => (i : Int)) := by
    unfold hzs; rw [hs]; simp
  have hc : (hzs l).countP (fun y => decide (y < (h : Int))) = ((List.range h).filter (headB l)).length := by
    rw [hz, List.countP_append, List.countP_cons]
    have h1 : (((List.range h).filter (headB l)).map (fun i : Nat => (i : Int))).countP (fun y => decide (y < (h : Int))) = ((List.range h).filter (headB l)).length := by
      rw [List.countP_eq_length.2]
      · simp
      · intro a ha
        obtain ⟨b, hb, rfl⟩ := List.mem_map.1 ha
        have := List.mem_range.1 (List.mem_filter.1 hb).1
        simp; omega
    have h2 : (((List.range' (h + 1) (l.length - (h + 1))).filter (headB l)).map (fun i : Nat => (i : Int))).countP (fun y => decide (y < (h : Int))) = 0 := by
      rw [List.countP_eq_zero]
      intro a ha
      obtain ⟨b, hb, rfl⟩ := List.mem_map.1 ha
      have := List.mem_range'_1.1 (List.mem_filter.1 hb).1
      simp; omega
    rw [h1, h2]; simp
  rw [hc] at hi
  have hl : (hzs l).length = i + 1 + ((List.range' (h + 1) (l.length - (h + 1))).filter (headB l)).length := by
    rw [hz]; simp [hi]; omega
  refine ⟨by omega, fun e => ?_, fun hlt => ?_⟩
  · have h0 : (List.range' (h + 1) (l.length - (h + 1))).filter (headB l) = [] := List.length_eq_zero_iff.1 (by omega)
    unfold nextH
    rw [← List.head?_filter, h0]; rfl
  · have h0 : 0 < ((List.range' (h + 1) (l.length - (h + 1))).filter (headB l)).length := by omega
    have e : (hzs l)[i + 1]? = some (nextH l h : Int) := by
      rw [hz, List.getElem?_append_right (by simp; omega)]
      simp only [List.length_map, hi]
      rw [show i + 1 - i = 0 + 1 by omega, List.getElem?_cons_succ, List.getElem?_map]
      unfold nextH
      rw [← List.head?_filter]
      cases hf : (List.range' (h + 1) (l.length - (h + 1))).filter (headB l) with
      | nil => rw [hf] at h0; simp at h0
      | cons a t => simp
    exact Option.some.inj ((List.getElem?_eq_getElem hlt).symm.trans e)

/-- The place behind a stretch's last one, told by what lies between. -/
theorem nextH_of {l : List I3} {h to : Nat} (h1 : h < to) (h2 : to ≤ l.length) (hb : ∀ j, h < j → j < to → headB l j = false) (he : to = l.length ∨ headB l to = true) : nextH l h = to := by
  unfold nextH
  have hsp : List.range' (h + 1) (l.length - (h + 1)) = List.range' (h + 1) (to - (h + 1)) ++ List.range' to (l.length - to) := by
    rw [show l.length - (h + 1) = (to - (h + 1)) + (l.length - to) by omega, ← List.range'_append_1, show h + 1 + (to - (h + 1)) = to by omega]
  have hno : (List.range' (h + 1) (to - (h + 1))).find? (headB l) = none := by
    rw [List.find?_eq_none]
    intro a ha
    have := List.mem_range'_1.1 ha
    rw [hb a (by omega) (by omega)]; decide
  rw [hsp, List.find?_append, hno, Option.none_or]
  rcases he with e | e
  · rw [e, Nat.sub_self]; simp
  · by_cases ht : to = l.length
    · rw [ht, Nat.sub_self]; simp
    · rw [show l.length - to = (l.length - to - 1) + 1 by omega, List.range'_succ, List.find?_cons_of_pos e]; rfl
theorem nextH_spec {l : List I3} {h : Nat} (hn : h < l.length) : h < nextH l h ∧ nextH l h ≤ l.length ∧ (∀ j, h < j → j < nextH l h → headB l j = false) ∧ (nextH l h = l.length ∨ (nextH l h < l.length ∧ headB l (nextH l h) = true)) := by
  unfold nextH
  cases hf : (List.range' (h + 1) (l.length - (h + 1))).find? (headB l) with
  | none =>
    simp only [Option.getD_none]
    refine ⟨hn, Nat.le_refl _, fun j h1 h2 => ?_, .inl (by trivial)⟩
    have := List.find?_eq_none.1 hf j (List.mem_range'_1.2 ⟨by omega, by omega⟩)
    simpa using this
  | some t =>
    simp only [Option.getD_some]
    have hm := List.mem_range'_1.1 (List.mem_of_find?_eq_some hf)
    refine ⟨by omega, by omega, fun j h1 h2 => ?_, .inr ⟨by omega, List.find?_some hf⟩⟩
    have hs := List.find?_range'_eq_some.1 hf
    have := hs.2.2 j (by omega) h2
    simpa using this

end Go.Proofs.YtonpplpfipfnfaaGreatDoor.C

namespace Go.Proofs.YtonpplpfipfnfaaGreatDoor.C
open Go.RowKit O

theorem gone_op (k b : Int) (x : I3) : (gone k b x).1 = x.1 ∧ (gone k b x).2.2 = x.2.2 := by unfold gone; split <;> exact ⟨rfl, rfl⟩
theorem gone_yes {k b : Int} {x : I3} (h1 : gB x = true) (h2 : k < gN x) : gone k b x = (x.1, x.2.1 + b, x.2.2) := if_pos ⟨h1, h2⟩
theorem gone_no {k b : Int} {x : I3} (h : ¬ (gB x = true ∧ k < gN x)) : gone k b x = x := if_neg h
theorem gone_back {k : Int} {x : I3} (hx : gN x ≤ 510) : gone k (-1) (gone k 1 x) = x := by
  by_cases h : gB x = true ∧ k < gN x
  · obtain ⟨h1, h2⟩ := h
    rw [gone_yes h1 h2]
    have e := gN_yes h1
    have hb := gB_in h1
    have h3 : gB (x.1, x.2.1 + 1, x.2.2) = true := gB_put h1 (by omega) (by omega)
    have e3 := gN_yes h3
    rw [gone_yes h3 (by rw [e3]; show k < x.2.1 + 1; omega)]
    show (x.1, x.2.1 + 1 + -1, x.2.2) = x
    rw [show x.2.1 + 1 + -1 = x.2.1 by omega]
  · rw [gone_no h, gone_no h]
theorem insL_take (l : List I3) {k : Nat} (x : I3) (hk : k ≤ l.length) : (insL l k x).take k = (l.take k).map (gone k 1) := by
  unfold insL
  rw [List.take_append_of_le_length (by simp; omega), List.take_of_length_le (by simp; omega)]
theorem insL_drop (l : List I3) {k : Nat} (x : I3) (hk : k ≤ l.length) : (insL l k x).drop (k + 1) = (l.drop k).map (gone k 1) := by
  unfold insL
  have h : ((l.take k).map (gone k 1)).length = k := by simp; omega
  rw [List.drop_append, h, List.drop_of_length_le (by rw [h]; omega), show k + 1 - k = 1 by omega]
  rfl
theorem delL_insL {l : List I3} {k : Nat} {x : I3} (hk : k < l.length) (ho : okB l = true) (hm : l.length + 1 ≤ 512) : delL (insL l k x) k = l := by
  unfold delL
  rw [insL_take l x (by omega), insL_drop l x (by omega), ← List.map_append, ← List.map_append, List.take_append_drop, List.map_map]
  conv => rhs; rw [← List.map_id l]
  apply List.map_congr_left
  intro y hy
  have h2 := (item_parts (List.all_eq_true.1 (okB_parts ho).2.2.2 y hy)).2
  exact gone_back (by omega)
theorem insL_here (l : List I3) {k : Nat} (x : I3) (hk : k ≤ l.length) : (insL l k x)[k]? = some x := by
  unfold insL
  rw [List.getElem?_append_right (by simp; omega)]
  have h : ((l.take k).map (gone k 1)).length = k := by simp; omega
  rw [h, Nat.sub_self]; rfl
theorem insL_low (l : List I3) {k i : Nat} (x : I3) (hi : i < k) (hk : k ≤ l.length) : (insL l k x)[i]? = some (gone k 1 (l[i]'(by omega))) := by
  unfold insL
  rw [List.getElem?_append_left (by simp; omega), List.getElem?_map, List.getElem?_take, if_pos hi, List.getElem?_eq_getElem (by omega)]
  rfl
theorem insL_high (l : List I3) {k i : Nat} (x : I3) (hi : k ≤ i) (hl : i < l.length) : (insL l k x)[i + 1]? = some (gone k 1 l[i]) := by
  unfold insL
  have h : ((l.take k).map (gone k 1)).length = k := by simp; omega
  rw [List.getElem?_append_right (by rw [h]; omega), h, show i + 1 - k = (i - k) + 1 by omega, List.getElem?_cons_succ, List.getElem?_map, List.getElem?_drop, show k + (i - k) = i by omega, List.getElem?_eq_getElem hl]
  rfl
theorem cnt_gone (l : List I3) (k b op : Int) : cntB (l.map (gone k b)) op = cntB l op := by
  unfold cntB
  rw [List.countP_map]
  congr 1
  funext x
  show ((gone k b x).1 == op) = (x.1 == op)
  rw [(gone_op k b x).1]
theorem cnt_ins (l : List I3) (k : Nat) (x : I3) : cntB (insL l k x) x.1 = cntB l x.1 + 1 := by
  unfold insL
  have h : cntB ((l.take k).map (gone k 1) ++ x :: (l.drop k).map (gone k 1)) x.1 = cntB ((l.take k).map (gone k 1)) x.1 + (cntB ((l.drop k).map (gone k 1)) x.1 + 1) := by
    unfold cntB; rw [List.countP_append, List.countP_cons]; simp
  have h2 : cntB (l.take k) x.1 + cntB (l.drop k) x.1 = cntB l x.1 := by
    unfold cntB; rw [← List.countP_append, List.take_append_drop]
  rw [h, cnt_gone, cnt_gone]
  omega

/-! ### counts -/
theorem cnt_le (l : List I3) (op : Int) : cntB l op ≤ l.length := List.countP_le_length
/-- How many of the first ops' there are. -/
def sumB (l : List I3) (k : Nat) : Nat := l.countP fun x => decide (0 ≤ x.1 ∧ x.1 < (k : Int))
theorem sum_zero (l : List I3) : sumB l 0 = 0 := by
  unfold sumB
  rw [List.countP_eq_zero]
  intro x _
  rw [decide_eq_true_iff]; omega
theorem sum_succ (l : List I3) (k : Nat) : sumB l (k + 1) = sumB l k + cntB l (k : Int) := by
  unfold sumB cntB
  induction l with
  | nil => rfl
  | cons x l ih =>
    simp only [List.countP_cons, ih]
    by_cases h1 : x.1 = (k : Int)
    · have a1 : decide (0 ≤ x.1 ∧ x.1 < ((k + 1 : Nat) : Int)) = true := by rw [decide_eq_true_iff]; omega
      have a2 : decide (0 ≤ x.1 ∧ x.1 < (k : Int)) = false := by rw [decide_eq_false_iff_not]; omega
      have a3 : (x.1 == (k : Int)) = true := by rw [beq_iff_eq]; exact h1
      rw [a1, a2, a3]; simp; omega
    · have a3 : (x.1 == (k : Int)) = false := by rw [beq_eq_false_iff_ne]; exact h1
      have a1 : decide (0 ≤ x.1 ∧ x.1 < ((k + 1 : Nat) : Int)) = decide (0 ≤ x.1 ∧ x.1 < (k : Int)) := by
        rw [decide_eq_decide]; omega
      rw [a1, a3]; simp; omega
theorem sum_30 (l : List I3) : sumB l 30 = l.countP fun x => isOp x.1 := rfl
theorem sum_le (l : List I3) (k : Nat) : sumB l k ≤ l.length := List.countP_le_length
theorem known_snoc (l : List I3) (x : I3) : (l ++ [x]).countP (fun x => isOp x.1) = l.countP (fun x => isOp x.1) + if isOp x.1 = true then 1 else 0 := by
  rw [List.countP_append, List.countP_singleton]
theorem known_all {l : List I3} (h : okB l = true) : l.countP (fun x => isOp x.1) = l.length := by
  rw [List.countP_eq_length]
  intro x hx
  exact (ok_op (item_parts (List.all_eq_true.1 (okB_parts h).2.2.2 x hx)).1).1
theorem ends_any_of {l : List I3} (h : okB l = true) : 0 < cntB l 24 + cntB l 18 + cntB l 25 + cntB l 27 := by
  obtain ⟨h1, _, h3, h4⟩ := okB_parts h
  rw [lastB_at (by omega)] at h3
  have hm := List.getElem_mem (l := l) (n := l.length - 1) (by omega)
  have hk := (item_parts (List.all_eq_true.1 h4 _ hm)).1
  generalize l[l.length - 1] = x at h3 hm hk
  have he : (rowR x.1 x.2.1 x.2.2).fin = true := h3
  rw [rowR_ok hk, fin_at (ok_op hk).1] at he
  have pos : ∀ op, x.1 = op → 0 < cntB l op := fun op e => by
    unfold cntB
    exact List.countP_pos_iff.2 ⟨x, hm, by simp [e]⟩
  simp only [Bool.or_eq_true, beq_iff_eq] at he
  rcases he with e | e | e | e
  · have := pos _ e; omega
  · have := pos _ e; omega
  · have := pos _ e; omega
  · have := pos _ e; omega
theorem name_nil (op : Int) : (str (O.rowAt op).name).toList.isEmpty = !isOp op := by
  cases ho : isOp op
  · rw [O.rowAt_no ho]; decide +kernel
  · rcases op_cases ho with rfl | rfl | rfl | rfl | rfl | rfl | rfl | rfl | rfl | rfl | rfl | rfl | rfl | rfl | rfl | rfl | rfl | rfl | rfl | rfl | rfl | rfl | rfl | rfl | rfl | rfl | rfl | rfl | rfl | rfl <;> decide +kernel

/-! ### stretches -/
theorem heads_lt (l : List I3) : (headsL l).Pairwise (· < ·) := List.Pairwise.filter _ List.pairwise_lt_range
theorem heads_nodup (l : List I3) : (headsL l).Nodup := (heads_lt l).imp (fun h => Nat.ne_of_lt h)
theorem heads_next {l : List I3} {j : Nat} (hj : j < (headsL l).length) :
    (headsL l)[j] < l.length ∧ headB l (headsL l)[j] = true ∧ (j + 1 = (headsL l).length → nextH l (headsL l)[j] = l.length) ∧ ∀ h2 : j + 1 < (headsL l).length, (headsL l)[j + 1] = nextH l (headsL l)[j] := by
  obtain ⟨h1, h2⟩ := heads_mem.1 (List.getElem_mem hj)
  have hi : (hzs l).countP (fun y => decide (y < ((headsL l)[j] : Int))) = j := by
    have e : hzs l = ((headsL l).take j).map (fun i : Nat => (i : Int)) ++ ((headsL l).drop j).map (fun i : Nat => (i : Int)) := by
      unfold hzs; rw [← List.map_append, List.take_append_drop]
    rw [e, List.countP_append]
    have c1 : (((headsL l).take j).map (fun i : Nat => (i : Int))).countP (fun y => decide (y < ((headsL l)[j] : Int))) = j := by
      rw [List.countP_eq_length.2]
      · simp; omega
      · intro a ha
        obtain ⟨b, hb, rfl⟩ := List.mem_map.1 ha
        obtain ⟨i, hi, rfl⟩ := List.mem_iff_getElem.1 hb
        have hij : i < j := by simp at hi; omega
        rw [List.getElem_take]
        have := List.pairwise_iff_getElem.1 (heads_lt l) i j (by omega) hj hij
        simpa using this
    have c2 : (((headsL l).drop j).map (fun i : Nat => (i : Int))).countP (fun y => decide (y < ((headsL l)[j] : Int))) = 0 := by
      rw [List.countP_eq_zero]
      intro a ha
      obtain ⟨b, hb, rfl⟩ := List.mem_map.1 ha
      obtain ⟨i, hi, rfl⟩ := List.mem_iff_getElem.1 hb
      rw [List.getElem_drop]
      have hle : (headsL l)[j] ≤ (headsL l)[j + i]'(by simp at hi; omega) := by
        rcases Nat.eq_zero_or_pos i with e | e
        · subst e; exact Nat.le_refl _
        · exact Nat.le_of_lt (List.pairwise_iff_getElem.1 (heads_lt l) j (j + i) hj (by simp at hi; omega) (by omega))
      simp; omega
    rw [c1, c2, Nat.add_zero]
  obtain ⟨s1, s2, s3⟩ := stretch_at h1 h2 j hi
  have hl : (hzs l).length = (headsL l).length := by unfold hzs; simp
  refine ⟨h1, h2, fun e => s2 (by omega), fun h => ?_⟩
  have := s3 (by omega)
  unfold hzs at this
  rw [List.getElem_map] at this
  exact_mod_cast this
theorem heads_zero {l : List I3} (h : 0 < l.length) : ∃ hp : 0 < (headsL l).length, (headsL l)[0] = 0 := by
  have hh : headB l 0 = true := by unfold headB; simp
  have hs := heads_split h hh
  have hp : 0 < (headsL l).length := List.length_pos_of_mem (heads_mem.2 ⟨h, hh⟩)
  refine ⟨hp, ?_⟩
  have e : (headsL l)[0]? = some 0 := by rw [hs]; rfl
  exact Option.some.inj ((List.getElem?_eq_getElem hp).symm.trans e)
/-- Within a stretch, nothing goes, or ends. -/
theorem inner_no {l : List I3} {h i : Nat} (hn : h < l.length) (h1 : h ≤ i) (h2 : i + 1 < nextH l h) : gB (l[i]'(by have := (nextH_spec hn).2.1; omega)) = false ∧ eB (l[i]'(by have := (nextH_spec hn).2.1; omega)) = false := by
  obtain ⟨_, hle, hb, _⟩ := nextH_spec hn
  have hx := hb (i + 1) (by omega) h2
  unfold headB at hx
  rw [Nat.add_sub_cancel, at0_of (show i < l.length by omega)] at hx
  simp only [Bool.or_eq_false_iff] at hx
  exact ⟨hx.1.2, hx.1.1.2⟩
theorem goes_head {l : List I3} (ho : okB l = true) {x : I3} (hx : x ∈ l) (hg : gB x = true) : ∃ t : Nat, gN x = (t : Int) ∧ t ∈ headsL l := by
  have h1 := (item_parts (List.all_eq_true.1 (okB_parts ho).2.2.2 x hx)).2
  have h2 := (gN_in x).1
  refine ⟨(gN x).toNat, by omega, heads_mem.2 ⟨by omega, ?_⟩⟩
  unfold headB
  have : (l.any fun x' => gB x' && decide (gN x' = (((gN x).toNat : Nat) : Int))) = true := by
    rw [List.any_eq_true]
    exact ⟨x, hx, by rw [hg]; simp; omega⟩
  rw [this]; simp

end Go.Proofs.YtonpplpfipfnfaaGreatDoor.C

namespace Go.Proofs.YtonpplpfipfnfaaGreatDoor.C
open Go.RowKit O

theorem instr_info : (Tryz.prog.info? 46).map (fun i => (i.zero, i.size, i.bytes)) = some (some (.agg #[.int .i64 0, .int .i64 0, .int .i64 0]), 3, 24) := by kernel_rfl
theorem instr_size : (Tryz.prog.info? 46).map (·.size) = some 3 := by kernel_rfl

/-- The builtin copy of whole elements into a block that is known whole. -/
theorem run_copy_k {P : Program} {w : World} (dT sT ty elem : TypeId) (k : Nat) (hu : P.underlying dT = some (.slice elem)) (hsz : (P.info? elem).map (·.size) = some k)
    (g n dCap sCap : Nat) (ad : Addr) (cs0 : Array Value) (t : TypeId) (hg : Blk w g t cs0) (cs : List Value) (hn : cs.length = n * k) (hsrc : ∀ j v, cs[j]? = some v → w.cell? (ad.add j) = some v) (hfit : cs0.size = cs.length) (h1 : ∀ v ∈ cs, v.oneCell' = true) :
    ∃ w', (Builtin.copy_ #[dT, sT] ty #[.slice (some ⟨g, 0, none⟩) n dCap, .slice (some ad) n sCap]).run P w = .ok (goInt n) w' ∧ Blk w' g t cs.toArray ∧ Keep (fun b => b = g) w w' := by
  have hl := run_loadCells_list (P := P) w ad cs hsrc
  have hst := run_storeCells_at P g 0 t cs 0 cs0 w hg (by omega) h1
  have e : cs0.toList.take (0 + 0) ++ cs ++ cs0.toList.drop (0 + 0 + cs.length) = cs := by
    rw [List.drop_of_length_le (by simp; omega)]; simp
  rw [e] at hst
  refine ⟨w.setRow g cs.toArray, ?_, setRow_heap w g cs0 cs.toArray t _ hg, ⟨rfl, rfl, rfl, by simp, fun b _ hne => setRow_other w g b _ hne⟩⟩
  cases hq : P.info? elem with
  | none => simp [hq] at hsz
  | some i =>
    have hi : i.size = k := by simpa [hq] using hsz
    simp [Builtin.copy_, run_underlying hu, Builtin.lenOf, Builtin.firstCells, sizeOf, typeInfo, hq, hi, ← hn, hl, hst]

/-- A new slice of as many instructions, and the list copied into it. -/
theorem made_copy {w w1 : World} {l : List I3} {n c : Nat} {g0 off : Nat} {zs : List Value} (hr : Rd w (some ⟨g0, off, none⟩) (iis l)) (hn : l.length = n) (h0 : 1 ≤ n)
    (hrow : w1.ownsRow 0 46 3 (.slice (some ⟨w.heap.size, 0, none⟩) n n) n zs) (hg : w.grownBy w1 none) :
    ∃ w2, (Builtin.copy_ #[22, 22] 3 #[.slice (some ⟨w.heap.size, 0, none⟩) n n, .slice (some ⟨g0, off, none⟩) n c]).run Tryz.prog w1 = .ok (goInt n) w2 ∧ Blk w2 w.heap.size 46 (iis l).toArray ∧ Keep NoB w w2 := by
  have hK0 : Keep NoB w w1 := (Keep.refl NoB w).grown hg (fun g e _ => by cases e)
  obtain ⟨cur, hB, hcs⟩ : ∃ cur, Blk w1 w.heap.size 46 cur ∧ cur.size = n * 3 := by
    obtain ⟨h3, h4⟩ := hrow
    rcases h4 with ⟨h4, _⟩ | ⟨g, cap, cur, h4, _, h6, _, _, h7, _⟩
    · cases h4
    · injection h4 with h4 _ h8
      injection h4 with h4
      injection h4 with h4 _ _
      subst h4 h8
      exact ⟨cur, h6, h7⟩
  have hlen : (iis l).length = n * 3 := by rw [iis_length, hn]
  obtain ⟨w2, e, h1, h2⟩ := run_copy_k (P := Tryz.prog) (w := w1) 22 22 3 46 3 Tryz.underlying22 instr_size w.heap.size n n c ⟨g0, off, none⟩ cur _ hB (iis l) hlen
    (fun j v hv => by
      obtain ⟨g', off', e, hc⟩ := hr (by rw [hlen]; omega)
      injection e with e; injection e with e1 e2; subst e1 e2
      refine hK0.cell ?_ id
      have := hc j v hv
      unfold Addr.add
      by_cases hj : j = 0
      · subst hj; simpa using this
      · simpa [hj] using this) (by rw [hlen]; exact hcs) (iis_cells l)
  exact ⟨w2, e, h1, hK0.trans h2 (fun b e hl => by omega)⟩

/-- In a list of cells, one number put elsewhere. -/
theorem iis_set (pre post : List I3) (x : I3) (a' : Int) : (iis (pre ++ x :: post)).toArray.setIfInBounds (pre.length * 3 + 1) (.int .i64 a') = (iis (pre ++ (x.1, a', x.2.2) :: post)).toArray := by
  rw [List.setIfInBounds_toArray, iis_append, iis_append, iis_cons, iis_cons]
  congr 1
  rw [List.set_append_right _ _ (by rw [iis_length]; omega), iis_length, show pre.length * 3 + 1 - pre.length * 3 = 1 by omega]
  rfl
theorem blk_at {w : World} {g : Nat} {t : TypeId} {l : List I3} (h : Blk w g t (iis l).toArray) {i : Nat} (hi : i < l.length) :
    w.cell? ⟨g, i * 3, none⟩ = some (.int .i64 l[i].1) ∧ w.cell? ⟨g, i * 3 + 1, none⟩ = some (.int .i64 l[i].2.1) ∧ w.cell? ⟨g, i * 3 + 2, none⟩ = some (.int .i64 l[i].2.2) := by
  obtain ⟨h1, h2, h3⟩ := iis_at l i hi
  exact ⟨by rw [h.cell]; simpa using h1, by rw [h.cell]; simpa using h2, by rw [h.cell]; simpa using h3⟩
theorem blk_mid {w : World} {g j : Nat} {t : TypeId} {pre post : List I3} {x : I3} (h : Blk w g t (iis (pre ++ x :: post)).toArray) (hj : pre.length = j) :
    w.cell? ⟨g, j * 3, none⟩ = some (.int .i64 x.1) ∧ w.cell? ⟨g, j * 3 + 1, none⟩ = some (.int .i64 x.2.1) ∧ w.cell? ⟨g, j * 3 + 2, none⟩ = some (.int .i64 x.2.2) := by
  have := blk_at h (i := j) (by simp; omega)
  have e : (pre ++ x :: post)[j]'(by simp; omega) = x := by
    subst hj; simp
  rw [e] at this; exact this

set_option maxRecDepth 100000 in
set_option maxHeartbeats 4000000 in
theorem shifted_any (A : Option Addr) (l : List I3) (n c : Nat) (p b1 : Int) (w : World) (hr : Rd w A (iis l)) (hn : Hid (l.length = n)) (h1 : 1 ≤ n) (h5 : n ≤ 512) (hb1 : -1 ≤ b1) (hb2 : b1 ≤ 1) :
    Calls Tryz.prog 48 #[.slice A n c, .int .i64 p, .int .i64 b1] w fun e w' => e = .returned (.slice (some ⟨w.heap.size, 0, none⟩) n n) ∧ Blk w' w.heap.size 46 (iis (l.map (gone p b1))).toArray ∧ Keep NoB w w' := by
  obtain ⟨i0, hi, hz0, hz1, hz2⟩ := info_parts instr_info
  have hl0 : 0 < l.length := by rw [hn.out]; omega
  obtain ⟨g0, off, rfl, _⟩ := rdJ_at hr hl0
  have hR0 := Lib.hid hr
  clear hr hl0
  go_enter Tryz.func48, Tryz.ntmps48
  go_wp2_with (at_make; refine wpList_make_full _ rfl _ _ 22 rfl 0 46 i0 _ 3 Tryz.underlying22 hi hz0 hz1 _ _ _ _ n rfl rfl rfl rfl (by rw [hz2]; omega) (by unfold maxLen; omega) (Nat.zero_le _) ?_; intro w1 hrow1 hg1; obtain ⟨w2, hcopy, hB2, hK2⟩ := made_copy (c := c) hR0.out hn.out h1 hrow1 hg1; clear hrow1 hg1)
  clear hcopy
  go_loopw [20] (fun i wr => ∃ j : Nat, j ≤ n ∧ i = .int .i64 j ∧ Blk wr w.heap.size 46 (iis ((l.take j).map (gone p b1) ++ l.drop j)).toArray ∧ Keep NoB w wr) (fun i _ => n - (intOf i).toNat)
  case atStart => exact ⟨0, Nat.zero_le _, rfl, by simpa using hB2, hK2⟩
  case round =>
    obtain ⟨j, hj, rfl, hB, hK⟩ := hrel
    clear hB2 hK2
    by_cases hlt : j < n
    · have hjl : j < l.length := by rw [hn.out]; exact hlt
      have hpre : ((l.take j).map (gone p b1)).length = j := by simp; omega
      have hT : Hid ((l.take (j + 1)).map (gone p b1) = (l.take j).map (gone p b1) ++ [gone p b1 l[j]]) := by show _ = _; rw [List.take_succ_eq_append_getElem hjl, List.map_append]; rfl
      rw [List.drop_eq_getElem_cons hjl] at hB
      generalize l[j] = x at hB hT
      generalize (l.take j).map (gone p b1) = pre at hB hT hpre
      obtain ⟨post, hpost⟩ : ∃ post, l.drop (j + 1) = post := ⟨_, rfl⟩
      have HP : Hid (l.drop (j + 1) = post) := Lib.hid hpost
      rw [hpost] at hB
      clear hpost
      obtain ⟨op, a, b⟩ := x
      obtain ⟨c0, c1, c2⟩ := blk_mid hB hpre
      dsimp only at c0 c1 c2
      obtain ⟨to, hto⟩ : ∃ to, goesN op a b = to := ⟨_, rfl⟩
      have hK1 := hK.alloc (.cells #[.int .i64 op, .int .i64 a, .int .i64 b] 46)
      have hB1 := hB.alloc (.cells #[.int .i64 op, .int .i64 a, .int .i64 b] 46)
      clear hB hK
      cases hg : goesI op a b
      · have hE : Hid ((l.take (j + 1)).map (gone p b1) ++ post = pre ++ (op, a, b) :: post) := by
          show _ = _
          rw [hT.out, gone_no (by rintro ⟨h, _⟩; exact absurd (show goesI op a b = true from h) (by rw [hg]; decide))]; simp
        have HG := Lib.hid (fun w => goes_gen op a b to _ w hto hg)
        clear hg hto hT hpre
        go_wp2_with (go_at_call 27; refine (HG.out _).mono ?_; rintro e w3 ⟨rfl, k3⟩)
        go_roundw
        case rel => exact ⟨j + 1, by omega, by go_num, by rw [HP.out, hE.out]; exact hB1.keep k3 id, keepN hK1 k3⟩
        case measure => simp [intOf]; omega
      · have ha := gB_in (x := (op, a, b)) (show goesI op a b = true from hg)
        dsimp only at ha
        have hta : to = a := by rw [← hto]; exact gN_yes (x := (op, a, b)) hg
        subst hta
        have HG := Lib.hid (fun w => goes_gen op to b to _ w hto hg)
        by_cases hp : p < to
        · have hE : Hid (∀ cs, (iis (pre ++ (op, to + b1, b) :: post)).toArray = cs → (iis ((l.take (j + 1)).map (gone p b1) ++ post)).toArray = cs) := by
            intro cs h
            rw [← h, hT.out, gone_yes (x := (op, to, b)) hg (by rw [gN_yes (x := (op, to, b)) hg]; exact hp)]; simp
          have hS := Lib.hid (iis_set pre post (op, to, b) (to + b1))
          rw [hpre] at hS
          have hp2 : decide (p < to) = true := by rw [decide_eq_true_iff]; exact hp
          clear hg hto hT hp
          go_wp2_with fail
          refine (HG.out _).mono ?_
          rintro e w3 ⟨rfl, k3⟩
          replace hB1 := hB1.keep k3 id
          replace hK1 := keepN hK1 k3
          obtain ⟨e0, e1, e2⟩ := blk_mid hB1 hpre
          dsimp only at e0 e1 e2
          have hf := fun i => hB1.frozen i
          go_wp2
          go_roundw
          case rel => exact ⟨j + 1, by omega, by go_num, by rw [HP.out, hE.out _ rfl, ← hS.out]; exact hB1.put _ _, hK1.setCell (fun h => absurd h (by simp)) _⟩
          case measure => simp [intOf]; omega
        · have hE : Hid ((l.take (j + 1)).map (gone p b1) ++ post = pre ++ (op, to, b) :: post) := by
            show _ = _
            rw [hT.out, gone_no (by rintro ⟨_, h⟩; rw [gN_yes (x := (op, to, b)) hg] at h; exact hp h)]; simp
          have hp2 : decide (p < to) = false := by rw [decide_eq_false_iff_not]; exact hp
          clear hg hto hT hp hpre
          go_wp2_with (go_at_call 27; refine (HG.out _).mono ?_; rintro e w3 ⟨rfl, k3⟩)
          go_roundw
          case rel => exact ⟨j + 1, by omega, by go_num, by rw [HP.out, hE.out]; exact hB1.keep k3 id, keepN hK1 k3⟩
          case measure => simp [intOf]; omega
    · obtain rfl : j = n := by omega
      rw [List.take_of_length_le (by rw [hn.out]; omega), List.drop_of_length_le (by rw [hn.out]; omega), List.append_nil] at hB
      go_wp2
      go_ret
      exact ⟨rfl, hB, hK⟩

end Go.Proofs.YtonpplpfipfnfaaGreatDoor.C

namespace Go.Proofs.YtonpplpfipfnfaaGreatDoor
open Go.RowKit

section
variable {P : Program} {ops : Array Oper} {md : Region.Mode}

/-- Behind number n each waits for one behind, or for it. -/
def chain2 (md : Region.Mode) (ops : Array Oper) (n : Nat) : Bool := (List.range ops.size).all fun t => decide (t ≤ n) || (List.range t).any fun j => decide (n ≤ j) && Region.waitsFor md ops t j

theorem head_only {n : Nat} {listed : Array Bool} (hs : Region.sinkB md ops n = true) (hc : chain2 md ops n = true) (inv : HeadInv md ops n listed) :
    ∀ (d i : Nat), n - i = d → i < n → listed.getD i true = false → ∀ t, t ∈ Region.ready md ops listed → t < n := by
  intro d
  induction d using Nat.strongRecOn with
  | _ d ih =>
    intro i hd hi hu t ht
    obtain ⟨htu, ot, hot, hall⟩ := mem_ready.1 ht
    have hts : t < ops.size := (Array.getElem?_eq_some_iff.1 hot).1
    rcases Nat.lt_trichotomy t n with h | h | h
    · exact h
    · subst h
      have h1 := List.all_eq_true.1 hs i (List.mem_range.2 hi)
      obtain ⟨j, hj, hjb⟩ := List.any_eq_true.1 h1
      simp only [Bool.and_eq_true, decide_eq_true_eq] at hjb
      have hjn : j ≤ t := by have := List.mem_range.1 hj; omega
      obtain ⟨oj, hoj, e, he, heb, heo⟩ := Region.waitsFor_spec hjb.2
      by_cases hjt : j = t
      · subst hjt
        obtain rfl : oj = ot := Option.some.inj (hoj.symm.trans hot)
        have := hall e he heb
        rw [heo, getD_both hu] at this; cases this
      · refine ih (t - j) (by omega) j rfl (by omega) (getD_in (by rw [inv.size]; omega) ?_) t ht
        cases hl : listed.getD j false
        · rfl
        · have := inv.closed j oj hoj hl e he heb
          rw [heo, getD_both hu] at this; cases this
    · have h1 := List.all_eq_true.1 hc t (List.mem_range.2 hts)
      simp only [Bool.or_eq_true, decide_eq_true_eq] at h1
      rcases h1 with h1 | h1
      · omega
      · obtain ⟨j, hj, hjb⟩ := List.any_eq_true.1 h1
        simp only [Bool.and_eq_true, decide_eq_true_eq] at hjb
        obtain ⟨oj, hoj, e, he, heb, heo⟩ := Region.waitsFor_spec hjb.2
        obtain rfl : oj = ot := Option.some.inj (hoj.symm.trans hot)
        have h2 := hall e he heb
        have := List.mem_range.1 hj
        rw [heo, getD_both (inv.tail j hjb.1 (by omega))] at h2; cases h2

/-- Whatever order is picked, up to the neck. -/
def wpAnyC (P : Program) (md : Region.Mode) (ops : Array Oper) (n : Nat) (L : Array Bool → Kont) : Nat → Array Bool → Act → (World → Prop) → Prop
  | 0, listed, a, I => L listed a I
  | fuel + 1, listed, a, I => Region.ready md ops listed ≠ [] ∧ ∀ i ∈ Region.ready md ops listed, i < n ∧ mOp P ops true i (wpAnyC P md ops n L fuel (listed.setIfInBounds i true)) a I

theorem wpAny_of_C {n g : Nat} {L : Array Bool → Kont} {Q' : Exit → Act → World → Prop} (hL : ∀ listed a I w, I w → L listed a I → wpAny P md ops Q' g listed a w) :
    ∀ (f : Nat) (listed : Array Bool) (a : Act) (I : World → Prop) (w : World), StableI I → I w → wpAnyC P md ops n L f listed a I → wpAny P md ops Q' (f + g) listed a w
  | 0, listed, a, I, w, _, hw, h => by rw [Nat.zero_add]; exact hL _ _ _ _ hw h
  | f + 1, listed, a, I, w, hI, hw, h => by
    rw [show f + 1 + g = (f + g) + 1 by omega]
    exact ⟨fun h0 => absurd h0 h.1, fun i hi => wpOp_of_mOp hI hw (fun a' I' w' hI' hw' hk => wpAny_of_C hL f _ a' I' w' hI' hw' hk) (h.2 i hi).2⟩

theorem wpAnyC_first {n0 : Nat} {L : Array Bool → Kont} (hs : Region.sinkB md ops n0 = true) (hc : chain2 md ops n0 = true) (hL : ∀ listed a I, L listed a I → ∀ j ∈ Region.ready md ops listed, n0 ≤ j) {i : Nat} (hin : i < n0) {oi : Oper} {v : Value} (hi : ops[i]? = some oi) (hsel : ∀ (j : Nat) (o : Oper) cs b, ops[j]? = some o → o.op ≠ .select cs b) :
    ∀ (fuel : Nat) (listed : Array Bool) (a : Act) (I : World → Prop), HeadInv md ops n0 listed →
      (∀ j oj, ops[j]? = some oj → j ≠ i → listed.getD j true = false → (∀ e ∈ oj.after, Region.binds md e = true → e.on ≠ i) → oi.apart ops oj = true) →
      i ∈ Region.ready md ops listed → YM P ops oi v a I →
      wpAnyC P md ops n0 L fuel (listed.setIfInBounds i true) (a.put oi.dst v) I → wpAnyC P md ops n0 L (fuel + 1) listed a I := by
  intro fuel
  induction fuel with
  | zero =>
    intro listed a I inv _ hr hy H
    refine ⟨fun h => (by rw [h] at hr; cases hr), fun j hj => ⟨head_only hs hc inv _ i rfl hin (mem_ready.1 hr).1 j hj, ?_⟩⟩
    have hjn := head_only hs hc inv _ i rfl hin (mem_ready.1 hr).1 j hj
    by_cases hji : j = i
    · subst hji; exact hy.mOp hi H
    · have := hL _ _ _ H j (ready_mono hj hji)
      omega
  | succ fuel ih =>
    intro listed a I inv hfree hr hy H
    refine ⟨fun h => (by rw [h] at hr; cases hr), fun j hj => ⟨head_only hs hc inv _ i rfl hin (mem_ready.1 hr).1 j hj, ?_⟩⟩
    have hjn := head_only hs hc inv _ i rfl hin (mem_ready.1 hr).1 j hj
    by_cases hji : j = i
    · subst hji; exact hy.mOp hi H
    · have h1 := (H.2 j (ready_mono hj hji)).2
      obtain ⟨hjun, oj, hoj, hall⟩ := mem_ready.1 hj
      have h2 := mOp_put hoj (hfree j oj hoj hji hjun (not_waits hr hall)) (fun cs b => hsel i oi cs b hi) (fun cs b => hsel j oj cs b hoj) hy h1
      have hfree' : ∀ k ok, ops[k]? = some ok → k ≠ i → (listed.setIfInBounds j true).getD k true = false →
          (∀ e ∈ ok.after, Region.binds md e = true → e.on ≠ i) → oi.apart ops ok = true := fun k ok hk hki hun hno => by
        refine hfree k ok hk hki ?_ hno
        by_cases hjk : j = k
        · subst hjk; exact hjun
        · rw [getD_set_ne true hjk] at hun; exact hun
      refine mOp_mono id (fun a' I' h3 => ih (listed.setIfInBounds j true) a' I' (inv.set hj hjn) hfree' (ready_mono hr (Ne.symm hji)) h3.1 ?_) h2
      rw [Array.setIfInBounds_comm _ _ hji]
      exact h3.2

/-- An operation that makes a block may be taken first, if nothing else but such may come up ahead of it. -/
theorem wpAnyC_make {n0 : Nat} {L : Array Bool → Kont} (hs : Region.sinkB md ops n0 = true) (hc : chain2 md ops n0 = true) (hL : ∀ listed a I, L listed a I → ∀ j ∈ Region.ready md ops listed, n0 ≤ j) {i : Nat} (hin : i < n0) {oi : Oper} (hi : ops[i]? = some oi) (hm : isMake oi = true) (hsel : ∀ (j : Nat) (o : Oper) cs b, ops[j]? = some o → o.op ≠ .select cs b) {mk : Nat → Value} {obj : Obj} :
    ∀ (fuel n : Nat) (listed : Array Bool) (a : Act) (I : World → Prop), HeadInv md ops n0 listed →
      (∀ j oj, ops[j]? = some oj → j ≠ i → listed.getD j true = false → (∀ e ∈ oj.after, Region.binds md e = true → e.on ≠ i) → oi.apart ops oj = true) →
      onlyMakes md ops i n listed = true → i ∈ Region.ready md ops listed → Region.wanted oi (yielded ops a.tmps) = true → Make1 P oi a mk obj →
      (∀ g, wpAnyC P md ops n0 L fuel (listed.setIfInBounds i true) (a.put oi.dst (mk g)) fun w => I w ∧ w.heap[g]? = some obj) → wpAnyC P md ops n0 L (fuel + 1) listed a I := by
  intro fuel
  have own : ∀ (fuel : Nat) (listed : Array Bool) (a : Act) (I : World → Prop), Region.wanted oi (yielded ops a.tmps) = true → Make1 P oi a mk obj →
      (∀ g, wpAnyC P md ops n0 L fuel (listed.setIfInBounds i true) (a.put oi.dst (mk g)) fun w => I w ∧ w.heap[g]? = some obj) → mOp P ops true i (wpAnyC P md ops n0 L fuel (listed.setIfInBounds i true)) a I := by
    intro fuel listed a I hw hk H
    unfold mOp
    simp only [hi, hw, if_true, hm]
    exact ⟨mk, obj, hk, H⟩
  induction fuel with
  | zero =>
    intro n listed a I inv _ _ hr hw hk H
    refine ⟨fun h => (by rw [h] at hr; cases hr), fun j hj => ⟨head_only hs hc inv _ i rfl hin (mem_ready.1 hr).1 j hj, ?_⟩⟩
    have hjn := head_only hs hc inv _ i rfl hin (mem_ready.1 hr).1 j hj
    by_cases hji : j = i
    · subst hji; exact own _ _ _ _ hw hk H
    · have := hL _ _ _ (H 0) j (ready_mono hj hji)
      omega
  | succ fuel ih =>
    intro n listed a I inv hfree hom hr hw hk H
    refine ⟨fun h => (by rw [h] at hr; cases hr), fun j hj => ⟨head_only hs hc inv _ i rfl hin (mem_ready.1 hr).1 j hj, ?_⟩⟩
    have hjn := head_only hs hc inv _ i rfl hin (mem_ready.1 hr).1 j hj
    by_cases hji : j = i
    · subst hji; exact own _ _ _ _ hw hk H
    · obtain ⟨m, rfl⟩ : ∃ m, n = m + 1 := by
        cases n with
        | zero => cases hom
        | succ m => exact ⟨m, rfl⟩
      have hom' := List.all_eq_true.1 hom j hj
      obtain ⟨hjun, oj, hoj, hall⟩ := mem_ready.1 hj
      simp only [beq_iff_eq, hji, Bool.or_eq_true, false_or, hoj, Option.map_some, Option.getD_some, Bool.and_eq_true] at hom'
      obtain ⟨hmj, hom2⟩ := hom'
      have hap := hfree j oj hoj hji hjun (not_waits hr hall)
      obtain ⟨h1, h2, h3⟩ := Oper.apart_spec hap
      have hsi := fun cs b => hsel i oi cs b hi
      have hsj := fun cs b => hsel j oj cs b hoj
      have hfree' : ∀ k ok, ops[k]? = some ok → k ≠ i → (listed.setIfInBounds j true).getD k true = false →
          (∀ e ∈ ok.after, Region.binds md e = true → e.on ≠ i) → oi.apart ops ok = true := fun k ok hk hki hun hno => by
        refine hfree k ok hk hki ?_ hno
        by_cases hjk : j = k
        · subst hjk; exact hjun
        · rw [getD_set_ne true hjk] at hun; exact hun
      have on : ∀ (u : Value) (I' : World → Prop), (∀ g, wpAnyC P md ops n0 L fuel ((listed.setIfInBounds i true).setIfInBounds j true) ((a.put oi.dst (mk g)).put oj.dst u) fun w => I' w ∧ w.heap[g]? = some obj) →
          wpAnyC P md ops n0 L (fuel + 1) (listed.setIfInBounds j true) (a.put oj.dst u) I' := fun u I' hK => by
        refine ih m (listed.setIfInBounds j true) (a.put oj.dst u) I' (inv.set hj hjn) hfree' hom2 (ready_mono hr (Ne.symm hji)) ?_ ?_ fun g => ?_
        · rw [wanted_put oi a oj.dst u h3]; exact hw
        · unfold Make1 at *; rw [execOp_put oi hsi a oj.dst u h3]; exact hk
        · rw [Array.setIfInBounds_comm _ _ hji, ← Act.put_comm a (mk g) u h2]; exact hK g
      have H1 : ∀ g, mOp P ops true j (wpAnyC P md ops n0 L fuel ((listed.setIfInBounds i true).setIfInBounds j true)) (a.put oi.dst (mk g)) fun w => I w ∧ w.heap[g]? = some obj := fun g => ((H g).2 j (ready_mono hj hji)).2
      unfold mOp at H1 ⊢
      simp only [hoj, hmj, if_true] at H1 ⊢
      split
      · rename_i hwj
        have H2 : ∀ g, ∃ mk' obj', Make1 P oj (a.put oi.dst (mk g)) mk' obj' ∧ ∀ g', wpAnyC P md ops n0 L fuel ((listed.setIfInBounds i true).setIfInBounds j true) ((a.put oi.dst (mk g)).put oj.dst (mk' g')) fun w => (I w ∧ w.heap[g]? = some obj) ∧ w.heap[g']? = some obj' := fun g => by
          have := H1 g
          rwa [wanted_put oj a oi.dst (mk g) h1, if_pos hwj] at this
        have hmk : ∀ g mk' obj', Make1 P oj (a.put oi.dst (mk g)) mk' obj' → Make1 P oj a mk' obj' := fun g mk' obj' h => by
          unfold Make1 at *; rwa [execOp_put oj hsj a oi.dst (mk g) h1] at h
        obtain ⟨mkj, objj, k1, _⟩ := H2 0
        refine ⟨mkj, objj, hmk _ _ _ k1, fun g' => on _ _ fun g => ?_⟩
        obtain ⟨mk', obj', k1', k2⟩ := H2 g
        obtain ⟨rfl, rfl⟩ := make_same (hmk _ _ _ k1) (hmk _ _ _ k1')
        have e : (fun w : World => (I w ∧ w.heap[g']? = some obj') ∧ w.heap[g]? = some obj) = fun w => (I w ∧ w.heap[g]? = some obj) ∧ w.heap[g']? = some obj' := funext fun w => propext (and_right_comm)
        rw [e]
        exact k2 g'
      · rename_i hwj
        refine on _ _ fun g => ?_
        have := H1 g
        rwa [wanted_put oj a oi.dst (mk g) h1, if_neg hwj] at this

/-- The order may be chosen, and comes to the neck. -/
def orderC (md : Region.Mode) (ops : Array Oper) (n : Nat) (fin : Array Bool) : List (Nat × Bool) → Array Bool → Bool
  | [], listed => listed == fin && (Region.ready md ops listed).all fun j => decide (n ≤ j)
  | (i, gen) :: rest, listed => decide (i < n) && (Region.ready md ops listed).contains i && (if gen then Region.ready md ops listed == [i] else Region.free md ops listed i && (!((ops[i]?).map isMake).getD false || onlyMakes md ops i ops.size listed)) && orderC md ops n fin rest (listed.setIfInBounds i true)

/-- Where the neck stands. -/
def NeckL (md : Region.Mode) (ops : Array Oper) (n : Nat) (fin : Array Bool) (Q : Act → World → Prop) (listed : Array Bool) (a : Act) (I : World → Prop) : Prop :=
  (listed = fin ∧ ∀ j ∈ Region.ready md ops listed, n ≤ j) ∧ ∀ w, I w → Q a w

theorem wpAnyC_order {n : Nat} {fin : Array Bool} {Q : Act → World → Prop} (hsel : Region.noSelect ops = true) (hs : Region.sinkB md ops n = true) (hc : chain2 md ops n = true) : ∀ (l : List (Nat × Bool)) (listed : Array Bool) (a : Act) (I : World → Prop),
    HeadInv md ops n listed → orderC md ops n fin l listed = true → wpM P ops Q l a I → wpAnyC P md ops n (NeckL md ops n fin Q) l.length listed a I
  | [], _, _, _, _, hB, h => by
    simp only [orderC, Bool.and_eq_true, beq_iff_eq] at hB
    exact ⟨⟨hB.1, fun j hj => by simpa using List.all_eq_true.1 hB.2 j hj⟩, h⟩
  | (i, gen) :: rest, listed, a, I, inv, hB, h => by
    simp only [orderC, Bool.and_eq_true, decide_eq_true_eq] at hB
    obtain ⟨⟨⟨hin, hr⟩, hcc⟩, hB'⟩ := hB
    have hr : i ∈ Region.ready md ops listed := by simpa using hr
    obtain ⟨hun, oi, hi, _⟩ := mem_ready.1 hr
    have go := fun a' I' hK => wpAnyC_order (Q := Q) hsel hs hc rest (listed.setIfInBounds i true) a' I' (inv.set hr hin) hB' hK
    have hLL : ∀ listed a I, NeckL md ops n fin Q listed a I → ∀ j ∈ Region.ready md ops listed, n ≤ j := fun _ _ _ h => h.1.2
    cases gen with
    | true =>
      simp only [if_true, beq_iff_eq] at hcc
      refine ⟨fun h => (by rw [h] at hr; cases hr), fun j hj => ⟨head_only hs hc inv _ i rfl hin hun j hj, ?_⟩⟩
      rw [hcc] at hj
      obtain rfl := List.mem_singleton.1 hj
      exact mOp_mono id go h
    | false =>
      simp only [Bool.false_eq_true, if_false, Bool.and_eq_true, hi, Option.map_some, Option.getD_some, Bool.or_eq_true, Bool.not_eq_true'] at hcc
      obtain ⟨hf, hmk⟩ := hcc
      have hfree := Region.free_spec (md := md) hi hf
      change mOp P ops false i (wpM P ops Q rest) a I at h
      unfold mOp at h
      simp only [hi] at h
      split at h
      · rename_i hw
        split at h
        · rename_i hm
          obtain ⟨mk, obj, k1, k2⟩ := h
          rcases hmk with hmk | hmk
          · rw [hm] at hmk; cases hmk
          · exact wpAnyC_make hs hc hLL hin hi hm (Region.noSelect_spec hsel) rest.length ops.size listed a I inv hfree hmk hr hw k1 fun g => go _ _ (k2 g)
        · rename_i hm
          rcases h with ⟨v, k1, k2⟩ | ⟨hg, _⟩
          · exact wpAnyC_first hs hc hLL hin hi (Region.noSelect_spec hsel) rest.length listed a I inv hfree hr (.inl ⟨hw, by simpa using hm, k1⟩) (go _ _ k2)
          · cases hg
      · rename_i hw
        exact wpAnyC_first hs hc hLL hin hi (Region.noSelect_spec hsel) rest.length listed a I inv hfree hr (.inr ⟨by simpa using hw, rfl⟩) (go _ _ h)

def neckB (ops : Array Oper) (n : Nat) (fin : Array Bool) (l : List (Nat × Bool)) : Bool :=
  Region.noSelect ops && Region.sinkB .any ops n && chain2 .any ops n && decide (l.length = n) && decide (n < ops.size) && orderC .any ops n fin l (Array.replicate ops.size false)

/-- A region with a neck: what lies ahead, in an order of one's own choice; then whatever order there is from the neck on. -/
theorem wp_region_neck {id : Nat} {Q : Exit → Act → World → Prop} {a : Act} {w : World} (n : Nat) (fin : Array Bool) (l : List (Nat × Bool)) (I : World → Prop) (hm : P.follows .mixedOrders = true) (hB : neckB ops n fin l = true) (hI : StableI I) (hw : I w.drew)
    (h : Shut (wpM P ops (fun a' w' => wpAny P .any ops Q (ops.size - n) fin a' w') l a I)) : (Code.region id ops true).wp P Q a w := by
  simp only [neckB, Bool.and_eq_true, decide_eq_true_eq] at hB
  obtain ⟨⟨⟨⟨⟨hsel, hs⟩, hc⟩, hl⟩, hn⟩, ho⟩ := hB
  have inv0 : HeadInv .any ops n (Array.replicate ops.size false) :=
    ⟨by simp, fun j oj _ hl => (by rw [getD_replicate_false] at hl; cases hl), fun t _ ht => getD_in (by simpa using ht) (getD_replicate_false _ _)⟩
  have H := wpAnyC_order (P := P) (md := .any) hsel hs hc l _ a I inv0 ho h.out
  refine wp_region_any hm ?_
  have := wpAny_of_C (Q' := Q) (g := ops.size - n) (fun listed a' I' w' hw' hL => by
    obtain ⟨⟨e, _⟩, h2⟩ := hL
    rw [e]; exact h2 _ hw') _ _ _ _ _ hI hw H
  rw [hl, show n + (ops.size - n) = ops.size by omega] at this
  exact this

/-- The neck comes up alone. -/
theorem wpAny_neck {Q : Exit → Act → World → Prop} {f i : Nat} {listed : Array Bool} {a : Act} {w : World} {l tl : List Oper} {o : Oper} (hr : Region.ready md l.toArray listed = [i]) (ho : l.drop i = o :: tl) (hw : Region.wanted o (yielded l.toArray a.tmps) = true)
    (h : o.wp P a w (fun a' w' => wpAny P md l.toArray Q f (listed.setIfInBounds i true) a' w') Q) : wpAny P md l.toArray Q (f + 1) listed a w := by
  have ho := at_drop ho
  refine ⟨fun h0 => (by rw [hr] at h0; cases h0), fun j hj => ?_⟩
  rw [hr] at hj
  obtain rfl := List.mem_singleton.1 hj
  unfold wpOp
  simp only [ho, hw, if_true]
  exact .inl h
/-- What lies behind, in an order of one's own choice. -/
theorem wpAny_behind {Q : Exit → Act → World → Prop} {f : Nat} {listed : Array Bool} {a : Act} {w : World} (l : List (Nat × Bool)) (I : World → Prop) (hs : Region.noSelect ops = true) (hl : l.length = f) (hB : orderM md ops l listed = true) (hI : StableI I) (hw : I w)
    (h : Shut (wpM P ops (Q .normal) l a I)) : wpAny P md ops Q f listed a w := by
  have := wpAny_of_M (Q := Q .normal) (fun _ _ h => h) _ _ _ I _ hI hw (wpAnyM_order hs l _ a I hB h.out)
  rwa [hl] at this

end
end Go.Proofs.YtonpplpfipfnfaaGreatDoor

namespace Go.Proofs.YtonpplpfipfnfaaGreatDoor.C
open Go.RowKit O

/-- What is answered: the list, and the error. -/
def insG (l : List I3) (p : Int) (x : I3) : List I3 := if hasB l p = true ∧ okB (insL l p.toNat x) = true then insL l p.toNat x else []
def insE (l : List I3) (p : Int) (x : I3) : Int := if hasB l p = true ∧ okB (insL l p.toNat x) = true then 0 else 50
def LstR (w : World) (m : List I3) (E : Int) (e : Ending) (w' : World) : Prop := ∃ v, e = .returned (.tuple #[v, .int .i64 E]) ∧ Own w' 46 3 (Fresh w) v m.length (iis m) ∧ Keep NoB w w'
theorem lstR_none {w w' : World} {E : Int} (h : Keep NoB w w') : LstR w [] E (.returned (.tuple #[.slice none 0 0, .int .i64 E])) w' := ⟨_, rfl, Own.nil _ _ _ _, h⟩

/-- An append, as it yields. -/
theorem yields_append {P : Program} {o : Oper} {a : Act} {w w' : World} {R : Value → World → Prop} (s x : Operand) (S : TypeId) (ho : o.op = .call { callee := .builtin .append, args := #[s, x], argTypes := #[S, S] }) {v u v' : Value}
    (hs : a.eval s = v) (hx : a.eval x = u) (hrun : (Builtin.append_ #[S, S] o.type #[v, u]).run P w = .ok v' w') (h : R v' w') : yieldsK P o a w R := by
  unfold yieldsK execOp
  simp only [ho, resolve, invoke, builtin, Sem.run_bind, Sem.run_pure, Result.andThen_ok, List.map_toArray, List.map_cons, List.map_nil, hs, hx, hrun]
  exact h

/-- A new row that has the cells. -/
def RowV (w0 : World) (k : Nat) (ys : List Value) (v : Value) (w : World) : Prop := Own w 46 3 (Fresh w0) v k ys
theorem RowV.stable (w0 : World) (k : Nat) (ys : List Value) (v : Value) : StableI (RowV w0 k ys v) := fun _ _ h hk => Own.keepN h hk

/-- The first append of Insert: onto what is ahead, which has no room. -/
theorem first_append {w0 w : World} {g k : Nat} {cs : List I3} {x : I3} {bx : Nat} (ty : TypeId) (hK : w0.heap.size ≤ w.heap.size) (hm : Blk w g 46 (iis cs).toArray) (hk : k ≤ cs.length) (hk5 : k ≤ 512) (hb : Blk w bx 46 (iis [x]).toArray) :
    ∃ v' w', (Builtin.append_ #[22, 22] ty #[.slice (some ⟨g, 0, none⟩) k k, .slice (some ⟨bx, 0, none⟩) 1 1]).run Tryz.prog w = .ok v' w' ∧ RowV w0 (k + 1) (iis (cs.take k ++ [x])) v' w' ∧ Keep NoB w w' := by
  obtain ⟨i0, hi, hz0, hz1, hz2⟩ := info_parts instr_info
  have e : ∀ (b j : Nat), (⟨b, 0, none⟩ : Addr).add j = ⟨b, j, none⟩ := fun b j => by unfold Addr.add; by_cases hj : j = 0 <;> simp [hj]
  obtain ⟨v', w', h1, h2, h3⟩ := run_append_arg_grows (P := Tryz.prog) w 22 ty 46 i0 _ 3 24 Tryz.underlying22 hi hz0 hz1 hz2 rfl (by decide) ⟨g, 0, none⟩ k k (iis (cs.take k)) (by rw [iis_length, List.length_take]; omega)
    (fun j u hu => by
      rw [e, hm.cell]
      rw [← iis_take] at hu
      obtain ⟨hj, hju⟩ := List.getElem?_eq_some_iff.1 hu
      rw [List.getElem_take] at hju
      simp only [List.getElem?_toArray]
      rw [List.getElem?_eq_getElem (by simp at hj; omega), hju])
    ⟨bx, 0, none⟩ 1 1 (iis [x]) (by rw [iis_length]; rfl) (fun j u hu => by rw [e, hb.cell]; simpa using hu) (by omega) (by unfold maxLen; omega) (by omega)
  refine ⟨v', w', h1, ?_, (Keep.refl NoB w).grown h3 (fun g e _ => by cases e)⟩
  rw [← iis_append] at h2
  exact Own.of_row h2 (fun j hj => Nat.le_trans hK hj)

/-- The list, if it is a body; none, if it is not. -/
def pickL (m : List I3) : List I3 := if okB m = true then m else []
theorem pickL_ok {m : List I3} (h : okB m = true) : pickL m = m := if_pos h
theorem pickL_no {m : List I3} (h : okB m = false) : pickL m = [] := if_neg (by rw [h]; decide)
theorem rd_drop {w : World} {g : Nat} {t : TypeId} {cs : List I3} (h : Blk w g t (iis cs).toArray) (k : Nat) : Rd w (some ⟨g, k * 3, none⟩) (iis (cs.drop k)) := fun _ =>
  ⟨g, k * 3, rfl, fun j u hu => by
    rw [← iis_drop, List.getElem?_drop] at hu
    rw [h.cell]; simpa using hu⟩
/-- What comes of a row that was made, if it is a body. -/
theorem pick_own {w0 w w' : World} {m : List I3} {n c : Nat} {A : Option Addr} (hml : m.length = n) (ho : Own w 46 3 (Fresh w0) (.slice A n c) n (iis m)) (hk : Keep NoB w w') (hK : Keep NoB w0 w') :
    LstR w0 (pickL m) (chkB m) (.returned (.tuple #[ifV m (.slice A n c), .int .i64 (chkB m)])) w' := by
  refine ⟨_, rfl, ?_, hK⟩
  cases h : okB m
  · rw [pickL_no h, ifV_no h]; exact Own.nil _ _ _ _
  · rw [pickL_ok h, ifV_ok h, hml]; exact ho.keepN hk
theorem insert_pick {l : List I3} {p : Int} {x : I3} {m : List I3} (hb : hasB l p = true) (hm : insL l p.toNat x = m) : insG l p x = pickL m ∧ insE l p x = chkB m := by
  unfold insG insE chkB pickL
  rw [hm, hb]
  simp

set_option maxRecDepth 100000 in
set_option maxHeartbeats 4000000 in
theorem insert_any (A : Option Addr) (l : List I3) (n c : Nat) (p op a b : Int) (w : World) (hr : Rd w A (iis l)) (hn : Hid (l.length = n)) (hm : n ≤ 9223372036854775807) :
    Calls Tryz.prog 24 #[.slice A n c, .int .i64 p, instV op a b] w (LstR w (insG l p (op, a, b)) (insE l p (op, a, b))) := by
  cases hb : hasB l p
  · have e1 : insG l p (op, a, b) = [] := by unfold insG; rw [hb, if_neg (by simp)]
    have e2 : insE l p (op, a, b) = 50 := by unfold insE; rw [hb, if_neg (by simp)]
    rw [e1, e2]
    have HC := Lib.hid (fun w hr => hasPlace_any A l n c p w hr hn hm false hb)
    have hR := Lib.hid (hr.keepN ((Keep.refl NoB w).alloc (.cells #[.int .i64 op, .int .i64 a, .int .i64 b] 46)))
    clear hb e1 e2 hr
    go_enter Tryz.func24, Tryz.ntmps24
    go_wp2_with (go_at_call 47; refine (HC.out _ hR.out).mono ?_; rintro e w1 ⟨rfl, k1⟩)
    go_ret2
    exact lstR_none (keepN ((Keep.refl NoB w).alloc _) k1)
  · obtain ⟨⟨hp0, hp1⟩, hok⟩ := hasB_yes hb
    obtain ⟨k, rfl⟩ : ∃ k : Nat, p = (k : Int) := ⟨p.toNat, by omega⟩
    obtain ⟨_, h5, _, _⟩ := okB_parts hok
    rw [hn.out] at hp1 h5
    have hk : k < n := by omega
    obtain ⟨m, hmm⟩ : ∃ m, insL l k (op, a, b) = m := ⟨_, rfl⟩
    obtain ⟨e1, e2⟩ := insert_pick (l := l) (p := (k : Int)) (x := (op, a, b)) (m := m) hb (by rw [Int.toNat_natCast]; exact hmm)
    rw [e1, e2]
    have hml : Hid (m.length = n + 1) := by show _ = _; rw [← hmm, insL_length, hn.out]
    have hms : Hid (iis ((l.map (gone (k : Int) 1)).take k ++ [(op, a, b)]) ++ iis ((l.map (gone (k : Int) 1)).drop k) = iis m) := by
      show _ = _
      rw [← iis_append, ← hmm]; unfold insL
      rw [← List.map_take, ← List.map_drop]; simp
    have HC := Lib.hid (fun w hr => hasPlace_any A l n c k w hr hn hm true hb)
    have HS := Lib.hid (fun w hr => shifted_any A l n c k 1 w hr hn (by omega) h5 (by omega) (by omega))
    have hR := Lib.hid (hr.keepN ((Keep.refl NoB w).alloc (.cells #[.int .i64 op, .int .i64 a, .int .i64 b] 46)))
    have gK := (Keep.refl NoB w).alloc (.cells #[.int .i64 op, .int .i64 a, .int .i64 b] 46)
    have bx := Blk.new w 46 #[.int .i64 op, .int .i64 a, .int .i64 b]
    have hcl : Hid ((l.map (gone (k : Int) 1)).length = n) := by show _ = _; rw [List.length_map, hn.out]
    have hki : (k : Int) ≤ (n : Int) := by omega
    have hkc : ¬ (n = k) := by omega
    clear hb hr e1 e2 hmm hp0 hp1
    generalize l.map (gone (k : Int) 1) = cs at HS hms hcl
    go_enter Tryz.func24, Tryz.ntmps24
    go_wp2_with fail
    refine (HC.out _ hR.out).mono ?_
    rintro e w1 ⟨rfl, k1⟩
    replace bx := bx.keep k1 id
    replace gK := keepN gK k1
    replace hR := Lib.hid (hR.out.keepN k1)
    go_wp2_with fail
    refine (HS.out _ hR.out).mono ?_
    rintro e w2 ⟨rfl, hB, k2⟩
    replace bx := bx.keep k2 id
    replace gK := keepN gK k2
    obtain ⟨g, hg⟩ : ∃ g, w1.heap.size = g := ⟨_, rfl⟩
    rw [hg] at hB ⊢
    clear hg k1 k2 hR HC HS
    go_wp2
    obtain ⟨bb, hbb⟩ : ∃ bb, w.heap.size = bb := ⟨_, rfl⟩
    rw [hbb] at bx ⊢
    clear hbb
    refine wp_region_neck 10 #[true, true, true, true, true, true, true, true, true, true, false, false, false, false, false, false] ((0, false) :: (1, false) :: (2, false) :: (3, false) :: (4, false) :: (7, false) :: (8, false) :: (9, false) :: (5, false) :: (6, true) :: []) (fun w' => Keep NoB w2 w') (by kernel_rfl) (by kernel_rfl) (stable_keep w2) (Keep.refl NoB w2).drew ?_
    refine shM_step rfl rfl rfl (by rfl) (by rfl) ?_
    apply Exists.intro
    refine ⟨fun n' K hK => ?_, ?_, ?_⟩
    · go_big_quiet_op
      exact hK _ rfl
    · kernel_rfl
    refine shM_step rfl rfl rfl (by rfl) (by rfl) ?_
    apply Exists.intro
    refine ⟨fun n' K hK => ?_, ?_, ?_⟩
    · go_big_quiet_op
      exact hK _ rfl
    · kernel_rfl
    refine shM_step rfl rfl rfl (by rfl) (by rfl) ?_
    apply Exists.intro
    refine ⟨fun n' K hK => ?_, ?_, ?_⟩
    · go_big_quiet_op
      exact hK _ rfl
    · kernel_rfl
    refine shM_step rfl rfl rfl (by rfl) (by rfl) ?_
    apply Exists.intro
    refine ⟨fun n' K hK => ?_, ?_, ?_⟩
    · go_big_quiet_op
      exact hK _ rfl
    · kernel_rfl
    refine shM_step rfl rfl rfl (by rfl) (by rfl) ?_
    apply Exists.intro
    refine ⟨fun n' K hK => ?_, ?_, ?_⟩
    · have q0 : ∀ q : KW n'.w, q.w.cell? ⟨bb, 0, none⟩ = some (.int .i64 op) := fun q => (bx.keep (keepN n'.has q.keep) id).cell 0
      have q1 : ∀ q : KW n'.w, q.w.cell? ⟨bb, 1, none⟩ = some (.int .i64 a) := fun q => (bx.keep (keepN n'.has q.keep) id).cell 1
      have q2 : ∀ q : KW n'.w, q.w.cell? ⟨bb, 2, none⟩ = some (.int .i64 b) := fun q => (bx.keep (keepN n'.has q.keep) id).cell 2
      go_big_quiet_op
      exact hK _ rfl
    · kernel_rfl
    refine shM_step rfl rfl rfl (by rfl) (by rfl) ?_
    apply Exists.intro
    refine ⟨fun n' K hK => ?_, ?_, ?_⟩
    · go_big_quiet_op
      exact hK _ rfl
    · kernel_rfl
    refine shM_step rfl rfl rfl (by rfl) (by rfl) ?_
    apply Exists.intro
    refine ⟨fun n' K hK => ?_, ?_, ?_⟩
    · go_big_quiet_op
      exact hK _ rfl
    · kernel_rfl
    refine shM_step rfl rfl rfl (by rfl) (by rfl) ?_
    apply Exists.intro
    refine ⟨fun n' K hK => ?_, ?_, ?_⟩
    · go_big_quiet_op
      exact hK _ rfl
    · kernel_rfl
    refine shM_make rfl rfl (by rfl) (fun H => .slice (some ⟨H, 0, none⟩) 1 1) (.cells #[.int .i64 op, .int .i64 a, .int .i64 b] 46) (fun W => ?_) (fun gz => ?_)
    · go_simp
    simp only [Act.put, List.setIfInBounds_toArray, List.set_cons_zero, List.set_cons_succ]
    refine shM_gen rfl rfl (by kernel_rfl) (RowV w (k + 1) (iis (cs.take k ++ [(op, a, b)]))) (RowV.stable w _ _) (fun q => ?_) (fun v1 => ?_)
    · obtain ⟨v', w', h1, h2, h3⟩ := first_append (w0 := w) (k := k) (x := (op, a, b)) (bx := gz) 22 (Nat.le_trans gK.size q.has.1.size) (hB.keep q.has.1 id) (by rw [hcl.out]; omega) (by omega) q.has.2
      exact yields_append (.tmp 19) (.tmp 21) _ rfl (by rfl) (by rfl) h1 ⟨h2, h3⟩
    simp only [Act.put, List.setIfInBounds_toArray, List.set_cons_zero, List.set_cons_succ]
    refine shM_nil (fun q => ?_)
    obtain ⟨A1, c1, rfl, hc1, hc2, _, hb1⟩ := Own.form q.has.2
    have hO := q.has.2
    have hq := q.has.1.1
    obtain ⟨i0, hi, hz0, hz1, hz2⟩ := info_parts instr_info
    refine wpAny_neck (f := 5) (i := 10) (by kernel_rfl) rfl (by kernel_rfl) ?_
    refine wp_append_rd q.w (.tmp 22) (.tmp 25) _ rfl 46 3 24 i0 _ Tryz.underlying22 hi hz0 hz1 hz2 rfl (by decide) _ (k + 1) _ (some ⟨g, k * 3, none⟩) (n - k) (n - k) (iis (cs.drop k)) (by rfl) hO.1 (by rfl) (rd_drop (hB.keep hq id) k)
      (by rw [iis_length, List.length_drop, hcl.out]) (iis_cells _) (by unfold maxLen; omega) (by omega) ?_
    intro A2 c2 w3 hown hgr hat
    rw [hms.out, show k + 1 + (n - k) = n + 1 by omega] at hown
    rw [show k + 1 + (n - k) = n + 1 by omega] at hat ⊢
    have hO3 : Own w3 46 3 (Fresh w) (.slice A2 (n + 1) c2) (n + 1) (iis m) := ⟨hown, fun g' e => by
      rcases hat with h | h
      · exact hO.2 g' (h ▸ e)
      · rw [h] at e; cases e; exact Nat.le_trans gK.size hq.size⟩
    have hK3 : Keep NoB w w3 := (keepN gK hq).grown hgr (fun g' e hl => by have := hO.2 g' e; unfold Fresh at this; omega)
    have HI := Lib.hid (fun w h => ifBody_any A2 m (n + 1) c2 w h hml (by omega))
    have hrd : Rd w3 A2 (iis m) := by
      obtain ⟨A', c', e, _, _, h, _⟩ := hO3.form
      cases e; exact h
    simp only [Act.put, List.setIfInBounds_toArray, List.set_cons_zero, List.set_cons_succ]
    refine wpAny_behind ((11, false) :: (12, false) :: (13, false) :: (14, false) :: (15, false) :: []) (fun w' => Keep NoB w3 w') (by kernel_rfl) (by rfl) (by kernel_rfl) (stable_keep w3) (Keep.refl NoB w3) ?_
    refine shM_step rfl rfl rfl (by rfl) (by rfl) ?_
    apply Exists.intro
    refine ⟨fun n' K hK => ?_, ?_, ?_⟩
    · go_big_quiet_op
      apply Exists.intro
      refine ⟨fun m' => ?_, ?_⟩
      · go_at_call 37
        exact kept_of (HI.out _ (hrd.keepN (keepN n'.has m'.keep)))
      · exact hK _ rfl
    · kernel_rfl
    refine shM_step rfl rfl rfl (by rfl) (by rfl) ?_
    apply Exists.intro
    refine ⟨fun n' K hK => ?_, ?_, ?_⟩
    · go_big_quiet_op
      exact hK _ rfl
    · kernel_rfl
    refine shM_step rfl rfl rfl (by rfl) (by rfl) ?_
    apply Exists.intro
    refine ⟨fun n' K hK => ?_, ?_, ?_⟩
    · go_big_quiet_op
      exact hK _ rfl
    · kernel_rfl
    refine shM_step rfl rfl rfl (by rfl) (by rfl) ?_
    apply Exists.intro
    refine ⟨fun n' K hK => ?_, ?_, ?_⟩
    · go_big_quiet_op
      exact hK _ rfl
    · kernel_rfl
    refine shM_step rfl rfl rfl (by rfl) (by rfl) ?_
    apply Exists.intro
    refine ⟨fun n' K hK => ?_, ?_, ?_⟩
    · go_big_quiet_op
      exact hK _ rfl
    · kernel_rfl
    refine shM_nil (fun q2 => ?_)
    go_wp2
    go_ret2
    exact pick_own hml.out hO3 q2.has (keepN hK3 q2.has)

end Go.Proofs.YtonpplpfipfnfaaGreatDoor.C

namespace Go.Proofs.YtonpplpfipfnfaaGreatDoor.C
open Go.RowKit O

/-- What is answered: the list, and the error. -/
def delG (l : List I3) (p : Int) : List I3 := if hasB l p = true ∧ okB (delL l p.toNat) = true then delL l p.toNat else []
def delE (l : List I3) (p : Int) : Int := if hasB l p = true ∧ okB (delL l p.toNat) = true then 0 else 50
theorem delete_pick {l : List I3} {p : Int} {m : List I3} (hb : hasB l p = true) (hm : delL l p.toNat = m) : delG l p = pickL m ∧ delE l p = chkB m := by
  unfold delG delE chkB pickL
  rw [hm, hb]
  simp
/-- The first ones of a block that is known whole, as a row with room. -/
theorem row_take {w : World} {g n k : Nat} {cs : List I3} (h : Blk w g 46 (iis cs).toArray) (hn : cs.length = n) (hk : k ≤ n) (h5 : n ≤ 512) : w.ownsRow 0 46 3 (.slice (some ⟨g, 0, none⟩) k n) k (iis (cs.take k)) := by
  refine ⟨by rw [iis_length, List.length_take]; omega, .inr ⟨g, n, (iis cs).toArray, rfl, Nat.zero_le _, h, hk, by unfold maxLen; omega, by simp [iis_length, hn], ?_⟩⟩
  show (iis cs).take (k * 3) = _
  exact iis_take cs k

set_option maxRecDepth 100000 in
set_option maxHeartbeats 4000000 in
theorem delete_any (A : Option Addr) (l : List I3) (n c : Nat) (p : Int) (w : World) (hr : Rd w A (iis l)) (hn : Hid (l.length = n)) (hm : n ≤ 9223372036854775807) :
    Calls Tryz.prog 25 #[.slice A n c, .int .i64 p] w (LstR w (delG l p) (delE l p)) := by
  cases hb : hasB l p
  · have e1 : delG l p = [] := by unfold delG; rw [hb, if_neg (by simp)]
    have e2 : delE l p = 50 := by unfold delE; rw [hb, if_neg (by simp)]
    rw [e1, e2]
    have HC := Lib.hid (fun w hr => hasPlace_any A l n c p w hr hn hm false hb)
    have hR := Lib.hid hr
    clear hb e1 e2 hr
    go_enter Tryz.func25, Tryz.ntmps25
    go_wp2_with (go_at_call 47; refine (HC.out _ hR.out).mono ?_; rintro e w1 ⟨rfl, k1⟩)
    go_ret2
    exact lstR_none k1
  · obtain ⟨⟨hp0, hp1⟩, hok⟩ := hasB_yes hb
    obtain ⟨k, rfl⟩ : ∃ k : Nat, p = (k : Int) := ⟨p.toNat, by omega⟩
    obtain ⟨_, h5, _, _⟩ := okB_parts hok
    rw [hn.out] at hp1 h5
    have hk : k < n := by omega
    obtain ⟨m, hmm⟩ : ∃ m, delL l k = m := ⟨_, rfl⟩
    obtain ⟨e1, e2⟩ := delete_pick (l := l) (p := (k : Int)) (m := m) hb (by rw [Int.toNat_natCast]; exact hmm)
    rw [e1, e2]
    have hml : Hid (m.length = n - 1) := by show _ = _; rw [← hmm, delL_length (by rw [hn.out]; exact hk), hn.out]
    have hms : Hid (iis ((l.map (gone (k : Int) (-1))).take k) ++ iis ((l.map (gone (k : Int) (-1))).drop (k + 1)) = iis m) := by
      show _ = _
      rw [← iis_append, ← hmm]; unfold delL
      rw [← List.map_take, ← List.map_drop]
    have HC := Lib.hid (fun w hr => hasPlace_any A l n c k w hr hn hm true hb)
    have HS := Lib.hid (fun w hr => shifted_any A l n c k (-1) w hr hn (by omega) h5 (by omega) (by omega))
    have hR := Lib.hid hr
    have hcl : Hid ((l.map (gone (k : Int) (-1))).length = n) := by show _ = _; rw [List.length_map, hn.out]
    clear hb hr e1 e2 hmm hp0 hp1 hok
    generalize l.map (gone (k : Int) (-1)) = cs at HS hms hcl
    have hsum : IntKind.i64.wrap ((k : Int) + 1) = (k : Int) + 1 := IntWalk.i64_in _ (by omega)
    have hki : (k : Int) ≤ (n : Int) := by omega
    have hk1 : (k : Int) + 1 ≤ (n : Int) := by omega
    have hks : (0 : Int) ≤ (k : Int) + 1 := by omega
    have hkt : ((k : Int) + 1).toNat = k + 1 := by omega
    by_cases hkn : n = k + 1
    · subst hkn
      go_enter Tryz.func25, Tryz.ntmps25
      go_wp2_with fail
      refine (HC.out _ hR.out).mono ?_
      rintro e w1 ⟨rfl, k1⟩
      have gK := k1
      replace hR := Lib.hid (hR.out.keepN k1)
      go_wp2_with fail
      refine (HS.out _ hR.out).mono ?_
      rintro e w2 ⟨rfl, hB, k2⟩
      replace gK := keepN gK k2
      have hgw : w.heap.size ≤ w1.heap.size := k1.size
      obtain ⟨g, hg⟩ : ∃ g, w1.heap.size = g := ⟨_, rfl⟩
      rw [hg] at hB hgw ⊢
      clear hg k1 k2 hR HC HS
      go_wp2
      refine wp_region_neck 7 #[true, true, true, true, true, true, true, false, false, false, false, false, false] ((0, false) :: (1, false) :: (2, false) :: (3, false) :: (4, false) :: (5, false) :: (6, false) :: []) (fun w' => Keep NoB w2 w') (by kernel_rfl) (by kernel_rfl) (stable_keep w2) (Keep.refl NoB w2).drew ?_
      refine shM_step rfl rfl rfl (by rfl) (by rfl) ?_
      apply Exists.intro
      refine ⟨fun n' K hK => ?_, ?_, ?_⟩
      · go_big_quiet_op
        exact hK _ rfl
      · kernel_rfl
      refine shM_step rfl rfl rfl (by rfl) (by rfl) ?_
      apply Exists.intro
      refine ⟨fun n' K hK => ?_, ?_, ?_⟩
      · go_big_quiet_op
        exact hK _ rfl
      · kernel_rfl
      refine shM_step rfl rfl rfl (by rfl) (by rfl) ?_
      apply Exists.intro
      refine ⟨fun n' K hK => ?_, ?_, ?_⟩
      · go_big_quiet_op
        exact hK _ rfl
      · kernel_rfl
      refine shM_step rfl rfl rfl (by rfl) (by rfl) ?_
      apply Exists.intro
      refine ⟨fun n' K hK => ?_, ?_, ?_⟩
      · go_big_quiet_op
        exact hK _ rfl
      · kernel_rfl
      refine shM_step rfl rfl rfl (by rfl) (by rfl) ?_
      apply Exists.intro
      refine ⟨fun n' K hK => ?_, ?_, ?_⟩
      · go_big_quiet_op
        exact hK _ rfl
      · kernel_rfl
      refine shM_step rfl rfl rfl (by rfl) (by rfl) ?_
      apply Exists.intro
      refine ⟨fun n' K hK => ?_, ?_, ?_⟩
      · go_big_quiet_op
        exact hK _ rfl
      · kernel_rfl
      refine shM_step rfl rfl rfl (by rfl) (by rfl) ?_
      apply Exists.intro
      refine ⟨fun n' K hK => ?_, ?_, ?_⟩
      · go_big_quiet_op
        exact hK _ rfl
      · kernel_rfl
      refine shM_nil (fun q => ?_)
      have hq := q.has
      obtain ⟨i0, hi, hz0, hz1, hz2⟩ := info_parts instr_info
      refine wpAny_neck (f := 5) (i := 7) (by kernel_rfl) rfl (by kernel_rfl) ?_
      refine wp_append_rd q.w (.tmp 16) (.tmp 20) _ rfl 46 3 24 i0 _ Tryz.underlying22 hi hz0 hz1 hz2 rfl (by decide) (.slice (some ⟨g, 0, none⟩) k (k + 1)) k _ (some ⟨g, 0, none⟩) 0 0 (iis (cs.drop (k + 1))) (by rfl) (row_take (hB.keep hq id) hcl.out (by omega) h5) (by rfl) (by rw [List.drop_of_length_le (by rw [hcl.out]; omega)]; exact Rd.none_ _ _)
        (by rw [iis_length, List.length_drop, hcl.out]; omega) (iis_cells _) (by unfold maxLen; omega) (by omega) ?_
      intro A2 c2 w3 hown hgr hat
      rw [hms.out, show k + 0 = k from rfl] at hown
      rw [show k + 0 = k from rfl] at hat ⊢
      rw [Nat.add_sub_cancel] at hml
      have hO3 : Own w3 46 3 (Fresh w) (.slice A2 k c2) k (iis m) := ⟨hown, fun g' e => by
        rcases hat with h | h
        · have : some g' = some g := by rw [← e, h]; rfl
          cases this; exact hgw
        · rw [h] at e; cases e; exact Nat.le_trans gK.size hq.size⟩
      have hK3 : Keep NoB w w3 := (keepN gK hq).grown hgr (fun g' e hl => by have : some g = some g' := e; cases this; omega)
      have HI := Lib.hid (fun w h => ifBody_any A2 m k c2 w h hml (by omega))
      have hrd : Rd w3 A2 (iis m) := by
        obtain ⟨A', c', e, _, _, h, _⟩ := hO3.form
        cases e; exact h
      simp only [Act.put, List.setIfInBounds_toArray, List.set_cons_zero, List.set_cons_succ]
      refine wpAny_behind ((8, false) :: (9, false) :: (10, false) :: (11, false) :: (12, false) :: []) (fun w' => Keep NoB w3 w') (by kernel_rfl) (by rfl) (by kernel_rfl) (stable_keep w3) (Keep.refl NoB w3) ?_
      refine shM_step rfl rfl rfl (by rfl) (by rfl) ?_
      apply Exists.intro
      refine ⟨fun n' K hK => ?_, ?_, ?_⟩
      · go_big_quiet_op
        apply Exists.intro
        refine ⟨fun m' => ?_, ?_⟩
        · go_at_call 37
          exact kept_of (HI.out _ (hrd.keepN (keepN n'.has m'.keep)))
        · exact hK _ rfl
      · kernel_rfl
      refine shM_step rfl rfl rfl (by rfl) (by rfl) ?_
      apply Exists.intro
      refine ⟨fun n' K hK => ?_, ?_, ?_⟩
      · go_big_quiet_op
        exact hK _ rfl
      · kernel_rfl
      refine shM_step rfl rfl rfl (by rfl) (by rfl) ?_
      apply Exists.intro
      refine ⟨fun n' K hK => ?_, ?_, ?_⟩
      · go_big_quiet_op
        exact hK _ rfl
      · kernel_rfl
      refine shM_step rfl rfl rfl (by rfl) (by rfl) ?_
      apply Exists.intro
      refine ⟨fun n' K hK => ?_, ?_, ?_⟩
      · go_big_quiet_op
        exact hK _ rfl
      · kernel_rfl
      refine shM_step rfl rfl rfl (by rfl) (by rfl) ?_
      apply Exists.intro
      refine ⟨fun n' K hK => ?_, ?_, ?_⟩
      · go_big_quiet_op
        exact hK _ rfl
      · kernel_rfl
      refine shM_nil (fun q2 => ?_)
      go_wp2
      go_ret2
      exact pick_own hml.out hO3 q2.has (keepN hK3 q2.has)
    · have hkc : ¬ (n = k + 1) := hkn
      have hkd : k + 1 ≤ n := by omega
      go_enter Tryz.func25, Tryz.ntmps25
      go_wp2_with fail
      refine (HC.out _ hR.out).mono ?_
      rintro e w1 ⟨rfl, k1⟩
      have gK := k1
      replace hR := Lib.hid (hR.out.keepN k1)
      go_wp2_with fail
      refine (HS.out _ hR.out).mono ?_
      rintro e w2 ⟨rfl, hB, k2⟩
      replace gK := keepN gK k2
      have hgw : w.heap.size ≤ w1.heap.size := k1.size
      obtain ⟨g, hg⟩ : ∃ g, w1.heap.size = g := ⟨_, rfl⟩
      rw [hg] at hB hgw ⊢
      clear hg k1 k2 hR HC HS
      go_wp2
      refine wp_region_neck 7 #[true, true, true, true, true, true, true, false, false, false, false, false, false] ((0, false) :: (1, false) :: (2, false) :: (3, false) :: (4, false) :: (5, false) :: (6, false) :: []) (fun w' => Keep NoB w2 w') (by kernel_rfl) (by kernel_rfl) (stable_keep w2) (Keep.refl NoB w2).drew ?_
      refine shM_step rfl rfl rfl (by rfl) (by rfl) ?_
      apply Exists.intro
      refine ⟨fun n' K hK => ?_, ?_, ?_⟩
      · go_big_quiet_op
        exact hK _ rfl
      · kernel_rfl
      refine shM_step rfl rfl rfl (by rfl) (by rfl) ?_
      apply Exists.intro
      refine ⟨fun n' K hK => ?_, ?_, ?_⟩
      · go_big_quiet_op
        exact hK _ rfl
      · kernel_rfl
      refine shM_step rfl rfl rfl (by rfl) (by rfl) ?_
      apply Exists.intro
      refine ⟨fun n' K hK => ?_, ?_, ?_⟩
      · go_big_quiet_op
        exact hK _ rfl
      · kernel_rfl
      refine shM_step rfl rfl rfl (by rfl) (by rfl) ?_
      apply Exists.intro
      refine ⟨fun n' K hK => ?_, ?_, ?_⟩
      · go_big_quiet_op
        exact hK _ rfl
      · kernel_rfl
      refine shM_step rfl rfl rfl (by rfl) (by rfl) ?_
      apply Exists.intro
      refine ⟨fun n' K hK => ?_, ?_, ?_⟩
      · go_big_quiet_op
        exact hK _ rfl
      · kernel_rfl
      refine shM_step rfl rfl rfl (by rfl) (by rfl) ?_
      apply Exists.intro
      refine ⟨fun n' K hK => ?_, ?_, ?_⟩
      · go_big_quiet_op
        exact hK _ rfl
      · kernel_rfl
      refine shM_step rfl rfl rfl (by rfl) (by rfl) ?_
      apply Exists.intro
      refine ⟨fun n' K hK => ?_, ?_, ?_⟩
      · go_big_quiet_op
        exact hK _ rfl
      · kernel_rfl
      refine shM_nil (fun q => ?_)
      have hq := q.has
      obtain ⟨i0, hi, hz0, hz1, hz2⟩ := info_parts instr_info
      refine wpAny_neck (f := 5) (i := 7) (by kernel_rfl) rfl (by kernel_rfl) ?_
      refine wp_append_rd q.w (.tmp 16) (.tmp 20) _ rfl 46 3 24 i0 _ Tryz.underlying22 hi hz0 hz1 hz2 rfl (by decide) (.slice (some ⟨g, 0, none⟩) k n) k _ (some ⟨g, (k + 1) * 3, none⟩) (n - (k + 1)) (n - (k + 1)) (iis (cs.drop (k + 1))) (by rfl) (row_take (hB.keep hq id) hcl.out (by omega) h5) (by rfl) (rd_drop (hB.keep hq id) (k + 1))
        (by rw [iis_length, List.length_drop, hcl.out]) (iis_cells _) (by unfold maxLen; omega) (by omega) ?_
      intro A2 c2 w3 hown hgr hat
      rw [hms.out, show k + (n - (k + 1)) = n - 1 by omega] at hown
      rw [show k + (n - (k + 1)) = n - 1 by omega] at hat ⊢
      have hO3 : Own w3 46 3 (Fresh w) (.slice A2 (n - 1) c2) (n - 1) (iis m) := ⟨hown, fun g' e => by
        rcases hat with h | h
        · have : some g' = some g := by rw [← e, h]; rfl
          cases this; exact hgw
        · rw [h] at e; cases e; exact Nat.le_trans gK.size hq.size⟩
      have hK3 : Keep NoB w w3 := (keepN gK hq).grown hgr (fun g' e hl => by have : some g = some g' := e; cases this; omega)
      have HI := Lib.hid (fun w h => ifBody_any A2 m (n - 1) c2 w h hml (by omega))
      have hrd : Rd w3 A2 (iis m) := by
        obtain ⟨A', c', e, _, _, h, _⟩ := hO3.form
        cases e; exact h
      simp only [Act.put, List.setIfInBounds_toArray, List.set_cons_zero, List.set_cons_succ]
      refine wpAny_behind ((8, false) :: (9, false) :: (10, false) :: (11, false) :: (12, false) :: []) (fun w' => Keep NoB w3 w') (by kernel_rfl) (by rfl) (by kernel_rfl) (stable_keep w3) (Keep.refl NoB w3) ?_
      refine shM_step rfl rfl rfl (by rfl) (by rfl) ?_
      apply Exists.intro
      refine ⟨fun n' K hK => ?_, ?_, ?_⟩
      · go_big_quiet_op
        apply Exists.intro
        refine ⟨fun m' => ?_, ?_⟩
        · go_at_call 37
          exact kept_of (HI.out _ (hrd.keepN (keepN n'.has m'.keep)))
        · exact hK _ rfl
      · kernel_rfl
      refine shM_step rfl rfl rfl (by rfl) (by rfl) ?_
      apply Exists.intro
      refine ⟨fun n' K hK => ?_, ?_, ?_⟩
      · go_big_quiet_op
        exact hK _ rfl
      · kernel_rfl
      refine shM_step rfl rfl rfl (by rfl) (by rfl) ?_
      apply Exists.intro
      refine ⟨fun n' K hK => ?_, ?_, ?_⟩
      · go_big_quiet_op
        exact hK _ rfl
      · kernel_rfl
      refine shM_step rfl rfl rfl (by rfl) (by rfl) ?_
      apply Exists.intro
      refine ⟨fun n' K hK => ?_, ?_, ?_⟩
      · go_big_quiet_op
        exact hK _ rfl
      · kernel_rfl
      refine shM_step rfl rfl rfl (by rfl) (by rfl) ?_
      apply Exists.intro
      refine ⟨fun n' K hK => ?_, ?_, ?_⟩
      · go_big_quiet_op
        exact hK _ rfl
      · kernel_rfl
      refine shM_nil (fun q2 => ?_)
      go_wp2
      go_ret2
      exact pick_own hml.out hO3 q2.has (keepN hK3 q2.has)

end Go.Proofs.YtonpplpfipfnfaaGreatDoor.C

namespace Go.Proofs.YtonpplpfipfnfaaGreatDoor.V
open Go.RowKit

/-- A part of the bytes that a slice reads as. -/
theorem Rd.part {w : World} {A : Option Addr} {l : List UInt8} {c k m : Nat} (h : Rd w A l) (hc : l.length ≤ c) : Rd w (if c = k then A else A.map (·.add k)) ((l.drop k).take m) := fun h0 => by
  have h0' : k < l.length ∧ 0 < m := by simp at h0; omega
  obtain ⟨ad, rfl, hcell⟩ := h (by omega)
  rw [if_neg (by omega)]
  refine ⟨ad.add k, rfl, fun j u hu => ?_⟩
  rw [add_add]
  have hj : j < ((l.drop k).take m).length := by
    have := List.getElem?_eq_some_iff.1 hu
    obtain ⟨h1, _⟩ := this
    simpa using h1
  have hjl : k + j < l.length := by simp at hj; omega
  apply hcell
  rw [← hu]
  simp at hj
  simp [hj]
  exact ⟨_, List.getElem?_eq_getElem hjl, rfl⟩

/-- The address of a part is in the same block. -/
theorem part_block {A : Option Addr} {c k : Nat} {ad : Addr} (h : (if c = k then A else A.map (·.add k)) = some ad) : ∃ ad', A = some ad' ∧ ad.block = ad'.block := by
  split at h
  · exact ⟨ad, h, rfl⟩
  · cases A with
    | none => simp at h
    | some a => simp at h; exact ⟨a, rfl, by rw [← h, block_add]⟩

theorem add_at (w : World) (sb n0 : Nat) (A : Option Addr) (b : List UInt8) (c n : Nat) (hn : n = b.length) (hs : Blk w sb 159 #[.int .u64 n0]) (hr : Rd w A b) (hA : ∀ ad, A = some ad → ad.block ≠ sb) (hlen : b.length ≤ 140737488355328) :
    Calls Tryz.prog 101 #[.pointer (some ⟨sb, 0, none⟩), .slice A n c] w fun e w' => e = .returned (.tuple #[]) ∧ Blk w' sb 159 #[.int .u64 (acc n0 b)] ∧ Keep (fun k => k = sb) w w' := by
  subst hn; exact add_any w sb n0 A b c hs hr hA hlen
/-- What look leaves: too few bytes; or they were handed on. -/
def Looked (w : World) (l : List UInt8) (fr : Nat) (S : Int) (Q : List UInt8 → World → Prop) (e : Ending) (w' : World) : Prop :=
  ((l.length : Int) - fr < S ∧ e = .returned (.int .i64 10) ∧ Keep NoB w w') ∨
  (S ≤ (l.length : Int) - fr ∧ e = .returned (.int .i64 0) ∧ Q ((l.drop fr).take S.toNat) w')
/-- The sum holds the bytes; nothing else has turned. -/
def Summed (w : World) (sb n0 : Nat) (b : List UInt8) (w' : World) : Prop := Blk w' sb 159 #[.int .u64 (acc n0 b)] ∧ Keep (fun k => k = sb) w w'
set_option maxRecDepth 100000 in
set_option maxHeartbeats 1000000 in
theorem look_add (w : World) (br sb n0 at_ fr : Nat) (S : Int) (A : Option Addr) (l : List UInt8) (c : Nat) (hb : Blk w br 75 #[.slice A l.length c, .int .i64 at_]) (hr : Rd w A l) (hc : l.length ≤ c) (hA : ∀ ad, A = some ad → ad.block ≠ sb)
    (hs : Blk w sb 159 #[.int .u64 n0]) (hlen : l.length ≤ 140737488355328) (hcm : c ≤ 9223372036854775807) (hfr : fr ≤ l.length) (hS0 : 0 ≤ S) (hS1 : S ≤ 9223372036854775807) :
    Calls Tryz.prog 100 #[.pointer (some ⟨br, 0, none⟩), .int .i64 fr, .agg #[.int .i64 S, .func (.func 101) #[.pointer (some ⟨sb, 0, none⟩)] #[]]] w (Looked w l fr S (Summed w sb n0)) := by
  have c0 := hb.cell 0
  have c1 := hb.cell 1
  have hlt := hb.lt
  simp at c0 c1
  by_cases hsh : (l.length : Int) - fr < S
  · go_enter Tryz.func100, Tryz.ntmps100
    go_wp2
    go_quiet (fail)
    go_wp2
    go_ret
    exact .inl ⟨hsh, rfl, ((Keep.refl NoB w).alloc _).drewN _⟩
  · obtain ⟨s, rfl⟩ := Int.eq_ofNat_of_zero_le hS0
    have hle : (s : Int) ≤ (l.length : Int) - fr := by omega
    go_enter Tryz.func100, Tryz.ntmps100
    go_wp2
    go_quiet (fail)
    go_wp2
    obtain ⟨wq, hwq⟩ : ∃ wq, (w.alloc (.cells #[.int .i64 s, .func (.func 101) #[.pointer (some ⟨sb, 0, none⟩)] #[]] 163)).drewN nq = wq := ⟨_, rfl⟩
    rw [hwq]
    have hkq : Keep NoB w wq := hwq ▸ ((Keep.refl NoB w).alloc _).drewN nq
    have hbx : Blk wq w.heap.size 163 #[.int .i64 s, .func (.func 101) #[.pointer (some ⟨sb, 0, none⟩)] #[]] := hwq ▸ Blk.new w _ _
    clear hwq
    have hbq := hb.keep hkq id
    have hsq := hs.keep hkq id
    have hrq := (hr.keep hkq (fun _ _ _ => id)).part (c := c) (k := fr) (m := s) hc
    have q0 := hbq.cell 0
    have q1 := hbx.cell 0
    have q2 := hbx.cell 1
    simp at q0 q1 q2
    have hpl : ((l.drop fr).take s).length = s := by simp; omega
    have hA2 : ∀ ad, (if c = fr then A else A.map (·.add fr)) = some ad → ad.block ≠ sb := fun ad e => by
      obtain ⟨ad', e1, e2⟩ := part_block e
      rw [e2]; exact hA ad' e1
    have hcs : (c : Int) ≤ 9223372036854775807 := by omega
    have hs0 : (0 : Int) ≤ (fr : Int) + s := by omega
    have hs1 : (fr : Int) + s ≤ c := by omega
    have hs2 : ((fr : Int) + s).toNat = fr + s := by omega
    have hs3 : IntKind.i64.wrap ((fr : Int) + s) = (fr : Int) + s := IntWalk.i64_in _ (by omega)
    go_still_tail 12, (by kernel_rfl)
    change wpList _ _ _ _ _ wq.drew
    go_wp2_with (go_at_call 101; refine (add_at wq.drew sb n0 _ ((l.drop fr).take s) _ s hpl.symm hsq hrq hA2 (by omega)).mono ?_; rintro e w2 ⟨rfl, hs2, hk2⟩)
    all_goals go_ret
    all_goals exact .inr ⟨hle, rfl, hs2, ((hkq.mono (fun _ hf _ => hf.elim)).drew).trans hk2 (fun _ h _ => h)⟩

end Go.Proofs.YtonpplpfipfnfaaGreatDoor.V

namespace Go.Proofs.YtonpplpfipfnfaaGreatDoor.V
open Go.RowKit

/-- A Reel at block br that has the bytes l and the place p; all its blocks are of O. -/
def ReelAt (w : World) (br : Nat) (O : Nat → Prop) (l : List UInt8) (p : Nat) : Prop :=
  O br ∧ p ≤ l.length ∧ ∃ A c, Blk w br 75 #[.slice A l.length c, .int .i64 p] ∧ Rd w A l ∧ l.length ≤ c ∧ c ≤ maxLen ∧ ∀ ad, A = some ad → O ad.block ∧ ad.block < w.heap.size

theorem ReelAt.keep {w w' : World} {br p : Nat} {O O' : Nat → Prop} {l : List UInt8} (h : ReelAt w br O l p) (hk : Keep O' w w') (hn : ∀ k, O k → ¬ O' k) : ReelAt w' br O l p := by
  obtain ⟨h1, h2, A, c, hb, hr, hc, hm, hA⟩ := h
  exact ⟨h1, h2, A, c, hb.keep hk (hn _ h1), hr.keep hk (fun ad e _ => hn _ (hA ad e).1), hc, hm, fun ad e => ⟨(hA ad e).1, Nat.lt_of_lt_of_le (hA ad e).2 hk.size⟩⟩
theorem ReelAt.mono {w : World} {br p : Nat} {O O' : Nat → Prop} {l : List UInt8} (h : ReelAt w br O l p) (hO : ∀ k, O k → k < w.heap.size → O' k) : ReelAt w br O' l p := by
  obtain ⟨h1, h2, A, c, hb, hr, hc, hm, hA⟩ := h
  exact ⟨hO _ h1 hb.lt, h2, A, c, hb, hr, hc, hm, fun ad e => ⟨hO _ (hA ad e).1 (hA ad e).2, (hA ad e).2⟩⟩

/-- What next hands back. -/
def NxR (r : Nat × Nat × Nat) : Ending := .returned (.tuple #[.int .u64 r.1, .int .i64 r.2.1, .int .i64 r.2.2])

theorem drop_cons {l : List UInt8} {p : Nat} (h : p < l.length) : l.drop p = l[p] :: l.drop (p + 1) := List.drop_eq_getElem_cons h

set_option maxRecDepth 100000 in
set_option maxHeartbeats 1000000 in
theorem next_any (w : World) (br : Nat) (O : Nat → Prop) (l : List UInt8) (p : Nat) (h : ReelAt w br O l p) (hlen : l.length ≤ 140737488355328) :
    Calls Tryz.prog 81 #[.pointer (some ⟨br, 0, none⟩)] w fun e w' => e = NxR (nx (l.drop p)) ∧ Keep NoB w w' := by
  obtain ⟨_, hp, A, c, hb, hr, hc, hm, hA⟩ := h
  unfold maxLen at hm
  have hlt := hb.lt
  have q0 := hb.cell 0
  have q1 := hb.cell 1
  simp at q0 q1
  have hA1 : ∀ ad, A = some ad → ad.block ≠ w.heap.size := fun ad e => by have := (hA ad e).2; omega
  have hA2 : ∀ ad, A = some ad → ad.block ≠ w.heap.size + 1 := fun ad e => by have := (hA ad e).2; omega
  have hk0 : Keep NoB w ((w.alloc (.cells #[.int .u64 0] 159)).alloc (.cells #[.int .u64 0] 159)) := ((Keep.refl NoB w).alloc _).alloc _
  have hb0 := hb.keep hk0 id
  have hr0 := hr.keep hk0 (fun _ _ _ => id)
  have hs0 := (Blk.new w 159 #[.int .u64 0]).alloc (.cells #[.int .u64 0] 159)
  have hs1 := Blk.new (w.alloc (.cells #[.int .u64 0] 159)) 159 #[.int .u64 0]
  rw [World.size_alloc] at hs1
  go_enter Tryz.func81, Tryz.ntmps81
  go_wp2_with fail
  refine (look_add _ br w.heap.size 0 p p 1 A l c hb0 hr0 hc hA1 hs0 hlen hm hp (by omega) (by omega)).mono ?_
  rintro e w1 (⟨hsh, rfl, hk1⟩ | ⟨hle, rfl, hsum1, hk1⟩)
  · have hd : l.drop p = [] := List.drop_eq_nil_of_le (by omega)
    go_wp2
    go_ret3
    exact ⟨by rw [hd]; rfl, hk0.trans hk1 (fun _ hf _ => hf.elim)⟩
  · have hpl : p < l.length := by omega
    obtain ⟨b, hbd⟩ : ∃ b, b = l[p] := ⟨_, rfl⟩
    have hdc := drop_cons hpl
    rw [← hbd] at hdc
    have hb256 := b.toNat_lt
    have hsb : Blk w1 w.heap.size 159 #[.int .u64 (b.toNat : Nat)] := by
      have e : acc 0 (List.take (Int.toNat 1) (l.drop p)) = b.toNat := by rw [hdc]; simp [acc]
      rw [e] at hsum1; exact hsum1
    have hne : ¬ br = w.heap.size := by omega
    have hb1 := hb0.keep hk1 hne
    have hr1 := hr0.keep hk1 (fun ad e _ => hA1 ad e)
    have hs2 := hs1.keep hk1 (by omega)
    have hk01 := hk0.trans hk1 (fun k e hk => by omega)
    obtain ⟨m, hm'⟩ : ∃ m, w.heap.size = m := ⟨_, rfl⟩
    rw [hm'] at hsb hs2 hA2 ⊢
    have hmw : w.heap.size ≤ m := by omega
    clear hsum1 hk1 hb0 hr0 hs0 hs1 hk0 hA1 hb hr hA q0 q1 hbd hm'
    have q0 := hb1.cell 0
    have q1 := hb1.cell 1
    have q2 := hsb.cell 0
    simp at q0 q1 q2
    go_wp2_with fail
    refine (told_any b.toNat _ (by omega)).mono ?_
    rintro e w2 ⟨rfl, rfl⟩
    obtain ⟨t1, t9, _⟩ := td_rng b.toNat (by omega)
    go_wp2_with fail
    refine (look_add _ br (m + 1) 0 p p (td b.toNat) A l c hb1 hr1 hc hA2 hs2 hlen hm hp (by omega) (by omega)).mono ?_
    rintro e w2 (⟨hsh, rfl, hk2⟩ | ⟨hle2, rfl, hsum2, hk2⟩)
    · go_wp2
      go_ret3
      refine ⟨?_, (hk01.trans hk2 (fun _ hf _ => hf.elim))⟩
      have hx : nx (l.drop p) = (0, 0, 10) := by
        rw [hdc, nx_cons, if_pos (by rw [List.length_drop]; omega)]
      rw [hx]; rfl
    · have q3 := hsum2.cell 0
      simp at q3
      have hkk := hk01.trans hk2 (O := NoB) (fun k e hk => by omega)
      go_wp2_with fail
      have hmk := mk_lt (td b.toNat)
      have hq := fun (n : Nat) => Calls.quiet_of_same ((mark_any (td b.toNat) (w2.drewN n) t1 t9).mono fun e w' h => (⟨h.1, h.2.symm⟩ : e = .returned (.int .u8 (mk (td b.toNat))) ∧ w' = w2.drewN n))
      obtain ⟨t, ht⟩ : ∃ t, td b.toNat = t := ⟨_, rfl⟩
      rw [ht] at t1 t9 hmk hq hsum2 q3 hle2 ⊢
      have HT := Lib.hid ht
      clear ht
      have htl : t ≤ (l.drop (p + 1)).length + 1 := by rw [List.length_drop]; omega
      have HF := Lib.hid (nx_form b (l.drop (p + 1)) t HT.out htl)
      have e1 : IntKind.i64.wrap ((t : Int) - 1) = (t : Int) - 1 := IntWalk.i64_in _ (by omega)
      have e2 : IntKind.i64.wrap (8 * ((t : Int) - 1)) = 8 * ((t : Int) - 1) := IntWalk.i64_in _ (by omega)
      have e3 : (0 : Int) ≤ 8 * ((t : Int) - 1) := by omega
      have e4 : (8 * ((t : Int) - 1)).toNat = 8 * (t - 1) := by omega
      have e5 : IntKind.u64.wrap ((mk t : Nat) : Int) = ((mk t : Nat) : Int) := by rw [IntKind.wrap_u64]; omega
      go_quiet ((go_at_call 76; exact hq _))
      clear e1 e2 e3 e4 e5 hq
      rw [HF.out]
      generalize hD : dc t ((b :: l.drop (p + 1)).take t) = D at *
      have HD := Lib.hid hD
      clear hD
      have hnx : Hid (nx (l.drop p) = if wd D < t then (0, 0, 11) else (D, t, 0)) := by
        show nx (l.drop p) = _
        rw [hdc, nx_cons, HT.out, HD.out, if_neg (by omega)]
      go_wp2_with fail
      refine (width_any D _).mono ?_
      rintro e w3 ⟨rfl, rfl⟩
      by_cases hwd : wd D < t
      · go_wp2
        go_ret3
        exact ⟨by rw [hnx.out, if_pos hwd]; rfl, hkk.drewN _⟩
      · go_wp2
        go_ret3
        exact ⟨by rw [hnx.out, if_neg hwd]; rfl, hkk.drewN _⟩

end Go.Proofs.YtonpplpfipfnfaaGreatDoor.V
