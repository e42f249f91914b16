/-
  A region that draws its order and has a neck: an operation that waits for all ahead of it, and for which all behind it wait. What lies ahead is walked in an order of one's own choice (KMix); then the neck comes up alone, and may write what was made. No program, no conditions.
  Which types shapes and signatures may have: what held and all answer, and the document's held. Conditions: the list lies in memory.
  Which shapes and signatures may be: what Check, CheckSignature, Cell and Same answer, the program's and the document's; what the laws' Great and Copy answer. Conditions: the lists lie in memory.
  What pack answers: types' bytes. Conditions: the list lies in memory, holds types, no more than 64.
  What the document's Types answers: types' bytes. Conditions: the list lies in memory, holds types, no more than 64.
  What Encode and EncodeSignature answer, the program's and the document's: their bytes, if they may be. Conditions: the lists lie in memory.
  A range over a function that is never left ahead of its end, whose iterator brings things of which something is known in the world in which each comes (En). No program, no conditions.
-/
import Derived.LoopIn
import Derived.LoopNIn
import Derived.OwnWalkIn
import Derived.RangeFuncBound
import Derived.RangeFuncCalls
import Derived.RangeFuncLeaves
import Derived.RangeFuncNested
import Derived.Shelf.Abstract
import Derived.Shelf.RegionOpen
import Derived.StillTail
import Derived.StillTailTactics
import Derived.TacticsInMore
import Derived.WalkKit
import Derived.Test.YtgifflfjhockaaaGreatDoorQ4
import Derived.Test.YtgifflfjhockaaaGreatDoorQ5
import Derived.Test.YtgifflfjhockaaaGreatDoorQ3
import Derived.Test.YtgifflfjhockaaaGreatDoorQ2
namespace Go.Proofs.YtgifflfjhockaaaGreatDoor
open Go.RowKit

section
variable {P : Program} {ops : Array Oper} {md : Region.Mode}

/-- Behind number n each waits for one behind, or for it. -/
def chain2 (md : Region.Mode) (ops : Array Oper) (n : Nat) : Bool := (List.range ops.size).all fun t => decide (t ≤ n) || (List.range t).any fun j => decide (n ≤ j) && Region.waitsFor md ops t j

theorem head_only {n : Nat} {listed : Array Bool} (hs : Region.sinkB md ops n = true) (hc : chain2 md ops n = true) (inv : HeadInv md ops n listed) :
    ∀ (d i : Nat), n - i = d → i < n → listed.getD i true = false → ∀ t, t ∈ Region.ready md ops listed → t < n := by
  intro d
  induction d using Nat.strongRecOn with
  | _ d ih =>
    intro i hd hi hu t ht
    obtain ⟨htu, ot, hot, hall⟩ := mem_ready.1 ht
    have hts : t < ops.size := (Array.getElem?_eq_some_iff.1 hot).1
    rcases Nat.lt_trichotomy t n with h | h | h
    · exact h
    · subst h
      have h1 := List.all_eq_true.1 hs i (List.mem_range.2 hi)
      obtain ⟨j, hj, hjb⟩ := List.any_eq_true.1 h1
      simp only [Bool.and_eq_true, decide_eq_true_eq] at hjb
      have hjn : j ≤ t := by have := List.mem_range.1 hj; omega
      obtain ⟨oj, hoj, e, he, heb, heo⟩ := Region.waitsFor_spec hjb.2
      by_cases hjt : j = t
      · subst hjt
        obtain rfl : oj = ot := Option.some.inj (hoj.symm.trans hot)
        have := hall e he heb
        rw [heo, getD_both hu] at this; cases this
      · refine ih (t - j) (by omega) j rfl (by omega) (getD_in (by rw [inv.size]; omega) ?_) t ht
        cases hl : listed.getD j false
        · rfl
        · have := inv.closed j oj hoj hl e he heb
          rw [heo, getD_both hu] at this; cases this
    · have h1 := List.all_eq_true.1 hc t (List.mem_range.2 hts)
      simp only [Bool.or_eq_true, decide_eq_true_eq] at h1
      rcases h1 with h1 | h1
      · omega
      · obtain ⟨j, hj, hjb⟩ := List.any_eq_true.1 h1
        simp only [Bool.and_eq_true, decide_eq_true_eq] at hjb
        obtain ⟨oj, hoj, e, he, heb, heo⟩ := Region.waitsFor_spec hjb.2
        obtain rfl : oj = ot := Option.some.inj (hoj.symm.trans hot)
        have h2 := hall e he heb
        have := List.mem_range.1 hj
        rw [heo, getD_both (inv.tail j hjb.1 (by omega))] at h2; cases h2

/-- Whatever order is picked, up to the neck. -/
def wpAnyC (P : Program) (md : Region.Mode) (ops : Array Oper) (n : Nat) (L : Array Bool → Kont) : Nat → Array Bool → Act → (World → Prop) → Prop
  | 0, listed, a, I => L listed a I
  | fuel + 1, listed, a, I => Region.ready md ops listed ≠ [] ∧ ∀ i ∈ Region.ready md ops listed, i < n ∧ mOp P ops true i (wpAnyC P md ops n L fuel (listed.setIfInBounds i true)) a I

theorem wpAny_of_C {n g : Nat} {L : Array Bool → Kont} {Q' : Exit → Act → World → Prop} (hL : ∀ listed a I w, I w → L listed a I → wpAny P md ops Q' g listed a w) :
    ∀ (f : Nat) (listed : Array Bool) (a : Act) (I : World → Prop) (w : World), StableI I → I w → wpAnyC P md ops n L f listed a I → wpAny P md ops Q' (f + g) listed a w
  | 0, listed, a, I, w, _, hw, h => by rw [Nat.zero_add]; exact hL _ _ _ _ hw h
  | f + 1, listed, a, I, w, hI, hw, h => by
    rw [show f + 1 + g = (f + g) + 1 by omega]
    exact ⟨fun h0 => absurd h0 h.1, fun i hi => wpOp_of_mOp hI hw (fun a' I' w' hI' hw' hk => wpAny_of_C hL f _ a' I' w' hI' hw' hk) (h.2 i hi).2⟩

theorem wpAnyC_first {n0 : Nat} {L : Array Bool → Kont} (hs : Region.sinkB md ops n0 = true) (hc : chain2 md ops n0 = true) (hL : ∀ listed a I, L listed a I → ∀ j ∈ Region.ready md ops listed, n0 ≤ j) {i : Nat} (hin : i < n0) {oi : Oper} {v : Value} (hi : ops[i]? = some oi) (hsel : ∀ (j : Nat) (o : Oper) cs b, ops[j]? = some o → o.op ≠ .select cs b) :
    ∀ (fuel : Nat) (listed : Array Bool) (a : Act) (I : World → Prop), HeadInv md ops n0 listed →
      (∀ j oj, ops[j]? = some oj → j ≠ i → listed.getD j true = false → (∀ e ∈ oj.after, Region.binds md e = true → e.on ≠ i) → oi.apart ops oj = true) →
      i ∈ Region.ready md ops listed → YM P ops oi v a I →
      wpAnyC P md ops n0 L fuel (listed.setIfInBounds i true) (a.put oi.dst v) I → wpAnyC P md ops n0 L (fuel + 1) listed a I := by
  intro fuel
  induction fuel with
  | zero =>
    intro listed a I inv _ hr hy H
    refine ⟨fun h => (by rw [h] at hr; cases hr), fun j hj => ⟨head_only hs hc inv _ i rfl hin (mem_ready.1 hr).1 j hj, ?_⟩⟩
    have hjn := head_only hs hc inv _ i rfl hin (mem_ready.1 hr).1 j hj
    by_cases hji : j = i
    · subst hji; exact hy.mOp hi H
    · have := hL _ _ _ H j (ready_mono hj hji)
      omega
  | succ fuel ih =>
    intro listed a I inv hfree hr hy H
    refine ⟨fun h => (by rw [h] at hr; cases hr), fun j hj => ⟨head_only hs hc inv _ i rfl hin (mem_ready.1 hr).1 j hj, ?_⟩⟩
    have hjn := head_only hs hc inv _ i rfl hin (mem_ready.1 hr).1 j hj
    by_cases hji : j = i
    · subst hji; exact hy.mOp hi H
    · have h1 := (H.2 j (ready_mono hj hji)).2
      obtain ⟨hjun, oj, hoj, hall⟩ := mem_ready.1 hj
      have h2 := mOp_put hoj (hfree j oj hoj hji hjun (not_waits hr hall)) (fun cs b => hsel i oi cs b hi) (fun cs b => hsel j oj cs b hoj) hy h1
      have hfree' : ∀ k ok, ops[k]? = some ok → k ≠ i → (listed.setIfInBounds j true).getD k true = false →
          (∀ e ∈ ok.after, Region.binds md e = true → e.on ≠ i) → oi.apart ops ok = true := fun k ok hk hki hun hno => by
        refine hfree k ok hk hki ?_ hno
        by_cases hjk : j = k
        · subst hjk; exact hjun
        · rw [getD_set_ne true hjk] at hun; exact hun
      refine mOp_mono id (fun a' I' h3 => ih (listed.setIfInBounds j true) a' I' (inv.set hj hjn) hfree' (ready_mono hr (Ne.symm hji)) h3.1 ?_) h2
      rw [Array.setIfInBounds_comm _ _ hji]
      exact h3.2

/-- An operation that makes a block may be taken first, if nothing else but such may come up ahead of it. -/
theorem wpAnyC_make {n0 : Nat} {L : Array Bool → Kont} (hs : Region.sinkB md ops n0 = true) (hc : chain2 md ops n0 = true) (hL : ∀ listed a I, L listed a I → ∀ j ∈ Region.ready md ops listed, n0 ≤ j) {i : Nat} (hin : i < n0) {oi : Oper} (hi : ops[i]? = some oi) (hm : isMake oi = true) (hsel : ∀ (j : Nat) (o : Oper) cs b, ops[j]? = some o → o.op ≠ .select cs b) {mk : Nat → Value} {obj : Obj} :
    ∀ (fuel n : Nat) (listed : Array Bool) (a : Act) (I : World → Prop), HeadInv md ops n0 listed →
      (∀ j oj, ops[j]? = some oj → j ≠ i → listed.getD j true = false → (∀ e ∈ oj.after, Region.binds md e = true → e.on ≠ i) → oi.apart ops oj = true) →
      onlyMakes md ops i n listed = true → i ∈ Region.ready md ops listed → Region.wanted oi (yielded ops a.tmps) = true → Make1 P oi a mk obj →
      (∀ g, wpAnyC P md ops n0 L fuel (listed.setIfInBounds i true) (a.put oi.dst (mk g)) fun w => I w ∧ w.heap[g]? = some obj) → wpAnyC P md ops n0 L (fuel + 1) listed a I := by
  intro fuel
  have own : ∀ (fuel : Nat) (listed : Array Bool) (a : Act) (I : World → Prop), Region.wanted oi (yielded ops a.tmps) = true → Make1 P oi a mk obj →
      (∀ g, wpAnyC P md ops n0 L fuel (listed.setIfInBounds i true) (a.put oi.dst (mk g)) fun w => I w ∧ w.heap[g]? = some obj) → mOp P ops true i (wpAnyC P md ops n0 L fuel (listed.setIfInBounds i true)) a I := by
    intro fuel listed a I hw hk H
    unfold mOp
    simp only [hi, hw, if_true, hm]
    exact ⟨mk, obj, hk, H⟩
  induction fuel with
  | zero =>
    intro n listed a I inv _ _ hr hw hk H
    refine ⟨fun h => (by rw [h] at hr; cases hr), fun j hj => ⟨head_only hs hc inv _ i rfl hin (mem_ready.1 hr).1 j hj, ?_⟩⟩
    have hjn := head_only hs hc inv _ i rfl hin (mem_ready.1 hr).1 j hj
    by_cases hji : j = i
    · subst hji; exact own _ _ _ _ hw hk H
    · have := hL _ _ _ (H 0) j (ready_mono hj hji)
      omega
  | succ fuel ih =>
    intro n listed a I inv hfree hom hr hw hk H
    refine ⟨fun h => (by rw [h] at hr; cases hr), fun j hj => ⟨head_only hs hc inv _ i rfl hin (mem_ready.1 hr).1 j hj, ?_⟩⟩
    have hjn := head_only hs hc inv _ i rfl hin (mem_ready.1 hr).1 j hj
    by_cases hji : j = i
    · subst hji; exact own _ _ _ _ hw hk H
    · obtain ⟨m, rfl⟩ : ∃ m, n = m + 1 := by
        cases n with
        | zero => cases hom
        | succ m => exact ⟨m, rfl⟩
      have hom' := List.all_eq_true.1 hom j hj
      obtain ⟨hjun, oj, hoj, hall⟩ := mem_ready.1 hj
      simp only [beq_iff_eq, hji, Bool.or_eq_true, false_or, hoj, Option.map_some, Option.getD_some, Bool.and_eq_true] at hom'
      obtain ⟨hmj, hom2⟩ := hom'
      have hap := hfree j oj hoj hji hjun (not_waits hr hall)
      obtain ⟨h1, h2, h3⟩ := Oper.apart_spec hap
      have hsi := fun cs b => hsel i oi cs b hi
      have hsj := fun cs b => hsel j oj cs b hoj
      have hfree' : ∀ k ok, ops[k]? = some ok → k ≠ i → (listed.setIfInBounds j true).getD k true = false →
          (∀ e ∈ ok.after, Region.binds md e = true → e.on ≠ i) → oi.apart ops ok = true := fun k ok hk hki hun hno => by
        refine hfree k ok hk hki ?_ hno
        by_cases hjk : j = k
        · subst hjk; exact hjun
        · rw [getD_set_ne true hjk] at hun; exact hun
      have on : ∀ (u : Value) (I' : World → Prop), (∀ g, wpAnyC P md ops n0 L fuel ((listed.setIfInBounds i true).setIfInBounds j true) ((a.put oi.dst (mk g)).put oj.dst u) fun w => I' w ∧ w.heap[g]? = some obj) →
          wpAnyC P md ops n0 L (fuel + 1) (listed.setIfInBounds j true) (a.put oj.dst u) I' := fun u I' hK => by
        refine ih m (listed.setIfInBounds j true) (a.put oj.dst u) I' (inv.set hj hjn) hfree' hom2 (ready_mono hr (Ne.symm hji)) ?_ ?_ fun g => ?_
        · rw [wanted_put oi a oj.dst u h3]; exact hw
        · unfold Make1 at *; rw [execOp_put oi hsi a oj.dst u h3]; exact hk
        · rw [Array.setIfInBounds_comm _ _ hji, ← Act.put_comm a (mk g) u h2]; exact hK g
      have H1 : ∀ g, mOp P ops true j (wpAnyC P md ops n0 L fuel ((listed.setIfInBounds i true).setIfInBounds j true)) (a.put oi.dst (mk g)) fun w => I w ∧ w.heap[g]? = some obj := fun g => ((H g).2 j (ready_mono hj hji)).2
      unfold mOp at H1 ⊢
      simp only [hoj, hmj, if_true] at H1 ⊢
      split
      · rename_i hwj
        have H2 : ∀ g, ∃ mk' obj', Make1 P oj (a.put oi.dst (mk g)) mk' obj' ∧ ∀ g', wpAnyC P md ops n0 L fuel ((listed.setIfInBounds i true).setIfInBounds j true) ((a.put oi.dst (mk g)).put oj.dst (mk' g')) fun w => (I w ∧ w.heap[g]? = some obj) ∧ w.heap[g']? = some obj' := fun g => by
          have := H1 g
          rwa [wanted_put oj a oi.dst (mk g) h1, if_pos hwj] at this
        have hmk : ∀ g mk' obj', Make1 P oj (a.put oi.dst (mk g)) mk' obj' → Make1 P oj a mk' obj' := fun g mk' obj' h => by
          unfold Make1 at *; rwa [execOp_put oj hsj a oi.dst (mk g) h1] at h
        obtain ⟨mkj, objj, k1, _⟩ := H2 0
        refine ⟨mkj, objj, hmk _ _ _ k1, fun g' => on _ _ fun g => ?_⟩
        obtain ⟨mk', obj', k1', k2⟩ := H2 g
        obtain ⟨rfl, rfl⟩ := make_same (hmk _ _ _ k1) (hmk _ _ _ k1')
        have e : (fun w : World => (I w ∧ w.heap[g']? = some obj') ∧ w.heap[g]? = some obj) = fun w => (I w ∧ w.heap[g]? = some obj) ∧ w.heap[g']? = some obj' := funext fun w => propext (and_right_comm)
        rw [e]
        exact k2 g'
      · rename_i hwj
        refine on _ _ fun g => ?_
        have := H1 g
        rwa [wanted_put oj a oi.dst (mk g) h1, if_neg hwj] at this

/-- The order may be chosen, and comes to the neck. -/
def orderC (md : Region.Mode) (ops : Array Oper) (n : Nat) (fin : Array Bool) : List (Nat × Bool) → Array Bool → Bool
  | [], listed => listed == fin && (Region.ready md ops listed).all fun j => decide (n ≤ j)
  | (i, gen) :: rest, listed => decide (i < n) && (Region.ready md ops listed).contains i && (if gen then Region.ready md ops listed == [i] else Region.free md ops listed i && (!((ops[i]?).map isMake).getD false || onlyMakes md ops i ops.size listed)) && orderC md ops n fin rest (listed.setIfInBounds i true)

/-- Where the neck stands. -/
def NeckL (md : Region.Mode) (ops : Array Oper) (n : Nat) (fin : Array Bool) (Q : Act → World → Prop) (listed : Array Bool) (a : Act) (I : World → Prop) : Prop :=
  (listed = fin ∧ ∀ j ∈ Region.ready md ops listed, n ≤ j) ∧ ∀ w, I w → Q a w

theorem wpAnyC_order {n : Nat} {fin : Array Bool} {Q : Act → World → Prop} (hsel : Region.noSelect ops = true) (hs : Region.sinkB md ops n = true) (hc : chain2 md ops n = true) : ∀ (l : List (Nat × Bool)) (listed : Array Bool) (a : Act) (I : World → Prop),
    HeadInv md ops n listed → orderC md ops n fin l listed = true → wpM P ops Q l a I → wpAnyC P md ops n (NeckL md ops n fin Q) l.length listed a I
  | [], _, _, _, _, hB, h => by
    simp only [orderC, Bool.and_eq_true, beq_iff_eq] at hB
    exact ⟨⟨hB.1, fun j hj => by simpa using List.all_eq_true.1 hB.2 j hj⟩, h⟩
  | (i, gen) :: rest, listed, a, I, inv, hB, h => by
    simp only [orderC, Bool.and_eq_true, decide_eq_true_eq] at hB
    obtain ⟨⟨⟨hin, hr⟩, hcc⟩, hB'⟩ := hB
    have hr : i ∈ Region.ready md ops listed := by simpa using hr
    obtain ⟨hun, oi, hi, _⟩ := mem_ready.1 hr
    have go := fun a' I' hK => wpAnyC_order (Q := Q) hsel hs hc rest (listed.setIfInBounds i true) a' I' (inv.set hr hin) hB' hK
    have hLL : ∀ listed a I, NeckL md ops n fin Q listed a I → ∀ j ∈ Region.ready md ops listed, n ≤ j := fun _ _ _ h => h.1.2
    cases gen with
    | true =>
      simp only [if_true, beq_iff_eq] at hcc
      refine ⟨fun h => (by rw [h] at hr; cases hr), fun j hj => ⟨head_only hs hc inv _ i rfl hin hun j hj, ?_⟩⟩
      rw [hcc] at hj
      obtain rfl := List.mem_singleton.1 hj
      exact mOp_mono id go h
    | false =>
      simp only [Bool.false_eq_true, if_false, Bool.and_eq_true, hi, Option.map_some, Option.getD_some, Bool.or_eq_true, Bool.not_eq_true'] at hcc
      obtain ⟨hf, hmk⟩ := hcc
      have hfree := Region.free_spec (md := md) hi hf
      change mOp P ops false i (wpM P ops Q rest) a I at h
      unfold mOp at h
      simp only [hi] at h
      split at h
      · rename_i hw
        split at h
        · rename_i hm
          obtain ⟨mk, obj, k1, k2⟩ := h
          rcases hmk with hmk | hmk
          · rw [hm] at hmk; cases hmk
          · exact wpAnyC_make hs hc hLL hin hi hm (Region.noSelect_spec hsel) rest.length ops.size listed a I inv hfree hmk hr hw k1 fun g => go _ _ (k2 g)
        · rename_i hm
          rcases h with ⟨v, k1, k2⟩ | ⟨hg, _⟩
          · exact wpAnyC_first hs hc hLL hin hi (Region.noSelect_spec hsel) rest.length listed a I inv hfree hr (.inl ⟨hw, by simpa using hm, k1⟩) (go _ _ k2)
          · cases hg
      · rename_i hw
        exact wpAnyC_first hs hc hLL hin hi (Region.noSelect_spec hsel) rest.length listed a I inv hfree hr (.inr ⟨by simpa using hw, rfl⟩) (go _ _ h)

def neckB (ops : Array Oper) (n : Nat) (fin : Array Bool) (l : List (Nat × Bool)) : Bool :=
  Region.noSelect ops && Region.sinkB .any ops n && chain2 .any ops n && decide (l.length = n) && decide (n < ops.size) && orderC .any ops n fin l (Array.replicate ops.size false)

/-- A region with a neck: what lies ahead, in an order of one's own choice; then whatever order there is from the neck on. -/
theorem wp_region_neck {id : Nat} {Q : Exit → Act → World → Prop} {a : Act} {w : World} (n : Nat) (fin : Array Bool) (l : List (Nat × Bool)) (I : World → Prop) (hm : P.follows .mixedOrders = true) (hB : neckB ops n fin l = true) (hI : StableI I) (hw : I w.drew)
    (h : Shut (wpM P ops (fun a' w' => wpAny P .any ops Q (ops.size - n) fin a' w') l a I)) : (Code.region id ops true).wp P Q a w := by
  simp only [neckB, Bool.and_eq_true, decide_eq_true_eq] at hB
  obtain ⟨⟨⟨⟨⟨hsel, hs⟩, hc⟩, hl⟩, hn⟩, ho⟩ := hB
  have inv0 : HeadInv .any ops n (Array.replicate ops.size false) :=
    ⟨by simp, fun j oj _ hl => (by rw [getD_replicate_false] at hl; cases hl), fun t _ ht => getD_in (by simpa using ht) (getD_replicate_false _ _)⟩
  have H := wpAnyC_order (P := P) (md := .any) hsel hs hc l _ a I inv0 ho h.out
  refine wp_region_any hm ?_
  have := wpAny_of_C (Q' := Q) (g := ops.size - n) (fun listed a' I' w' hw' hL => by
    obtain ⟨⟨e, _⟩, h2⟩ := hL
    rw [e]; exact h2 _ hw') _ _ _ _ _ hI hw H
  rw [hl, show n + (ops.size - n) = ops.size by omega] at this
  exact this

/-- The neck comes up alone. -/
theorem wpAny_neck {Q : Exit → Act → World → Prop} {f i : Nat} {listed : Array Bool} {a : Act} {w : World} {l tl : List Oper} {o : Oper} (hr : Region.ready md l.toArray listed = [i]) (ho : l.drop i = o :: tl) (hw : Region.wanted o (yielded l.toArray a.tmps) = true)
    (h : o.wp P a w (fun a' w' => wpAny P md l.toArray Q f (listed.setIfInBounds i true) a' w') Q) : wpAny P md l.toArray Q (f + 1) listed a w := by
  have ho := at_drop ho
  refine ⟨fun h0 => (by rw [hr] at h0; cases h0), fun j hj => ?_⟩
  rw [hr] at hj
  obtain rfl := List.mem_singleton.1 hj
  unfold wpOp
  simp only [ho, hw, if_true]
  exact .inl h
/-- What lies behind, in an order of one's own choice. -/
theorem wpAny_behind {Q : Exit → Act → World → Prop} {f : Nat} {listed : Array Bool} {a : Act} {w : World} (l : List (Nat × Bool)) (I : World → Prop) (hs : Region.noSelect ops = true) (hl : l.length = f) (hB : orderM md ops l listed = true) (hI : StableI I) (hw : I w)
    (h : Shut (wpM P ops (Q .normal) l a I)) : wpAny P md ops Q f listed a w := by
  have := wpAny_of_M (Q := Q .normal) (fun _ _ h => h) _ _ _ I _ hI hw (wpAnyM_order hs l _ a I hB h.out)
  rwa [hl] at this

end
end Go.Proofs.YtgifflfjhockaaaGreatDoor

namespace Go.Proofs.YtgifflfjhockaaaGreatDoor.S
open Go.RowKit W

theorem all_no {l : List Int} {p : Int → Bool} {k : Nat} (hk : k < l.length) (h : p l[k] = false) : l.all p = false :=
  List.all_eq_false.2 ⟨_, List.getElem_mem hk, by rw [h]; decide⟩
theorem all_step {l : List Int} {p : Int → Bool} {k : Nat} (hk : k < l.length) (h : (l.take k).all p = true) (h2 : p l[k] = true) : (l.take (k + 1)).all p = true := by
  rw [List.take_succ_eq_append_getElem hk, List.all_append, h]
  simp [h2]
theorem knownF_any (t : Int) (w : World) : Calls Tryz.prog 156 #[.int .i64 t] w fun e w' => e = .returned (.bool (knownB t)) ∧ Keep NoB w w' :=
  (known_any t w).mono fun _ _ ⟨he, hw⟩ => ⟨he, by rw [← hw]; exact Keep.refl _ _⟩
set_option maxHeartbeats 1000000 in
theorem heldF_any (t : Int) (w : World) : Calls Tryz.prog 112 #[.int .i64 t] w fun e w' => e = .returned (.bool (heldB t)) ∧ Keep NoB w w' := by
  have HK := Lib.hid (fun w => known_any t w)
  cases hk : knownB t
  · rw [hk] at HK
    have hR : heldB t = false := by rw [known_not] at hk; rw [held_not]; omega
    rw [hR]
    clear hk hR
    go_enter Tryz.func112, Tryz.ntmps112
    go_wp2_with (go_at_call 156; refine (HK.out _).mono ?_; rintro e w1 ⟨rfl, rfl⟩)
    go_ret
    exact ⟨rfl, Keep.refl _ _⟩
  · rw [hk] at HK
    by_cases h4 : t = 4
    · subst h4
      have hR : heldB 4 = false := by decide
      rw [hR]
      clear hk hR
      go_enter Tryz.func112, Tryz.ntmps112
      go_wp2_with (go_at_call 156; refine (HK.out _).mono ?_; rintro e w1 ⟨rfl, rfl⟩)
      go_ret
      exact ⟨rfl, Keep.refl _ _⟩
    · have hR : heldB t = true := by rw [known_iff] at hk; rw [held_iff]; omega
      have hq : (t != 4) = true := by rw [bne_iff_ne]; exact h4
      rw [hR]
      clear hk hR h4
      go_enter Tryz.func112, Tryz.ntmps112
      go_wp2_with (go_at_call 156; refine (HK.out _).mono ?_; rintro e w1 ⟨rfl, rfl⟩)
      go_ret
      exact ⟨rfl, Keep.refl _ _⟩

set_option maxRecDepth 100000 in
set_option maxHeartbeats 2000000 in
theorem allS_any (A : Option Addr) (l : List Int) (n c : Nat) (w : World) (hr : Rd w A (ivs l)) (hn : Hid (l.length = n)) (hm : n ≤ 9223372036854775807) (R : Bool) (hR : Hid (R = l.all heldB)) :
    Calls Tryz.prog 111 #[.slice A n c, .func (.func 112) #[] #[]] w fun e w' => e = .returned (.bool R) ∧ Keep NoB w w' := by
  go_enter Tryz.func111, Tryz.ntmps111
  go_wp2
  go_loopw [9] (fun i wr => ∃ k : Nat, k ≤ n ∧ i = .int .i64 k ∧ Hid ((l.take k).all heldB = true) ∧ Keep NoB w wr) (fun i _ => n - (intOf i).toNat)
  case atStart => exact ⟨0, Nat.zero_le _, rfl, rfl, Keep.refl _ _⟩
  case round =>
    obtain ⟨k, hk, rfl, ht, hK⟩ := hrel
    by_cases hlt : k < n
    · have hka : k < l.length := by rw [hn.out]; exact hlt
      obtain ⟨ga, oa, rfl, hca⟩ := rdI_at hr (by omega)
      have ca := hK.cell (hca k hka) id
      have HT := Lib.hid (fun h => all_step (p := heldB) hka ht.out h)
      have HN := Lib.hid (fun h => all_no (p := heldB) hka h)
      clear hca hr ht
      generalize l[k] = x at ca HT HN
      have HC := Lib.hid (fun w => heldF_any x w)
      cases hx : heldB x
      · rw [hx] at HC
        obtain rfl : R = false := by rw [hR.out]; exact HN.out hx
        clear hx HT HN hR
        go_wp2_with (go_at_call 112; refine (HC.out _).mono ?_; rintro e w3 ⟨rfl, k3⟩)
        go_ret
        exact ⟨rfl, keepN hK k3⟩
      · rw [hx] at HC
        have HV := Lib.hid (HT.out hx)
        clear hx HT HN hR
        go_wp2_with (go_at_call 112; refine (HC.out _).mono ?_; rintro e w3 ⟨rfl, k3⟩)
        go_roundw
        case rel => exact ⟨k + 1, by omega, by go_num, HV, keepN hK k3⟩
        case measure => simp [intOf]; omega
    · obtain rfl : R = true := by
        rw [hR.out]
        have e1 := ht.out
        rwa [List.take_of_length_le (by rw [hn.out]; omega)] at e1
      clear hR
      go_wp2
      go_ret
      exact ⟨rfl, hK⟩

set_option maxRecDepth 100000 in
set_option maxHeartbeats 2000000 in
theorem allK_any (A : Option Addr) (l : List Int) (n c : Nat) (w : World) (hr : Rd w A (ivs l)) (hn : Hid (l.length = n)) (hm : n ≤ 9223372036854775807) (R : Bool) (hR : Hid (R = l.all knownB)) :
    Calls Tryz.prog 165 #[.slice A n c, .func (.func 156) #[] #[]] w fun e w' => e = .returned (.bool R) ∧ Keep NoB w w' := by
  go_enter Tryz.func165, Tryz.ntmps165
  go_wp2
  go_loopw [9] (fun i wr => ∃ k : Nat, k ≤ n ∧ i = .int .i64 k ∧ Hid ((l.take k).all knownB = true) ∧ Keep NoB w wr) (fun i _ => n - (intOf i).toNat)
  case atStart => exact ⟨0, Nat.zero_le _, rfl, rfl, Keep.refl _ _⟩
  case round =>
    obtain ⟨k, hk, rfl, ht, hK⟩ := hrel
    by_cases hlt : k < n
    · have hka : k < l.length := by rw [hn.out]; exact hlt
      obtain ⟨ga, oa, rfl, hca⟩ := rdI_at hr (by omega)
      have ca := hK.cell (hca k hka) id
      have HT := Lib.hid (fun h => all_step (p := knownB) hka ht.out h)
      have HN := Lib.hid (fun h => all_no (p := knownB) hka h)
      clear hca hr ht
      generalize l[k] = x at ca HT HN
      have HC := Lib.hid (fun w => knownF_any x w)
      cases hx : knownB x
      · rw [hx] at HC
        obtain rfl : R = false := by rw [hR.out]; exact HN.out hx
        clear hx HT HN hR
        go_wp2_with (go_at_call 156; refine (HC.out _).mono ?_; rintro e w3 ⟨rfl, k3⟩)
        go_ret
        exact ⟨rfl, keepN hK k3⟩
      · rw [hx] at HC
        have HV := Lib.hid (HT.out hx)
        clear hx HT HN hR
        go_wp2_with (go_at_call 156; refine (HC.out _).mono ?_; rintro e w3 ⟨rfl, k3⟩)
        go_roundw
        case rel => exact ⟨k + 1, by omega, by go_num, HV, keepN hK k3⟩
        case measure => simp [intOf]; omega
    · obtain rfl : R = true := by
        rw [hR.out]
        have e1 := ht.out
        rwa [List.take_of_length_le (by rw [hn.out]; omega)] at e1
      clear hR
      go_wp2
      go_ret
      exact ⟨rfl, hK⟩

set_option maxRecDepth 100000 in
set_option maxHeartbeats 2000000 in
theorem allH_any (A : Option Addr) (l : List Int) (n c : Nat) (w : World) (hr : Rd w A (ivs l)) (hn : Hid (l.length = n)) (hm : n ≤ 9223372036854775807) (R : Bool) (hR : Hid (R = l.all heldB)) :
    Calls Tryz.prog 165 #[.slice A n c, .func (.func 112) #[] #[]] w fun e w' => e = .returned (.bool R) ∧ Keep NoB w w' := by
  go_enter Tryz.func165, Tryz.ntmps165
  go_wp2
  go_loopw [9] (fun i wr => ∃ k : Nat, k ≤ n ∧ i = .int .i64 k ∧ Hid ((l.take k).all heldB = true) ∧ Keep NoB w wr) (fun i _ => n - (intOf i).toNat)
  case atStart => exact ⟨0, Nat.zero_le _, rfl, rfl, Keep.refl _ _⟩
  case round =>
    obtain ⟨k, hk, rfl, ht, hK⟩ := hrel
    by_cases hlt : k < n
    · have hka : k < l.length := by rw [hn.out]; exact hlt
      obtain ⟨ga, oa, rfl, hca⟩ := rdI_at hr (by omega)
      have ca := hK.cell (hca k hka) id
      have HT := Lib.hid (fun h => all_step (p := heldB) hka ht.out h)
      have HN := Lib.hid (fun h => all_no (p := heldB) hka h)
      clear hca hr ht
      generalize l[k] = x at ca HT HN
      have HC := Lib.hid (fun w => heldF_any x w)
      cases hx : heldB x
      · rw [hx] at HC
        obtain rfl : R = false := by rw [hR.out]; exact HN.out hx
        clear hx HT HN hR
        go_wp2_with (go_at_call 112; refine (HC.out _).mono ?_; rintro e w3 ⟨rfl, k3⟩)
        go_ret
        exact ⟨rfl, keepN hK k3⟩
      · rw [hx] at HC
        have HV := Lib.hid (HT.out hx)
        clear hx HT HN hR
        go_wp2_with (go_at_call 112; refine (HC.out _).mono ?_; rintro e w3 ⟨rfl, k3⟩)
        go_roundw
        case rel => exact ⟨k + 1, by omega, by go_num, HV, keepN hK k3⟩
        case measure => simp [intOf]; omega
    · obtain rfl : R = true := by
        rw [hR.out]
        have e1 := ht.out
        rwa [List.take_of_length_le (by rw [hn.out]; omega)] at e1
      clear hR
      go_wp2
      go_ret
      exact ⟨rfl, hK⟩

set_option maxRecDepth 100000 in
set_option maxHeartbeats 2000000 in
theorem rheld_any (A : Option Addr) (l : List Int) (n c : Nat) (w : World) (hr : Rd w A (ivs l)) (hn : Hid (l.length = n)) (hm : n ≤ 9223372036854775807) (R : Bool) (hR : Hid (R = l.all heldB)) :
    Calls Tryz.prog 98 #[.slice A n c] w fun e w' => e = .returned (.bool R) ∧ Keep NoB w w' := by
  go_enter Tryz.func98, Tryz.ntmps98
  go_wp2
  go_loopw [3] (fun i wr => ∃ k : Nat, k ≤ n ∧ i = .int .i64 k ∧ Hid ((l.take k).all heldB = true) ∧ Keep NoB w wr) (fun i _ => n - (intOf i).toNat)
  case atStart => exact ⟨0, Nat.zero_le _, rfl, rfl, Keep.refl _ _⟩
  case round =>
    obtain ⟨k, hk, rfl, ht, hK⟩ := hrel
    by_cases hlt : k < n
    · have hka : k < l.length := by rw [hn.out]; exact hlt
      obtain ⟨ga, oa, rfl, hca⟩ := rdI_at hr (by omega)
      have ca := hK.cell (hca k hka) id
      have HT := Lib.hid (fun h => all_step (p := heldB) hka ht.out h)
      have HN := Lib.hid (fun h => all_no (p := heldB) hka h)
      clear hca hr ht
      generalize l[k] = x at ca HT HN
      by_cases h1 : x < 1
      · obtain rfl : R = false := by rw [hR.out]; exact HN.out (by rw [held_not]; omega)
        clear HT HN hR
        go_wp2
        go_ret
        exact ⟨rfl, hK⟩
      · by_cases h3 : 3 < x
        · obtain rfl : R = false := by rw [hR.out]; exact HN.out (by rw [held_not]; omega)
          clear HT HN hR
          go_wp2
          go_ret
          exact ⟨rfl, hK⟩
        · have HV := Lib.hid (HT.out (by rw [held_iff]; omega))
          clear HT HN hR
          go_wp2
          go_roundw
          case rel => exact ⟨k + 1, by omega, by go_num, HV, hK⟩
          case measure => simp [intOf]; omega
    · obtain rfl : R = true := by
        rw [hR.out]
        have e1 := ht.out
        rwa [List.take_of_length_le (by rw [hn.out]; omega)] at e1
      clear hR
      go_wp2
      go_ret
      exact ⟨rfl, hK⟩

end Go.Proofs.YtgifflfjhockaaaGreatDoor.S

namespace Go.Proofs.YtgifflfjhockaaaGreatDoor.S
open Go.RowKit W

theorem blk2 {w : World} {g : Nat} {t : TypeId} {a0 a1 : Value} (h : Blk w g t #[a0, a1]) : w.cell? ⟨g, 0, none⟩ = some a0 ∧ w.cell? ⟨g, 1, none⟩ = some a1 := ⟨h.cell 0, h.cell 1⟩
theorem okS_len {l : List Int} (h : ¬ (1 ≤ l.length ∧ l.length ≤ 16)) : okS l = false := by unfold okS; rw [decide_eq_false h]; rfl
theorem okS_all {l : List Int} (h : l.all heldB = false) : okS l = false := by unfold okS; rw [h, Bool.and_false]
theorem okS_mk {l : List Int} (h : 1 ≤ l.length ∧ l.length ≤ 16) (h2 : l.all heldB = true) : okS l = true := (okS_iff l).2 ⟨h, h2⟩
theorem okG_len {a r : List Int} (h : ¬ (a.length + r.length ≤ 64)) : okG a r = false := by unfold okG; rw [decide_eq_false h]; rfl
theorem okG_args {a r : List Int} (h : a.all knownB = false) : okG a r = false := by unfold okG; rw [h, Bool.false_and, Bool.and_false]
theorem okG_res {a r : List Int} (h : r.all heldB = false) : okG a r = false := by unfold okG; rw [h, Bool.and_false, Bool.and_false]
theorem okG_mk {a r : List Int} (h : a.length + r.length ≤ 64) (h2 : a.all knownB = true) (h3 : r.all heldB = true) : okG a r = true := (okG_iff a r).2 ⟨h, h2, h3⟩
set_option maxHeartbeats 400000 in
theorem size_any (n : Nat) (h : n ≤ 1000) (w : World) : Calls Tryz.prog 157 #[.int .i64 n] w fun e w' => e = .returned (.int .i64 (sz n : Nat)) ∧ w = w' := by
  have hz : sz n ≤ 1000 := by unfold sz; omega
  have hq : ((n : Int) + 4 - 1).tdiv 4 = ((sz n : Nat) : Int) := by unfold sz; rw [Int.tdiv_eq_ediv_of_nonneg (by omega)]; omega
  go_enter Tryz.func157, Tryz.ntmps157
  go_wp2
  go_ret
  exact ⟨rfl, rfl⟩

set_option maxRecDepth 100000 in
set_option maxHeartbeats 2000000 in
theorem chkS_any (A : Option Addr) (l : List Int) (n c : Nat) (w : World) (hr : Rd w A (ivs l)) (hn : Hid (l.length = n)) (hm : n ≤ 9223372036854775807) (R : Int) (hR : Hid (chkS l = R)) :
    Calls Tryz.prog 72 #[.slice A n c] w fun e w' => e = .returned (.int .i64 R) ∧ Keep NoB w w' := by
  by_cases h0 : n = 0
  · subst h0
    obtain rfl : 60 = R := by rw [← hR.out]; exact (chkS_no (okS_len (by rw [hn.out]; omega))).symm
    go_enter Tryz.func72, Tryz.ntmps72
    go_wp2
    go_ret
    exact ⟨rfl, Keep.refl _ _⟩
  have hq1 : ((n : Int) == 0) = false := by rw [beq_eq_false_iff_ne]; omega
  by_cases h1 : 16 < n
  · obtain rfl : 60 = R := by rw [← hR.out]; exact (chkS_no (okS_len (by rw [hn.out]; omega))).symm
    clear hR h0
    go_enter Tryz.func72, Tryz.ntmps72
    go_wp2
    go_ret
    exact ⟨rfl, Keep.refl _ _⟩
  have HC0 := Lib.hid (fun w hr (R : Bool) hR => allS_any A l n c w hr hn hm R hR)
  cases hh : l.all heldB
  · obtain rfl : 60 = R := by rw [← hR.out]; exact (chkS_no (okS_all hh)).symm
    have HC := Lib.hid (fun w hr => HC0.out w hr _ hh.symm)
    clear hh hR HC0 h0
    go_enter Tryz.func72, Tryz.ntmps72
    go_wp2_with (go_at_call 111; refine (HC.out _ hr).mono ?_; rintro e w1 ⟨rfl, k1⟩)
    go_ret
    exact ⟨rfl, k1⟩
  · obtain rfl : 0 = R := by rw [← hR.out]; exact (chkS_ok (okS_mk (by rw [hn.out]; omega) hh)).symm
    have HC := Lib.hid (fun w hr => HC0.out w hr _ hh.symm)
    clear hh hR HC0 h0
    go_enter Tryz.func72, Tryz.ntmps72
    go_wp2_with (go_at_call 111; refine (HC.out _ hr).mono ?_; rintro e w1 ⟨rfl, k1⟩)
    go_ret
    exact ⟨rfl, k1⟩

set_option maxRecDepth 100000 in
set_option maxHeartbeats 2000000 in
theorem rchkS_any (A : Option Addr) (l : List Int) (n c : Nat) (w : World) (hr : Rd w A (ivs l)) (hn : Hid (l.length = n)) (hm : n ≤ 9223372036854775807) (R : Int) (hR : Hid (chkS l = R)) :
    Calls Tryz.prog 55 #[.slice A n c] w fun e w' => e = .returned (.int .i64 R) ∧ Keep NoB w w' := by
  have HC0 := Lib.hid (fun w hr (R : Bool) hR => rheld_any A l n c w hr hn hm R hR)
  by_cases h0 : n = 0
  · obtain rfl : 60 = R := by rw [← hR.out]; exact (chkS_no (okS_len (by rw [hn.out]; omega))).symm
    have hq1 : (n : Int) < 1 := by omega
    cases hh : l.all heldB
    all_goals
      have HC := Lib.hid (fun w hr => HC0.out w hr _ hh.symm)
      clear hh hR HC0 h0
      go_enter Tryz.func55, Tryz.ntmps55
      go_wp2_with (go_at_call 98; refine (HC.out _ hr).mono ?_; rintro e w1 ⟨rfl, k1⟩)
      go_ret
      exact ⟨rfl, k1⟩
  by_cases h1 : 16 < n
  · obtain rfl : 60 = R := by rw [← hR.out]; exact (chkS_no (okS_len (by rw [hn.out]; omega))).symm
    have hq1 : ¬ (n : Int) < 1 := by omega
    cases hh : l.all heldB
    all_goals
      have HC := Lib.hid (fun w hr => HC0.out w hr _ hh.symm)
      clear hh hR HC0 h0
      go_enter Tryz.func55, Tryz.ntmps55
      go_wp2_with (go_at_call 98; refine (HC.out _ hr).mono ?_; rintro e w1 ⟨rfl, k1⟩)
      go_ret
      exact ⟨rfl, k1⟩
  have hq1 : ¬ (n : Int) < 1 := by omega
  cases hh : l.all heldB
  · obtain rfl : 60 = R := by rw [← hR.out]; exact (chkS_no (okS_all hh)).symm
    have HC := Lib.hid (fun w hr => HC0.out w hr _ hh.symm)
    clear hh hR HC0 h0
    go_enter Tryz.func55, Tryz.ntmps55
    go_wp2_with (go_at_call 98; refine (HC.out _ hr).mono ?_; rintro e w1 ⟨rfl, k1⟩)
    go_ret
    exact ⟨rfl, k1⟩
  · obtain rfl : 0 = R := by rw [← hR.out]; exact (chkS_ok (okS_mk (by rw [hn.out]; omega) hh)).symm
    have HC := Lib.hid (fun w hr => HC0.out w hr _ hh.symm)
    clear hh hR HC0 h0
    go_enter Tryz.func55, Tryz.ntmps55
    go_wp2_with (go_at_call 98; refine (HC.out _ hr).mono ?_; rintro e w1 ⟨rfl, k1⟩)
    go_ret
    exact ⟨rfl, k1⟩

set_option maxRecDepth 100000 in
set_option maxHeartbeats 4000000 in
theorem chkG_any (A : Option Addr) (a : List Int) (n c : Nat) (B : Option Addr) (r : List Int) (m d : Nat) (w : World) (ha : Rd w A (ivs a)) (hr : Rd w B (ivs r)) (hn : Hid (a.length = n)) (hm : Hid (r.length = m)) (hn6 : n ≤ 4611686018427387903) (hm6 : m ≤ 4611686018427387903) (R : Int) (hR : Hid (chkG a r = R)) :
    Calls Tryz.prog 122 #[.agg #[.slice A n c, .slice B m d]] w fun e w' => e = .returned (.int .i64 R) ∧ Keep NoB w w' := by
  have bx := Blk.new w 57 #[.slice A n c, .slice B m d]
  have k0 := (Keep.refl NoB w).alloc (.cells #[.slice A n c, .slice B m d] 57)
  by_cases h1 : 64 < n + m
  · obtain rfl : 61 = R := by rw [← hR.out]; exact (chkG_no (okG_len (by rw [hn.out, hm.out]; omega))).symm
    have hq : (64 : Int) < (n : Int) + (m : Int) := by omega
    clear hR
    go_enter Tryz.func122, Tryz.ntmps122
    go_wp2
    go_ret
    exact ⟨rfl, k0⟩
  have hq : ¬ (64 : Int) < (n : Int) + (m : Int) := by omega
  have HA := Lib.hid (fun w hr (R : Bool) hR => allK_any A a n c w hr hn (by omega) R hR)
  have HB := Lib.hid (fun w hr (R : Bool) hR => allH_any B r m d w hr hm (by omega) R hR)
  cases h2 : a.all knownB
  · obtain rfl : 61 = R := by rw [← hR.out]; exact (chkG_no (okG_args h2)).symm
    have HA2 := Lib.hid (fun w hr => HA.out w hr _ h2.symm)
    clear h2 hR HA HB
    go_enter Tryz.func122, Tryz.ntmps122
    go_wp2_with (go_at_call 165; refine (HA2.out _ (ha.keepN k0)).mono ?_; rintro e w1 ⟨rfl, k1⟩)
    go_ret
    exact ⟨rfl, keepN k0 k1⟩
  have HA2 := Lib.hid (fun w hr => HA.out w hr _ h2.symm)
  cases h3 : r.all heldB
  · obtain rfl : 61 = R := by rw [← hR.out]; exact (chkG_no (okG_res h3)).symm
    have HB2 := Lib.hid (fun w hr => HB.out w hr _ h3.symm)
    clear h2 h3 hR HA HB
    go_enter Tryz.func122, Tryz.ntmps122
    go_wp2_with fail
    refine (HA2.out _ (ha.keepN k0)).mono ?_
    rintro e w1 ⟨rfl, k1⟩
    obtain ⟨c0, c1⟩ := blk2 (bx.keep k1 id)
    have hr1 := (hr.keepN k0).keepN k1
    go_wp2_with fail
    refine (HB2.out _ hr1).mono ?_
    rintro e w2 ⟨rfl, k2⟩
    go_wp2
    go_ret
    exact ⟨rfl, keepN (keepN k0 k1) k2⟩
  · obtain rfl : 0 = R := by rw [← hR.out]; exact (chkG_ok (okG_mk (by rw [hn.out, hm.out]; omega) h2 h3)).symm
    have HB2 := Lib.hid (fun w hr => HB.out w hr _ h3.symm)
    clear h2 h3 hR HA HB
    go_enter Tryz.func122, Tryz.ntmps122
    go_wp2_with fail
    refine (HA2.out _ (ha.keepN k0)).mono ?_
    rintro e w1 ⟨rfl, k1⟩
    obtain ⟨c0, c1⟩ := blk2 (bx.keep k1 id)
    have hr1 := (hr.keepN k0).keepN k1
    go_wp2_with fail
    refine (HB2.out _ hr1).mono ?_
    rintro e w2 ⟨rfl, k2⟩
    go_wp2
    go_ret
    exact ⟨rfl, keepN (keepN k0 k1) k2⟩

set_option maxRecDepth 100000 in
set_option maxHeartbeats 4000000 in
theorem rchkG_any (A : Option Addr) (a : List Int) (n c : Nat) (B : Option Addr) (r : List Int) (m d : Nat) (w : World) (ha : Rd w A (ivs a)) (hr : Rd w B (ivs r)) (hn : Hid (a.length = n)) (hm : Hid (r.length = m)) (hn6 : n ≤ 4611686018427387903) (hm6 : m ≤ 4611686018427387903) (R : Int) (hR : Hid (chkG a r = R)) :
    Calls Tryz.prog 100 #[.agg #[.slice A n c, .slice B m d]] w fun e w' => e = .returned (.int .i64 R) ∧ Keep NoB w w' := by
  have bx := Blk.new w 57 #[.slice A n c, .slice B m d]
  have k0 := (Keep.refl NoB w).alloc (.cells #[.slice A n c, .slice B m d] 57)
  have HB := Lib.hid (fun w hr (R : Bool) hR => rheld_any B r m d w hr hm (by omega) R hR)
  cases h3 : r.all heldB
  · obtain rfl : 61 = R := by rw [← hR.out]; exact (chkG_no (okG_res h3)).symm
    have HB2 := Lib.hid (fun w hr => HB.out w hr _ h3.symm)
    clear h3 hR HB
    go_enter Tryz.func100, Tryz.ntmps100
    go_wp2_with (go_at_call 98; refine (HB2.out _ (hr.keepN k0)).mono ?_; rintro e w1 ⟨rfl, k1⟩)
    go_ret
    exact ⟨rfl, keepN k0 k1⟩
  have HB2 := Lib.hid (fun w hr => HB.out w hr _ h3.symm)
  by_cases h1 : 64 < n + m
  · obtain rfl : 61 = R := by rw [← hR.out]; exact (chkG_no (okG_len (by rw [hn.out, hm.out]; omega))).symm
    have hq : (64 : Int) < (n : Int) + (m : Int) := by omega
    clear h3 hR HB
    go_enter Tryz.func100, Tryz.ntmps100
    go_wp2_with fail
    refine (HB2.out _ (hr.keepN k0)).mono ?_
    rintro e w1 ⟨rfl, k1⟩
    obtain ⟨c0, c1⟩ := blk2 (bx.keep k1 id)
    go_wp2
    go_ret
    exact ⟨rfl, keepN k0 k1⟩
  have hq : ¬ (64 : Int) < (n : Int) + (m : Int) := by omega
  have HO : Hid (a.all knownB = true → chkG a r = 0) := fun h2 => chkG_ok (okG_mk (by rw [hn.out, hm.out]; omega) h2 h3)
  clear h3 HB
  go_enter Tryz.func100, Tryz.ntmps100
  go_wp2_with fail
  refine (HB2.out _ (hr.keepN k0)).mono ?_
  rintro e w1 ⟨rfl, k1⟩
  have bx1 := bx.keep k1 id
  obtain ⟨c0, c1⟩ := blk2 bx1
  have k2 := keepN k0 k1
  clear bx k1 k0 HB2
  go_wp2
  clear c0 c1
  go_loopw [4] (fun i wr => ∃ k : Nat, k ≤ n ∧ i = .int .i64 k ∧ Hid ((a.take k).all knownB = true) ∧ Blk wr w.heap.size 57 #[.slice A n c, .slice B m d] ∧ Keep NoB w wr) (fun i _ => n - (intOf i).toNat)
  case atStart => exact ⟨0, Nat.zero_le _, rfl, rfl, bx1, k2⟩
  case round =>
    clear bx1 k2
    obtain ⟨k, hk, rfl, ht, hb, hK⟩ := hrel
    obtain ⟨c0, c1⟩ := blk2 hb
    by_cases hlt : k < n
    · have hka : k < a.length := by rw [hn.out]; exact hlt
      obtain ⟨ga, oa, rfl, hca⟩ := rdI_at ha (by omega)
      have ca := hK.cell (hca k hka) id
      have HT := Lib.hid (fun h => all_step (p := knownB) hka ht.out h)
      have HN := Lib.hid (fun h => all_no (p := knownB) hka h)
      clear hca ha ht
      generalize a[k] = x at ca HT HN
      by_cases h1 : x < 1
      · obtain rfl : 61 = R := by rw [← hR.out]; exact (chkG_no (okG_args (HN.out (by rw [known_not]; omega)))).symm
        clear HT HN hR HO
        go_wp2
        go_ret
        exact ⟨rfl, hK⟩
      · by_cases h4 : 4 < x
        · obtain rfl : 61 = R := by rw [← hR.out]; exact (chkG_no (okG_args (HN.out (by rw [known_not]; omega)))).symm
          clear HT HN hR HO
          go_wp2
          go_ret
          exact ⟨rfl, hK⟩
        · have HV := Lib.hid (HT.out (by rw [known_iff]; omega))
          clear HT HN hR HO
          go_wp2
          go_roundw
          case rel => exact ⟨k + 1, by omega, by go_num, HV, hb, hK⟩
          case measure => simp [intOf]; omega
    · obtain rfl : 0 = R := by
        rw [← hR.out]
        have e1 := ht.out
        rw [List.take_of_length_le (by rw [hn.out]; omega)] at e1
        exact (HO.out e1).symm
      clear hR HO
      go_wp2
      go_ret
      exact ⟨rfl, hK⟩

set_option maxRecDepth 100000 in
set_option maxHeartbeats 4000000 in
theorem rsame_any (A1 : Option Addr) (a1 : List Int) (n1 c1 : Nat) (B1 : Option Addr) (r1 : List Int) (m1 d1 : Nat) (A2 : Option Addr) (a2 : List Int) (n2 c2 : Nat) (B2 : Option Addr) (r2 : List Int) (m2 d2 : Nat) (w : World)
    (ha1 : Rd w A1 (ivs a1)) (hr1 : Rd w B1 (ivs r1)) (ha2 : Rd w A2 (ivs a2)) (hr2 : Rd w B2 (ivs r2)) (hn1 : Hid (a1.length = n1)) (hm1 : Hid (r1.length = m1)) (hn2 : Hid (a2.length = n2)) (hm2 : Hid (r2.length = m2))
    (qn1 : n1 ≤ 9223372036854775807) (qm1 : m1 ≤ 9223372036854775807) (qn2 : n2 ≤ 9223372036854775807) (qm2 : m2 ≤ 9223372036854775807) (R : Bool) (hR : Hid (R = decide (a1 = a2 ∧ r1 = r2))) :
    Calls Tryz.prog 61 #[.agg #[.slice A1 n1 c1, .slice B1 m1 d1], .agg #[.slice A2 n2 c2, .slice B2 m2 d2]] w fun e w' => e = .returned (.bool R) ∧ Keep NoB w w' := by
  have bx := (Blk.new w 57 #[.slice A1 n1 c1, .slice B1 m1 d1]).alloc (.cells #[.slice A2 n2 c2, .slice B2 m2 d2] 57)
  have by2 := Blk.new (w.alloc (.cells #[.slice A1 n1 c1, .slice B1 m1 d1] 57)) 57 #[.slice A2 n2 c2, .slice B2 m2 d2]
  have k0 := ((Keep.refl NoB w).alloc (.cells #[.slice A1 n1 c1, .slice B1 m1 d1] 57)).alloc (.cells #[.slice A2 n2 c2, .slice B2 m2 d2] 57)
  rw [World.size_alloc] at by2
  have HA := Lib.hid (fun w h h' (R : Bool) hR => ints_any A1 A2 a1 a2 n1 n2 c1 c2 w h h' hn1 hn2 qn1 qn2 R hR)
  have HB := Lib.hid (fun w h h' (R : Bool) hR => ints_any B1 B2 r1 r2 m1 m2 d1 d2 w h h' hm1 hm2 qm1 qm2 R hR)
  by_cases q1 : a1 = a2
  by_cases q2 : r1 = r2
  · skip
    have HA2 := Lib.hid (fun w h h' => HA.out w h h' true (show _ = _ from (decide_eq_true q1).symm))
    have HB2 := Lib.hid (fun w h h' => HB.out w h h' true (show _ = _ from (decide_eq_true q2).symm))
    obtain rfl : R = true := by rw [hR.out, decide_eq_true_iff]; exact ⟨q1, q2⟩
    clear HA HB hR
    go_enter Tryz.func61, Tryz.ntmps61
    go_wp2_with fail
    refine (HA2.out _ (ha1.keepN k0) (ha2.keepN k0)).mono ?_
    rintro e w1 ⟨rfl, k1⟩
    obtain ⟨x0, x1⟩ := blk2 (bx.keep k1 id)
    obtain ⟨y0, y1⟩ := blk2 (by2.keep k1 id)
    go_wp2_with fail
    refine (HB2.out _ ((hr1.keepN k0).keepN k1) ((hr2.keepN k0).keepN k1)).mono ?_
    rintro e w2 ⟨rfl, k2⟩
    go_wp2
    go_ret
    exact ⟨rfl, keepN (keepN k0 k1) k2⟩
  · skip
    have HA2 := Lib.hid (fun w h h' => HA.out w h h' true (show _ = _ from (decide_eq_true q1).symm))
    have HB2 := Lib.hid (fun w h h' => HB.out w h h' false (show _ = _ from (decide_eq_false q2).symm))
    obtain rfl : R = false := by rw [hR.out, decide_eq_false_iff_not]; exact fun h => q2 h.2
    clear HA HB hR
    go_enter Tryz.func61, Tryz.ntmps61
    go_wp2_with fail
    refine (HA2.out _ (ha1.keepN k0) (ha2.keepN k0)).mono ?_
    rintro e w1 ⟨rfl, k1⟩
    obtain ⟨x0, x1⟩ := blk2 (bx.keep k1 id)
    obtain ⟨y0, y1⟩ := blk2 (by2.keep k1 id)
    go_wp2_with fail
    refine (HB2.out _ ((hr1.keepN k0).keepN k1) ((hr2.keepN k0).keepN k1)).mono ?_
    rintro e w2 ⟨rfl, k2⟩
    go_wp2
    go_ret
    exact ⟨rfl, keepN (keepN k0 k1) k2⟩
  by_cases q2 : r1 = r2
  · skip
    have HA2 := Lib.hid (fun w h h' => HA.out w h h' false (show _ = _ from (decide_eq_false q1).symm))
    have HB2 := Lib.hid (fun w h h' => HB.out w h h' true (show _ = _ from (decide_eq_true q2).symm))
    obtain rfl : R = false := by rw [hR.out, decide_eq_false_iff_not]; exact fun h => q1 h.1
    clear HA HB hR
    go_enter Tryz.func61, Tryz.ntmps61
    go_wp2_with fail
    refine (HA2.out _ (ha1.keepN k0) (ha2.keepN k0)).mono ?_
    rintro e w1 ⟨rfl, k1⟩
    obtain ⟨x0, x1⟩ := blk2 (bx.keep k1 id)
    obtain ⟨y0, y1⟩ := blk2 (by2.keep k1 id)
    go_wp2_with fail
    refine (HB2.out _ ((hr1.keepN k0).keepN k1) ((hr2.keepN k0).keepN k1)).mono ?_
    rintro e w2 ⟨rfl, k2⟩
    go_wp2
    go_ret
    exact ⟨rfl, keepN (keepN k0 k1) k2⟩
  · skip
    have HA2 := Lib.hid (fun w h h' => HA.out w h h' false (show _ = _ from (decide_eq_false q1).symm))
    have HB2 := Lib.hid (fun w h h' => HB.out w h h' false (show _ = _ from (decide_eq_false q2).symm))
    obtain rfl : R = false := by rw [hR.out, decide_eq_false_iff_not]; exact fun h => q1 h.1
    clear HA HB hR
    go_enter Tryz.func61, Tryz.ntmps61
    go_wp2_with fail
    refine (HA2.out _ (ha1.keepN k0) (ha2.keepN k0)).mono ?_
    rintro e w1 ⟨rfl, k1⟩
    obtain ⟨x0, x1⟩ := blk2 (bx.keep k1 id)
    obtain ⟨y0, y1⟩ := blk2 (by2.keep k1 id)
    go_wp2_with fail
    refine (HB2.out _ ((hr1.keepN k0).keepN k1) ((hr2.keepN k0).keepN k1)).mono ?_
    rintro e w2 ⟨rfl, k2⟩
    go_wp2
    go_ret
    exact ⟨rfl, keepN (keepN k0 k1) k2⟩

set_option maxRecDepth 100000 in
set_option maxHeartbeats 2000000 in
theorem great_no (S A B : Option Addr) (k c0 n c m d : Nat) (w : World) (h1 : k ≤ 100) (h2 : n ≤ 100) (h3 : m ≤ 100) :
    Calls Tryz.prog 68 #[.slice S k c0, .agg #[.slice A n c, .slice B m d]] w fun e w' => e = .returned (.int .i64 0) ∧ Keep NoB w w' := by
  go_enter Tryz.func68, Tryz.ntmps68
  go_wp2
  go_ret
  exact ⟨rfl, (Keep.refl _ _).alloc _⟩
set_option maxRecDepth 100000 in
set_option maxHeartbeats 2000000 in
theorem great_yes (S A B : Option Addr) (k c0 n c m d : Nat) (w : World) (h : ¬ (k ≤ 100 ∧ n ≤ 100 ∧ m ≤ 100)) :
    Calls Tryz.prog 68 #[.slice S k c0, .agg #[.slice A n c, .slice B m d]] w fun e w' => e = .returned (.int .i64 1) ∧ Keep NoB w w' := by
  by_cases h1 : k ≤ 100
  · by_cases h2 : n ≤ 100
    · have h3 : ¬ m ≤ 100 := by omega
      clear h
      go_enter Tryz.func68, Tryz.ntmps68
      go_wp2
      go_ret
      exact ⟨rfl, (Keep.refl _ _).alloc _⟩
    · clear h
      go_enter Tryz.func68, Tryz.ntmps68
      go_wp2
      go_ret
      exact ⟨rfl, (Keep.refl _ _).alloc _⟩
  · clear h
    go_enter Tryz.func68, Tryz.ntmps68
    go_wp2
    go_ret
    exact ⟨rfl, (Keep.refl _ _).alloc _⟩

end Go.Proofs.YtgifflfjhockaaaGreatDoor.S

namespace Go.Proofs.YtgifflfjhockaaaGreatDoor.S
open Go.RowKit W

/-- The array that types are laid into. -/
def arrV (l : List Int) : List Value := (List.range 16).map fun j => .int .u8 (packN l j : Nat)
theorem arrV_nil : arrV [] = List.replicate 16 (Value.int .u8 0) := by kernel_rfl
theorem arrV_at (l : List Int) (q : Nat) (h : q < 16) : (arrV l)[q]? = some (.int .u8 (packN l q : Nat)) := by unfold arrV; rw [List.getElem?_map, List.getElem?_range h]; rfl
theorem packN_other {l : List Int} {t : Int} {j : Nat} (h : j ≠ l.length / 4) : packN (l ++ [t]) j = packN l j := by
  unfold packN
  rcases Nat.lt_or_ge j (l.length / 4) with h1 | h1
  · rw [List.drop_append_of_le_length (by omega), List.take_append_of_le_length (by rw [List.length_drop]; omega)]
  · rw [List.drop_of_length_le (by simp; omega), List.drop_of_length_le (by omega)]
theorem packN_here {l : List Int} {t : Int} : packN (l ++ [t]) (l.length / 4) = packN l (l.length / 4) + (t - 1).toNat * 4 ^ (l.length % 4) ∧ packN l (l.length / 4) < 4 ^ (l.length % 4) ∨ ¬ l.all knownB = true := by
  by_cases hk : l.all knownB = true
  · left
    have hd : (l.drop (4 * (l.length / 4))).length = l.length % 4 := by rw [List.length_drop]; omega
    have ht : (l.drop (4 * (l.length / 4))).take 4 = l.drop (4 * (l.length / 4)) := List.take_of_length_le (by omega)
    refine ⟨?_, ?_⟩
    · unfold packN
      rw [List.drop_append_of_le_length (by omega), ht, List.take_of_length_le (by rw [List.length_append, hd]; simp; omega), dig_snoc, hd]
    · unfold packN
      have := dig_lt _ (all_sub hk (4 * (l.length / 4)) 4)
      rw [ht, hd] at this
      rw [ht]; exact this
  · exact .inr hk
theorem arrV_put {l : List Int} {t : Int} {q : Nat} (hq : q = l.length / 4) (h16 : q < 16) {x : Int} (hx : x = (packN (l ++ [t]) q : Nat)) : (arrV l).toArray.setIfInBounds q (.int .u8 x) = (arrV (l ++ [t])).toArray := by
  rw [List.setIfInBounds_toArray]
  congr 1
  apply List.ext_getElem?
  intro j
  rw [List.getElem?_set]
  by_cases e : q = j
  · subst e
    rw [if_pos rfl, if_pos (by unfold arrV; simpa using h16), arrV_at _ _ h16, hx]
  · rw [if_neg e]
    by_cases hj : j < 16
    · rw [arrV_at _ _ hj, arrV_at _ _ hj, packN_other (by omega)]
    · rw [List.getElem?_eq_none (by unfold arrV; simp; omega), List.getElem?_eq_none (by unfold arrV; simp; omega)]
theorem lane {x : Int} {old j : Nat} (h1 : 1 ≤ x) (h4 : x ≤ 4) (hj : j < 4) (ho : old < 4 ^ j) : bits .or .u8 (old : Int) ((x - 1) * 2 ^ (j * 2) % 256) = ((old + (x - 1).toNat * 4 ^ j : Nat) : Int) := by
  obtain ⟨v, rfl⟩ : ∃ v : Nat, x = (v : Int) + 1 := ⟨(x - 1).toNat, by omega⟩
  have hv : v < 4 := by omega
  rw [show ((v : Int) + 1 - 1) = (v : Int) by omega, Int.toNat_natCast]
  have e4 : (4 : Nat) ^ j = 2 ^ (j * 2) := by rw [Nat.mul_comm, Nat.pow_mul]
  have hlt : v * 2 ^ (j * 2) < 256 := by
    obtain rfl | rfl | rfl | rfl : j = 0 ∨ j = 1 ∨ j = 2 ∨ j = 3 := by omega
    all_goals simp; omega
  have hold : old < 256 := by
    have : (4 : Nat) ^ j ≤ 4 ^ 3 := Nat.pow_le_pow_right (by omega) (by omega)
    omega
  have e : ((v : Int) * 2 ^ (j * 2) % 256) = ((v * 2 ^ (j * 2) : Nat) : Int) := by
    rw [show ((v : Int) * 2 ^ (j * 2)) = ((v * 2 ^ (j * 2) : Nat) : Int) by push_cast; rfl]
    omega
  rw [e, u8_or_nat _ _ hold hlt, e4]
  congr 1
  rw [e4] at ho
  have := Nat.shiftLeft_add_eq_or_of_lt ho v
  rw [Nat.shiftLeft_eq] at this
  rw [Nat.or_comm, ← this, Nat.add_comm]
theorem arrV_rd {w : World} {g : Nat} {t : TypeId} {l : List Int} (h : Blk w g t (arrV l).toArray) (hk : l.all knownB = true) (h64 : l.length ≤ 64) : V.Rd w (some ⟨g, 0, none⟩) (packL l) := fun _ => ⟨_, rfl, fun j u hu => by
  rw [List.getElem?_map] at hu
  obtain ⟨hj, _⟩ : ∃ h : j < (packL l).length, True := by
    cases hq : (packL l)[j]? with
    | none => rw [hq] at hu; cases hu
    | some b => exact ⟨(List.getElem?_eq_some_iff.1 hq).1, trivial⟩
  rw [packL_length] at hj
  rw [packL_at _ _ hj] at hu
  have e : (⟨g, 0, none⟩ : Addr).add j = ⟨g, j, none⟩ := by unfold Addr.add; by_cases hj : j = 0 <;> simp [hj]
  rw [e, h.cell]
  have h16 : j < 16 := by unfold sz at hj; omega
  simp only [List.getElem?_toArray]
  rw [arrV_at _ _ h16, ← hu]
  simp only [Option.map_some, V.bv]
  rw [UInt8.toNat_ofNat', Nat.mod_eq_of_lt (packN_lt hk _)]⟩
theorem own_app {w W W' : World} {v v' : Value} {l l' : List UInt8} (hO : V.OwnB W (Fresh w) v l) (hK : Keep NoB w W) (hown : W'.ownsRow 0 5 1 v' l'.length (V.bvs l')) (hg : W.grownBy W' v.ownBlock)
    (hat : v'.ownBlock = v.ownBlock ∨ v'.ownBlock = some W.heap.size) : V.OwnB W' (Fresh w) v' l' ∧ Keep NoB w W' := by
  refine ⟨⟨hown, fun g e => ?_⟩, hK.grown hg (fun g e hl => by have := hO.2 g e; unfold Fresh at this; omega)⟩
  rcases hat with h | h
  · exact hO.2 g (h ▸ e)
  · rw [h] at e; cases e; exact hK.size
theorem slice_arr (w : World) (g z : Nat) (hz : z ≤ 16) : (Instr.sliceAt 227 (.pointer (some ⟨g, 0, none⟩)) none (some (.int .i64 (z : Int))) none).run Tryz.prog w = .ok (.slice (some ⟨g, 0, none⟩) z 16) w := by
  have ha : Tryz.prog.arrayLen 227 = 16 := by kernel_rfl
  have he : Tryz.prog.elem 227 = 5 := by kernel_rfl
  rw [run_sliceAt_array_h w 227 ⟨g, 0, none⟩ (by rw [ha, he]; exact Tryz.underlying227) .i64 (z : Int) (by omega) (by rw [ha]; omega), he]
  have := Tryz.sizeOf5 w
  rw [this, ha]
  simp [slicedAt, Addr.add]
theorem known_val {l : List Int} (h : l.all knownB = true) {k : Nat} (hk : k < l.length) : 1 ≤ l[k] ∧ l[k] ≤ 4 := by
  have := List.all_eq_true.1 h _ (List.getElem_mem hk)
  rwa [known_iff] at this

set_option maxRecDepth 100000 in
set_option maxHeartbeats 4000000 in
theorem packS_any (A : Option Addr) (l : List Int) (n c : Nat) (w : World) (hr : Rd w A (ivs l)) (hn : Hid (l.length = n)) (hk0 : Hid (l.all knownB = true)) (h64 : n ≤ 64) :
    Calls Tryz.prog 113 #[.slice A n c] w fun e w' => ∃ v, e = .returned v ∧ V.OwnB w' (Fresh w) v (bytesT l) ∧ Keep NoB w w' := by
  go_enter Tryz.func113, Tryz.ntmps113
  go_wp2
  have hb0 := Blk.new w 227 (List.replicate 16 (Value.int .u8 0)).toArray
  rw [← arrV_nil] at hb0
  have hK0 := (Keep.refl NoB w).alloc (.cells (List.replicate 16 (Value.int .u8 0)).toArray 227)
  go_loopw [9] (fun i wr => ∃ k : Nat, k ≤ n ∧ i = .int .i64 k ∧ Blk wr w.heap.size 227 (arrV (l.take k)).toArray ∧ Keep NoB w wr) (fun i _ => n - (intOf i).toNat)
  case atStart => exact ⟨0, Nat.zero_le _, rfl, hb0, hK0⟩
  case round =>
    clear hb0 hK0
    obtain ⟨k, hk, rfl, hb, hK⟩ := hrel
    by_cases hlt : k < n
    · have hka : k < l.length := by rw [hn.out]; exact hlt
      obtain ⟨ga, oa, rfl, hca⟩ := rdI_at hr (by omega)
      have ca := hK.cell (hca k hka) id
      obtain ⟨ht1, ht4⟩ := known_val hk0.out hka
      have HT := Lib.hid (show l.take (k + 1) = l.take k ++ [l[k]] from List.take_succ_eq_append_getElem hka)
      have hl : (l.take k).length = k := by rw [List.length_take]; omega
      have hall : (l.take k).all knownB = true := List.all_eq_true.2 fun x hx => List.all_eq_true.1 hk0.out x (List.mem_of_mem_take hx)
      obtain ⟨q, hq⟩ : ∃ q, k / 4 = q := ⟨_, rfl⟩
      have cb : wr.cell? ⟨w.heap.size, q, none⟩ = some (.int .u8 (packN (l.take k) q : Nat)) := by rw [hb.cell]; simpa using arrV_at (l.take k) q (by omega)
      generalize l[k] = x at ca HT ht1 ht4
      have hq1 : ((k : Int).tdiv 4) = ((q : Nat) : Int) := by rw [Int.tdiv_eq_ediv_of_nonneg (by omega)]; omega
      have hr1 : ((k : Int).tmod 4) = ((k % 4 : Nat) : Int) := by rw [Int.tmod_eq_emod_of_nonneg (by omega)]; omega
      have hq16 : (q : Int) < 16 := by omega
      have fb := fun i => hb.frozen i
      obtain ⟨old, hold'⟩ : ∃ old, packN (l.take k) q = old := ⟨_, rfl⟩
      have hold := Lib.hid hold'
      rw [hold'] at cb
      clear hold'
      clear hca hr
      go_wp2
      have HV : Hid (old < 4 ^ (k % 4) → bits .or .u8 (old : Int) ((x - 1) * 2 ^ (k % 4 * 2) % 256) = ((old + (x - 1).toNat * 4 ^ (k % 4) : Nat) : Int)) := fun h => lane ht1 ht4 (by omega) h
      have HP : Hid (∀ {v : Int}, v = ((old + (x - 1).toNat * 4 ^ (k % 4) : Nat) : Int) → (arrV (l.take k)).toArray.setIfInBounds q (.int .u8 v) = (arrV (l.take (k + 1))).toArray) := fun {v} hv => by
        rw [HT.out]
        refine arrV_put (by rw [hl]; exact hq.symm) (by omega) ?_
        rcases packN_here (l := l.take k) (t := x) with h | h
        · rw [hl, hq] at h
          rw [h.1, hv, hold.out]
        · exact absurd hall h
      have HO : Hid (old < 4 ^ (k % 4)) := by
        show _ < _
        rcases packN_here (l := l.take k) (t := x) with h | h
        · rw [hl, hq] at h
          rw [← hold.out]; exact h.2
        · exact absurd hall h
      have HB : Hid (Blk (wr.setCell ⟨w.heap.size, q, none⟩ (.int .u8 (bits .or .u8 (old : Int) ((x - 1) * 2 ^ (k % 4 * 2) % 256)))) w.heap.size 227 (arrV (l.take (k + 1))).toArray) := by
        have := hb.put q (.int .u8 (bits .or .u8 (old : Int) ((x - 1) * 2 ^ (k % 4 * 2) % 256)))
        rw [HP.out (HV.out HO.out)] at this
        exact this
      have HK : Hid (Keep NoB w (wr.setCell ⟨w.heap.size, q, none⟩ (.int .u8 (bits .or .u8 (old : Int) ((x - 1) * 2 ^ (k % 4 * 2) % 256))))) := hK.setCell (fun h => absurd h (by simp)) _
      clear HV HP HO hb hK hall hl HT hold
      go_region
      go_wp2
      go_roundw
      case rel => exact ⟨k + 1, by omega, by go_num, HB.out, HK.out.drew⟩
      case measure => simp [intOf]; omega
    · obtain rfl : k = n := by omega
      have hlk : l.take k = l := List.take_of_length_le (by rw [hn.out]; exact Nat.le_refl _)
      rw [hlk] at hb
      have ht := V.TapeAt.new wr
      have hO0 : ∀ j, j = wr.heap.size → j < (wr.alloc (.cells #[.pointer none, .int .i64 0] 134)).heap.size := fun j e => by subst e; simp
      have hKt := hK.alloc (.cells #[.pointer none, .int .i64 0] 134)
      have hbt := hb.alloc (.cells #[.pointer none, .int .i64 0] 134)
      have hgt : w.heap.size < wr.heap.size := hb.lt
      have HS := Lib.hid (fun w => size_any k (by omega) w)
      have HPL : Hid ((packL l).length = sz k) := by show _ = _; rw [packL_length, hn.out]
      have hz : sz k ≤ 16 := by unfold sz; omega
      have HKN := Lib.hid hk0.out
      have HX : Hid (([] ++ V.encL k) ++ packL l = bytesT l) := by show _ = _; unfold bytesT; rw [hn.out]; rfl
      have HLE := V.encL_len k
      have hwrs : w.heap.size ≤ wr.heap.size := hK.size
      have HLL : Hid (l.length ≤ 64) := by show _ ≤ _; rw [hn.out]; exact h64
      clear hb hK hlk hk0
      go_wp2_with fail
      refine (V.tnumber_any _ wr.heap.size (fun j => j = wr.heap.size) [] k ht hO0 (by decide)).mono ?_
      rintro e w1 ⟨rfl, h1, hk1⟩
      have hb1 := hbt.keep hk1 (fun e => by omega)
      have hK1 : Keep NoB w w1 := hKt.trans hk1 (fun j e hl => by omega)
      have H1 := Lib.hid h1
      clear h1 ht hbt hKt hk1 hO0
      go_wp2_with fail
      refine (V.all_any w1 wr.heap.size _ ([] ++ V.encL k) H1.out (by simp; omega)).mono ?_
      rintro e w2 ⟨v2, rfl, hv2, hk2⟩
      have hb2 := hb1.keep hk2 id
      have hK2 := keepN hK1 hk2
      have hO2 := hv2.mono (O' := Fresh w) (fun j hj _ => by unfold Fresh at hj ⊢; exact Nat.le_trans hK1.size hj)
      obtain ⟨A2, c2, rfl, _⟩ := hO2.form
      clear hv2 hb1 hK1 H1 hk2
      go_wp2_with fail
      refine (HS.out _).mono ?_
      rintro e w3 ⟨rfl, rfl⟩
      have hrd := arrV_rd hb2 HKN.out HLL.out
      have hf2 := fun i => hb2.frozen i
      have hcell : ∀ i, w2.cell? ⟨w.heap.size, i, none⟩ = (arrV l)[i]? := fun i => by rw [hb2.cell]; simp
      have hlen : ([] ++ V.encL k : List UInt8).length = (V.encL k).length := rfl
      obtain ⟨z, hzz⟩ : ∃ z, sz k = z := ⟨_, rfl⟩
      rw [hzz] at HPL hz ⊢
      have hsl := slice_arr w2 w.heap.size z hz
      go_wp2_with (at_builtin; refine V.wpList_append_rd _ rfl _ _ rfl _ ([] ++ V.encL k) (packL l) (some ⟨w.heap.size, 0, none⟩) 16 rfl hO2.1 (by rw [HPL.out]; rfl) hrd (by rw [HPL.out]; simp; omega) ?_; intro v5 w5 hown hg hat; obtain ⟨hO3, hK3⟩ := own_app hO2 hK2 hown hg hat; rw [HX.out] at hO3; clear hown hg hat)
      go_ret
      exact ⟨_, rfl, hO3, hK3⟩

set_option maxRecDepth 100000 in
set_option maxHeartbeats 4000000 in
theorem packI_any (A : Option Addr) (l : List Int) (n c : Nat) (w : World) (hr : Rd w A (ivs l)) (hn : Hid (l.length = n)) (hk0 : Hid (l.all knownB = true)) (h64 : n ≤ 64) :
    Calls Tryz.prog 173 #[.slice A n c] w fun e w' => ∃ v, e = .returned v ∧ V.OwnB w' (Fresh w) v (bytesT l) ∧ Keep NoB w w' := by
  go_enter Tryz.func173, Tryz.ntmps173
  go_wp2
  have hb0 := Blk.new w 227 (List.replicate 16 (Value.int .u8 0)).toArray
  rw [← arrV_nil] at hb0
  have hK0 := (Keep.refl NoB w).alloc (.cells (List.replicate 16 (Value.int .u8 0)).toArray 227)
  go_loopw [9] (fun i wr => ∃ k : Nat, k ≤ n ∧ i = .int .i64 k ∧ Blk wr w.heap.size 227 (arrV (l.take k)).toArray ∧ Keep NoB w wr) (fun i _ => n - (intOf i).toNat)
  case atStart => exact ⟨0, Nat.zero_le _, rfl, hb0, hK0⟩
  case round =>
    clear hb0 hK0
    obtain ⟨k, hk, rfl, hb, hK⟩ := hrel
    by_cases hlt : k < n
    · have hka : k < l.length := by rw [hn.out]; exact hlt
      obtain ⟨ga, oa, rfl, hca⟩ := rdI_at hr (by omega)
      have ca := hK.cell (hca k hka) id
      obtain ⟨ht1, ht4⟩ := known_val hk0.out hka
      have HT := Lib.hid (show l.take (k + 1) = l.take k ++ [l[k]] from List.take_succ_eq_append_getElem hka)
      have hl : (l.take k).length = k := by rw [List.length_take]; omega
      have hall : (l.take k).all knownB = true := List.all_eq_true.2 fun x hx => List.all_eq_true.1 hk0.out x (List.mem_of_mem_take hx)
      obtain ⟨q, hq⟩ : ∃ q, k / 4 = q := ⟨_, rfl⟩
      have cb : wr.cell? ⟨w.heap.size, q, none⟩ = some (.int .u8 (packN (l.take k) q : Nat)) := by rw [hb.cell]; simpa using arrV_at (l.take k) q (by omega)
      generalize l[k] = x at ca HT ht1 ht4
      have hq1 : ((k : Int).tdiv 4) = ((q : Nat) : Int) := by rw [Int.tdiv_eq_ediv_of_nonneg (by omega)]; omega
      have hr1 : ((k : Int).tmod 4) = ((k % 4 : Nat) : Int) := by rw [Int.tmod_eq_emod_of_nonneg (by omega)]; omega
      have hq16 : (q : Int) < 16 := by omega
      have fb := fun i => hb.frozen i
      obtain ⟨old, hold'⟩ : ∃ old, packN (l.take k) q = old := ⟨_, rfl⟩
      have hold := Lib.hid hold'
      rw [hold'] at cb
      clear hold'
      clear hca hr
      go_wp2
      have HV : Hid (old < 4 ^ (k % 4) → bits .or .u8 (old : Int) ((x - 1) * 2 ^ (k % 4 * 2) % 256) = ((old + (x - 1).toNat * 4 ^ (k % 4) : Nat) : Int)) := fun h => lane ht1 ht4 (by omega) h
      have HP : Hid (∀ {v : Int}, v = ((old + (x - 1).toNat * 4 ^ (k % 4) : Nat) : Int) → (arrV (l.take k)).toArray.setIfInBounds q (.int .u8 v) = (arrV (l.take (k + 1))).toArray) := fun {v} hv => by
        rw [HT.out]
        refine arrV_put (by rw [hl]; exact hq.symm) (by omega) ?_
        rcases packN_here (l := l.take k) (t := x) with h | h
        · rw [hl, hq] at h
          rw [h.1, hv, hold.out]
        · exact absurd hall h
      have HO : Hid (old < 4 ^ (k % 4)) := by
        show _ < _
        rcases packN_here (l := l.take k) (t := x) with h | h
        · rw [hl, hq] at h
          rw [← hold.out]; exact h.2
        · exact absurd hall h
      have HB : Hid (Blk (wr.setCell ⟨w.heap.size, q, none⟩ (.int .u8 (bits .or .u8 (old : Int) ((x - 1) * 2 ^ (k % 4 * 2) % 256)))) w.heap.size 227 (arrV (l.take (k + 1))).toArray) := by
        have := hb.put q (.int .u8 (bits .or .u8 (old : Int) ((x - 1) * 2 ^ (k % 4 * 2) % 256)))
        rw [HP.out (HV.out HO.out)] at this
        exact this
      have HK : Hid (Keep NoB w (wr.setCell ⟨w.heap.size, q, none⟩ (.int .u8 (bits .or .u8 (old : Int) ((x - 1) * 2 ^ (k % 4 * 2) % 256))))) := hK.setCell (fun h => absurd h (by simp)) _
      clear HV HP HO hb hK hall hl HT hold
      go_region
      go_wp2
      go_roundw
      case rel => exact ⟨k + 1, by omega, by go_num, HB.out, HK.out.drew⟩
      case measure => simp [intOf]; omega
    · obtain rfl : k = n := by omega
      have hlk : l.take k = l := List.take_of_length_le (by rw [hn.out]; exact Nat.le_refl _)
      rw [hlk] at hb
      have ht := V.TapeAt.new wr
      have hO0 : ∀ j, j = wr.heap.size → j < (wr.alloc (.cells #[.pointer none, .int .i64 0] 134)).heap.size := fun j e => by subst e; simp
      have hKt := hK.alloc (.cells #[.pointer none, .int .i64 0] 134)
      have hbt := hb.alloc (.cells #[.pointer none, .int .i64 0] 134)
      have hgt : w.heap.size < wr.heap.size := hb.lt
      have HS := Lib.hid (fun w => size_any k (by omega) w)
      have HPL : Hid ((packL l).length = sz k) := by show _ = _; rw [packL_length, hn.out]
      have hz : sz k ≤ 16 := by unfold sz; omega
      have HKN := Lib.hid hk0.out
      have HX : Hid (([] ++ V.encL k) ++ packL l = bytesT l) := by show _ = _; unfold bytesT; rw [hn.out]; rfl
      have HLE := V.encL_len k
      have hwrs : w.heap.size ≤ wr.heap.size := hK.size
      have HLL : Hid (l.length ≤ 64) := by show _ ≤ _; rw [hn.out]; exact h64
      clear hb hK hlk hk0
      go_wp2_with fail
      refine (V.tnumber_any _ wr.heap.size (fun j => j = wr.heap.size) [] k ht hO0 (by decide)).mono ?_
      rintro e w1 ⟨rfl, h1, hk1⟩
      have hb1 := hbt.keep hk1 (fun e => by omega)
      have hK1 : Keep NoB w w1 := hKt.trans hk1 (fun j e hl => by omega)
      have H1 := Lib.hid h1
      clear h1 ht hbt hKt hk1 hO0
      go_wp2_with fail
      refine (V.all_any w1 wr.heap.size _ ([] ++ V.encL k) H1.out (by simp; omega)).mono ?_
      rintro e w2 ⟨v2, rfl, hv2, hk2⟩
      have hb2 := hb1.keep hk2 id
      have hK2 := keepN hK1 hk2
      have hO2 := hv2.mono (O' := Fresh w) (fun j hj _ => by unfold Fresh at hj ⊢; exact Nat.le_trans hK1.size hj)
      obtain ⟨A2, c2, rfl, _⟩ := hO2.form
      clear hv2 hb1 hK1 H1 hk2
      go_wp2_with fail
      refine (HS.out _).mono ?_
      rintro e w3 ⟨rfl, rfl⟩
      have hrd := arrV_rd hb2 HKN.out HLL.out
      have hf2 := fun i => hb2.frozen i
      have hcell : ∀ i, w2.cell? ⟨w.heap.size, i, none⟩ = (arrV l)[i]? := fun i => by rw [hb2.cell]; simp
      have hlen : ([] ++ V.encL k : List UInt8).length = (V.encL k).length := rfl
      obtain ⟨z, hzz⟩ : ∃ z, sz k = z := ⟨_, rfl⟩
      rw [hzz] at HPL hz ⊢
      have hsl := slice_arr w2 w.heap.size z hz
      go_wp2_with (at_builtin; refine V.wpList_append_rd _ rfl _ _ rfl _ ([] ++ V.encL k) (packL l) (some ⟨w.heap.size, 0, none⟩) 16 rfl hO2.1 (by rw [HPL.out]; rfl) hrd (by rw [HPL.out]; simp; omega) ?_; intro v5 w5 hown hg hat; obtain ⟨hO3, hK3⟩ := own_app hO2 hK2 hown hg hat; rw [HX.out] at hO3; clear hown hg hat)
      go_ret
      exact ⟨_, rfl, hO3, hK3⟩

end Go.Proofs.YtgifflfjhockaaaGreatDoor.S

namespace Go.Proofs.YtgifflfjhockaaaGreatDoor.S
open Go.RowKit W

theorem rd_byte (w : World) (E : TypeId) (x : Nat) (h : x < 256) : V.Rd (w.alloc (.cells #[.int .u8 (x : Int)] E)) (some ⟨w.heap.size, 0, none⟩) [UInt8.ofNat x] := fun _ => ⟨_, rfl, fun j u hu => by
  cases j with
  | zero =>
    simp only [List.map_cons, List.map_nil, List.getElem?_cons_zero, Option.some.injEq] at hu
    rw [← hu]
    show (w.alloc _).cell? (Addr.add ⟨w.heap.size, 0, none⟩ 0) = some (V.bv (UInt8.ofNat x))
    have e : (⟨w.heap.size, 0, none⟩ : Addr).add 0 = ⟨w.heap.size, 0, none⟩ := by unfold Addr.add; simp
    rw [e, (Blk.new w E #[.int .u8 (x : Int)]).cell 0]
    simp only [V.bv]
    rw [UInt8.toNat_ofNat', Nat.mod_eq_of_lt h]
    rfl
  | succ j => simp at hu⟩
theorem packL_step (l : List Int) (q : Nat) (h : q < sz l.length) : (packL l).take (q + 1) = (packL l).take q ++ [UInt8.ofNat (packN l q)] := by
  have h2 : q < (packL l).length := by rw [packL_length]; exact h
  rw [List.take_succ_eq_append_getElem h2]
  have := packL_at l q h
  rw [List.getElem?_eq_getElem h2] at this
  injection this with this
  rw [this]
theorem dig_step {l : List Int} {q j : Nat} (hk : 4 * q + j < l.length) : dig ((l.drop (4 * q)).take (j + 1)) = dig ((l.drop (4 * q)).take j) + (l[4 * q + j] - 1).toNat * 4 ^ j := by
  have h2 : j < (l.drop (4 * q)).length := by rw [List.length_drop]; omega
  rw [List.take_succ_eq_append_getElem h2, dig_snoc, List.getElem_drop, List.length_take]
  rw [Nat.min_eq_left (by omega)]
theorem dig_last {l : List Int} {q j : Nat} (h : j = 4 ∨ 4 * q + j = l.length) (hj : j ≤ 4) : dig ((l.drop (4 * q)).take j) = packN l q := by
  unfold packN
  rcases h with rfl | h
  · rfl
  · rw [List.take_of_length_le (by rw [List.length_drop]; omega), List.take_of_length_le (by rw [List.length_drop]; omega)]
theorem dig_lt4 {l : List Int} (hk : l.all knownB = true) (q j : Nat) (hj : j ≤ 4) : dig ((l.drop (4 * q)).take j) < 256 := by
  have h1 := dig_lt _ (all_sub hk (4 * q) j)
  have h2 : 4 ^ ((l.drop (4 * q)).take j).length ≤ 4 ^ 4 := Nat.pow_le_pow_right (by omega) (by simp; omega)
  omega
theorem pow4 {j : Nat} (h : j ≤ 3) : 4 ^ j ≤ 64 := by
  have : (4 : Nat) ^ j ≤ 4 ^ 3 := Nat.pow_le_pow_right (by omega) h
  omega

set_option maxRecDepth 100000 in
set_option maxHeartbeats 4000000 in
theorem rtypesB_any (A : Option Addr) (l : List Int) (n c : Nat) (w : World) (hr : Rd w A (ivs l)) (hn : Hid (l.length = n)) (hk0 : Hid (l.all knownB = true)) (h64 : n ≤ 64) :
    Calls Tryz.prog 81 #[.slice A n c] w fun e w' => ∃ v, e = .returned v ∧ V.OwnB w' (Fresh w) v (bytesT l) ∧ Keep NoB w w' := by
  have HLE := V.encL_len n
  have HS : Hid ((packL l).length = sz n) := by show _ = _; rw [packL_length, hn.out]
  have HX : Hid (V.encL n ++ packL l = bytesT l) := by show _ = _; unfold bytesT; rw [hn.out]
  go_enter Tryz.func81, Tryz.ntmps81
  go_wp2_with fail
  refine (V.refnum_any n _ (by show n < _; omega)).mono ?_
  rintro e w1 ⟨v1, rfl, hO1, k1⟩
  go_wp2
  go_loopw [3, 4] (fun v i wr => ∃ q : Nat, q ≤ sz n ∧ i = .int .i64 ((4 * q : Nat) : Int) ∧ V.OwnB wr (Fresh w) v (V.encL n ++ (packL l).take q) ∧ Keep NoB w wr) (fun _ i _ => n + 4 - (intOf i).toNat)
  case atStart => exact ⟨0, Nat.zero_le _, rfl, by simpa using hO1, k1⟩
  case round =>
    clear hO1 k1
    obtain ⟨q, hq, rfl, hO, hK⟩ := hrel
    by_cases hlt : 4 * q < n
    · have hq2 : q < sz n := by unfold sz; omega
      have hr2 := hr.keepN hK
      have HP := Lib.hid (packL_step l q (by rw [hn.out]; exact hq2))
      have HD : Hid (∀ j, j = 4 ∨ 4 * q + j = n → j ≤ 4 → dig ((l.drop (4 * q)).take j) = packN l q) := fun j h hj => dig_last (by rw [hn.out]; exact h) hj
      obtain ⟨q4, hq4⟩ : ∃ q4, 4 * q = q4 := ⟨_, rfl⟩
      have HQ := Lib.hid hq4
      rw [hq4] at hlt ⊢
      go_wp2
      go_loop [5, 6, 7] (fun a p k => ∃ j pl acc : Nat, j ≤ 4 ∧ q4 + j ≤ n ∧ k = .int .i64 ((q4 + j : Nat) : Int) ∧ p = .int .i64 (pl : Int) ∧ a = .int .i64 (acc : Int) ∧ Hid (pl = 4 ^ j ∧ acc = dig ((l.drop (4 * q)).take j))) (fun _ _ k => n + 4 - (intOf k).toNat)
      case atStart => exact ⟨0, 1, 0, by omega, by omega, by simp, rfl, rfl, rfl, rfl⟩
      case round =>
        obtain ⟨j, pl, acc, hj, hjn, rfl, rfl, rfl, HV⟩ := hrel
        have hacc : acc < 256 := by rw [HV.out.2]; exact dig_lt4 hk0.out q j hj
        by_cases hgo : j < 4 ∧ q4 + j < n
        · obtain ⟨hj4, hjn4⟩ := hgo
          have hka : 4 * q + j < l.length := by rw [hn.out, hq4]; exact hjn4
          obtain ⟨ga, oa, rfl, hca⟩ := rdI_at hr2 (by omega)
          have ca : wr.cell? ⟨ga, oa + (q4 + j), none⟩ = some (.int .i64 l[4 * q + j]) := by rw [← hq4]; exact hca _ hka
          obtain ⟨ht1, ht4⟩ := known_val hk0.out hka
          have HT := Lib.hid (dig_step hka)
          have hpl : pl ≤ 64 := by rw [HV.out.1]; exact pow4 (by omega)
          generalize l[4 * q + j] = x at ca HT ht1 ht4
          obtain ⟨y, rfl⟩ : ∃ y : Nat, x = (y : Int) + 1 := ⟨(x - 1).toNat, by omega⟩
          have hmul : ((pl : Int) * ((y : Int) + 1 - 1)) = ((pl * y : Nat) : Int) := by rw [show ((y : Int) + 1 - 1) = (y : Int) by omega]; push_cast; rfl
          have hmul2 : ((pl : Int) * (y : Int)) = ((pl * y : Nat) : Int) := by push_cast; rfl
          have hm : pl * y ≤ 192 := by
            have := Nat.mul_le_mul hpl (show y ≤ 3 by omega)
            omega
          have HV2 : Hid (pl * 4 = 4 ^ (j + 1) ∧ acc + pl * y = dig ((l.drop (4 * q)).take (j + 1))) := by
            refine ⟨by rw [HV.out.1, Nat.pow_succ], ?_⟩
            rw [HT.out, ← HV.out.2, ← HV.out.1, show ((y : Int) + 1 - 1).toNat = y by omega, Nat.mul_comm]
          generalize pl * y = m at hmul hmul2 hm HV2
          clear hca HT HV hr hr2
          go_wp2
          go_round
          case rel => exact ⟨j + 1, pl * 4, acc + m, by omega, by omega, by go_num, by go_num, by go_num, HV2⟩
          case measure => simp [intOf]; omega
        · have hstop : j = 4 ∨ q4 + j = n := by omega
          have HA : Hid (acc = packN l q) := by show _ = _; rw [HV.out.2]; exact HD.out j (by rw [hq4]; exact hstop) hj
          clear HV
          have hO4 := hO.keep ((Keep.refl NoB wr).alloc (.cells #[.int .u8 (acc : Int)] 5)) (fun _ _ => id)
          have hK4 := hK.alloc (.cells #[.int .u8 (acc : Int)] 5)
          have hrd := rd_byte wr 5 acc hacc
          have hql : (V.encL n ++ (packL l).take q).length + 1 ≤ 140737488355328 := by
            rw [List.length_append, List.length_take, HS.out]; unfold sz; omega
          have HX2 : Hid ((V.encL n ++ (packL l).take q) ++ [UInt8.ofNat acc] = V.encL n ++ (packL l).take (q + 1)) := by show _ = _; rw [HP.out, HA.out, List.append_assoc]
          clear HP HD hr2 hr
          rcases hstop with rfl | hstop
          · go_wp2_with (at_builtin; refine V.wpList_append_rd _ rfl _ _ rfl _ (V.encL n ++ (packL l).take q) [UInt8.ofNat acc] (some ⟨wr.heap.size, 0, none⟩) 1 rfl hO4.1 rfl hrd hql ?_; intro v5 w5 hown hg hat; obtain ⟨hO5, hK5⟩ := own_app hO4 hK4 hown hg hat; rw [HX2.out] at hO5; clear hown hg hat)
            all_goals
              go_roundw
              case rel => exact ⟨q + 1, by omega, by rw [← HQ.out]; go_num, hO5, hK5⟩
              case measure => simp [intOf]; omega
          · go_wp2_with (at_builtin; refine V.wpList_append_rd _ rfl _ _ rfl _ (V.encL n ++ (packL l).take q) [UInt8.ofNat acc] (some ⟨wr.heap.size, 0, none⟩) 1 rfl hO4.1 rfl hrd hql ?_; intro v5 w5 hown hg hat; obtain ⟨hO5, hK5⟩ := own_app hO4 hK4 hown hg hat; rw [HX2.out] at hO5; clear hown hg hat)
            all_goals
              go_roundw
              case rel => exact ⟨q + 1, by omega, by rw [← HQ.out]; go_num, hO5, hK5⟩
              case measure => simp [intOf]; omega
    · obtain rfl : q = sz n := by unfold sz at hq ⊢; omega
      rw [List.take_of_length_le (by rw [HS.out]; exact Nat.le_refl _), HX.out] at hO
      go_wp2
      go_ret
      exact ⟨_, rfl, hO, hK⟩

end Go.Proofs.YtgifflfjhockaaaGreatDoor.S

namespace Go.Proofs.YtgifflfjhockaaaGreatDoor.S
open Go.RowKit W

/-- What is answered. -/
def encS (l : List Int) : List UInt8 := if okS l = true then bytesT l else []
def encG (a r : List Int) : List UInt8 := if okG a r = true then bytesG a r else []
theorem encS_ok {l : List Int} (h : okS l = true) : encS l = bytesT l := if_pos h
theorem encS_no {l : List Int} (h : okS l = false) : encS l = [] := if_neg (by rw [h]; decide)
theorem encG_ok {a r : List Int} (h : okG a r = true) : encG a r = bytesG a r := if_pos h
theorem encG_no {a r : List Int} (h : okG a r = false) : encG a r = [] := if_neg (by rw [h]; decide)
def EncR (w : World) (xs : List UInt8) (E : Int) (e : Ending) (w' : World) : Prop := ∃ v, e = .returned (.tuple #[v, .int .i64 E]) ∧ V.OwnB w' (Fresh w) v xs ∧ Keep NoB w w'
/-- New bytes. -/
def BtV (w0 : World) (xs : List UInt8) (v : Value) (w : World) : Prop := V.OwnB w (Fresh w0) v xs
theorem BtV.stable (w0 : World) (xs : List UInt8) (v : Value) : StableI (BtV w0 xs v) := fun _ _ h hk => V.OwnB.keep h hk (fun _ _ => id)
theorem bytesT_len (l : List Int) (h : l.length ≤ 64) : (bytesT l).length ≤ 25 := by
  have := V.encL_len l.length
  unfold bytesT
  rw [List.length_append, packL_length]
  unfold sz; omega

set_option maxRecDepth 100000 in
set_option maxHeartbeats 2000000 in
theorem encodeS_any (A : Option Addr) (l : List Int) (na c : Nat) (w : World) (hr : Rd w A (ivs l)) (hn : Hid (l.length = na)) (hm : na ≤ 9223372036854775807) :
    Calls Tryz.prog 73 #[.slice A na c] w (EncR w (encS l) (chkS l)) := by
  cases ho : okS l
  · have HC := Lib.hid (fun w hr => chkS_any A l na c w hr hn hm 60 (chkS_no ho))
    rw [encS_no ho, chkS_no ho]
    clear ho
    go_enter Tryz.func73, Tryz.ntmps73
    go_wp2_with (go_at_call 72; refine (HC.out _ hr).mono ?_; rintro e w1 ⟨rfl, k1⟩)
    go_ret2
    exact ⟨_, rfl, V.OwnB.nil _ _, k1⟩
  · have HC := Lib.hid (fun w hr => chkS_any A l na c w hr hn hm 0 (chkS_ok ho))
    have ho2 := (okS_iff l).1 ho
    have HP := Lib.hid (fun w hr => packS_any A l na c w hr hn (all_known ho2.2) (by rw [← hn.out]; omega))
    rw [encS_ok ho, chkS_ok ho]
    clear ho ho2
    go_enter Tryz.func73, Tryz.ntmps73
    go_wp2_with fail
    refine (HC.out _ hr).mono ?_
    rintro e w1 ⟨rfl, k1⟩
    go_wp2_with fail
    refine (HP.out _ (hr.keepN k1)).mono ?_
    rintro e w2 ⟨v, rfl, hO, k2⟩
    go_wp2
    go_ret2
    exact ⟨_, rfl, hO.mono (fun j hj _ => Nat.le_trans k1.size hj), keepN k1 k2⟩

set_option maxRecDepth 100000 in
set_option maxHeartbeats 4000000 in
theorem encodeG_any (A : Option Addr) (a : List Int) (na ca : Nat) (B : Option Addr) (r : List Int) (nb cb : Nat) (w : World) (ha : Rd w A (ivs a)) (hr : Rd w B (ivs r)) (hna : Hid (a.length = na)) (hnb : Hid (r.length = nb)) (hn6 : na ≤ 4611686018427387903) (hm6 : nb ≤ 4611686018427387903) :
    Calls Tryz.prog 129 #[.agg #[.slice A na ca, .slice B nb cb]] w (EncR w (encG a r) (chkG a r)) := by
  have bx := Blk.new w 57 #[.slice A na ca, .slice B nb cb]
  have k0 := (Keep.refl NoB w).alloc (.cells #[.slice A na ca, .slice B nb cb] 57)
  cases ho : okG a r
  · have HC := Lib.hid (fun w ha hr => chkG_any A a na ca B r nb cb w ha hr hna hnb hn6 hm6 61 (chkG_no ho))
    rw [encG_no ho, chkG_no ho]
    clear ho
    go_enter Tryz.func129, Tryz.ntmps129
    go_wp2_with (go_at_call 122; refine (HC.out _ (ha.keepN k0) (hr.keepN k0)).mono ?_; rintro e w1 ⟨rfl, k1⟩)
    go_ret2
    exact ⟨_, rfl, V.OwnB.nil _ _, keepN k0 k1⟩
  · have HC := Lib.hid (fun w ha hr => chkG_any A a na ca B r nb cb w ha hr hna hnb hn6 hm6 0 (chkG_ok ho))
    obtain ⟨o1, o2, o3⟩ := (okG_iff a r).1 ho
    have HPa := Lib.hid (fun w hr => packI_any A a na ca w hr hna o2 (by rw [← hna.out]; omega))
    have HPb := Lib.hid (fun w hr => packI_any B r nb cb w hr hnb (all_known o3) (by rw [← hnb.out]; omega))
    have HLa := Lib.hid (bytesT_len a (by omega))
    have HLb := Lib.hid (bytesT_len r (by omega))
    rw [encG_ok ho, chkG_ok ho]
    clear ho o1 o2 o3
    go_enter Tryz.func129, Tryz.ntmps129
    go_wp2_with fail
    refine (HC.out _ (ha.keepN k0) (hr.keepN k0)).mono ?_
    rintro e w2 ⟨rfl, k1⟩
    obtain ⟨c0, c1⟩ := blk2 (bx.keep k1 id)
    have gK := keepN k0 k1
    have ha2 := ha.keepN gK
    have hr2 := hr.keepN gK
    clear bx k0 k1 ha hr HC
    go_wp2
    refine wp_region_neck 6 #[true, true, true, true, true, true, false, false, false] ((0, false) :: (1, false) :: (3, false) :: (4, false) :: (2, true) :: (5, true) :: []) (fun w' => Keep NoB w2 w') (by kernel_rfl) (by kernel_rfl) (stable_keep w2) (Keep.refl NoB w2).drew ?_
    refine shM_step rfl rfl rfl (by rfl) (by rfl) ?_
    apply Exists.intro
    refine ⟨fun z K hK => ?_, ?_, ?_⟩
    · go_big_quiet_op
      exact hK _ rfl
    · kernel_rfl
    refine shM_step rfl rfl rfl (by rfl) (by rfl) ?_
    apply Exists.intro
    refine ⟨fun z K hK => ?_, ?_, ?_⟩
    · have d0 : ∀ y : KW z.w, y.w.cell? ⟨w.heap.size, 0, none⟩ = some (.slice A na ca) := fun y => Keep.cell (keepN z.has y.keep) c0 id
      go_big_quiet_op
      exact hK _ rfl
    · kernel_rfl
    refine shM_step rfl rfl rfl (by rfl) (by rfl) ?_
    apply Exists.intro
    refine ⟨fun z K hK => ?_, ?_, ?_⟩
    · go_big_quiet_op
      exact hK _ rfl
    · kernel_rfl
    refine shM_step rfl rfl rfl (by rfl) (by rfl) ?_
    apply Exists.intro
    refine ⟨fun z K hK => ?_, ?_, ?_⟩
    · have d1 : ∀ y : KW z.w, y.w.cell? ⟨w.heap.size, 1, none⟩ = some (.slice B nb cb) := fun y => Keep.cell (keepN z.has y.keep) c1 id
      go_big_quiet_op
      exact hK _ rfl
    · kernel_rfl
    refine shM_gen rfl rfl (by kernel_rfl) (BtV w2 (bytesT a)) (BtV.stable _ _) (fun z => ?_) (fun v1 => ?_)
    · unfold yieldsK
      go_simp
      exact (HPa.out _ (ha2.keepN z.has)).mono fun _ _ ⟨v, he, hO, hk⟩ => ⟨v, he, hO.mono (fun j hj _ => Nat.le_trans (Keep.size z.has) hj), hk⟩
    simp only [Act.put, List.setIfInBounds_toArray, List.set_cons_zero, List.set_cons_succ]
    refine shM_gen rfl rfl (by kernel_rfl) (BtV w2 (bytesT r)) (BtV.stable _ _) (fun z => ?_) (fun v2 => ?_)
    · unfold yieldsK
      go_simp
      exact (HPb.out _ (hr2.keepN z.has.1)).mono fun _ _ ⟨v, he, hO, hk⟩ => ⟨v, he, hO.mono (fun j hj _ => Nat.le_trans (Keep.size z.has.1) hj), hk⟩
    simp only [Act.put, List.setIfInBounds_toArray, List.set_cons_zero, List.set_cons_succ]
    refine shM_nil (fun q => ?_)
    obtain ⟨⟨hq, hO1⟩, hO2⟩ := q.has
    obtain ⟨A2, c2, rfl, hr5, _⟩ := own_rd hO2
    have hKq := keepN gK hq
    have hO1w : V.OwnB q.w (Fresh w) v1 (bytesT a) := V.OwnB.mono hO1 (fun j hj _ => Nat.le_trans gK.size hj)
    refine wpAny_neck (f := 2) (i := 6) (by kernel_rfl) rfl (by kernel_rfl) ?_
    refine V.wp_append_rd q.w (.tmp 12) (.tmp 15) rfl v1 (bytesT a) (bytesT r) A2 c2 (by rfl) hO1w.1 (by rfl) hr5 (by have := HLa.out; have := HLb.out; omega) ?_
    intro v5 w5 hown hg hat
    obtain ⟨hO5, hK5⟩ := own_app hO1w hKq hown hg hat
    simp only [Act.put, List.setIfInBounds_toArray, List.set_cons_zero, List.set_cons_succ]
    refine wpAny_behind ((7, false) :: (8, false) :: []) (fun w' => Keep NoB w5 w') (by kernel_rfl) (by rfl) (by kernel_rfl) (stable_keep w5) (Keep.refl NoB w5) ?_
    refine shM_step rfl rfl rfl (by rfl) (by rfl) ?_
    apply Exists.intro
    refine ⟨fun z K hK => ?_, ?_, ?_⟩
    · go_big_quiet_op
      exact hK _ rfl
    · kernel_rfl
    refine shM_step rfl rfl rfl (by rfl) (by rfl) ?_
    apply Exists.intro
    refine ⟨fun z K hK => ?_, ?_, ?_⟩
    · go_big_quiet_op
      exact hK _ rfl
    · kernel_rfl
    refine shM_nil (fun z => ?_)
    have hz := z.has
    generalize z.w = w6 at hz ⊢
    go_wp2
    go_ret2
    exact ⟨_, rfl, hO5.keep hz (fun _ _ => id), keepN hK5 hz⟩

end Go.Proofs.YtgifflfjhockaaaGreatDoor.S

namespace Go.Proofs.YtgifflfjhockaaaGreatDoor
open Go.RowKit Go.Shelf

section
variable {P : Program} {n : Nat}

theorem Keep.grows {W W' : World} (h : Keep NoB W W') : W.grownBy W' none := ⟨h.os, h.tape, h.output, h.size, fun k hk _ => h.block k hk id⟩
theorem ownFrom_keeps {β : Type} {B : Nat} {I : β → World → Prop} (hI : OwnFrom B I) {s : β} {W W' : World} (h : I s W) (hk : Keep NoB W W') : I s W' := hI s W W' none h hk.grows (fun r e => by cases e)
theorem keepsFrom_keep {B : Nat} {W W' : World} (hk : Keep NoB W W') : KeepsFrom B W W' := ⟨hk.size, fun k _ _ h _ => (hk.block k (Array.getElem?_eq_some_iff.1 h).1 id).trans h⟩

/-- One round, out of the walks of the assignments and of the body, if the body comes to its end. -/
theorem yieldAt_end {L m : Nat} {r : Loop} {args : Array Value} {W : World} {R : World → Prop} (hl : W.heap[L]? = some (.loop r)) (hr : r.state = .ready) (hp : r.pending = none) (hs : args.size = r.params.size)
    (h : r.assign.wpIn (Fence.wide.inRound L) m P (Exit.then (fun a₁ W₁ => W₁.heap[L]? = some (.loop r) ∧
        r.body.wpIn (Fence.wide.inRound L) m P (fun e _ W₃ => e = .normal ∧ W₃.heap[L]? = some (.loop { r with state := .busy }) ∧ R (W₃.putObj L (.loop r))) a₁ (W₁.putObj L (.loop { r with state := .busy })))
        (fun _ _ _ => False)) { tmps := (r.params.zip args).foldl (fun t (p, v) => t.setIfInBounds p v) r.tmps, defers := [] } W) :
    YieldAt Fence.wide m P L args W fun e W' => e = .returned (.bool true) ∧ R W' := by
  refine ⟨r.fn, _, r.assign, r.body, run_yield hl hs, roundIn_of_wpIn trivial (wpIn_mono h ?_)⟩
  intro e a₁ W₁ hq
  cases e with
  | normal =>
    obtain ⟨h1, h2⟩ := hq
    refine ⟨_, run_beginRound h1 hr, wpIn_mono h2 ?_⟩
    rintro e₃ a₃ W₃ ⟨rfl, h3, h4⟩
    refine ⟨_, _, run_endRound none h3, rfl, ?_⟩
    have hb : ({ r with state := .busy } : Loop) = { r with state := .busy } := rfl
    have he : ({ ({ r with state := .busy } : Loop) with state := if (none : Option Code).isNone then LoopState.ready else .done, pending := none } : Loop) = r := by
      cases r; simp_all
    rw [he]; exact h4
  | exit id => exact hq
  | goto t => exact hq
  | ret => exact hq
  | panic c => exact hq
  | outgrown => exact hq

/-- What is asked of the iterator. -/
def Brings {α : Type} (P : Program) (m k : Nat) (gf : Nat) (lb : Array Value) (encs : α → Array Value) (I : List α → World → Prop) (En : List α → α → World → Prop) (S : List α → Prop) : Prop :=
  ∀ (L : Nat) (J : List α → World → Prop), (∀ pre W W', J pre W → Keep NoB W W' → J pre W') → (∀ pre W, J pre W → I pre W) →
    (∀ pre x W, J pre W → En pre x W → YieldAt Fence.wide m P L (encs x) W fun e W' => e = .returned (.bool true) ∧ J (pre ++ [x]) W') →
    ∀ W, J [] W → CallsIn Fence.wide k P gf (#[.func (.yield L) #[] #[]] ++ lb) W fun e W' => (∃ v, e = .returned v) ∧ ∃ xs, S xs ∧ J xs W'

theorem wpIn_rangeFunc_brings {α : Type} {g : Operand} {ps : Array Tmp} {assign body : Code} {Q : Exit → Act → World → Prop} {a : Act} {w : World} {m : Nat}
    {gf : Nat} {lb : Array Value} (hg : a.eval g = .func (.func gf) #[] lb) (eg : ∀ args w, (callFunc gf args).run P w = .ok (.enter gf args) w)
    {encs : α → Array Value} {I : List α → World → Prop} {En : List α → α → World → Prop} {S : List α → Prop} (hit : Brings P m (n - 1) gf lb encs I En S) (hps : ∀ x, (encs x).size = ps.size)
    (hI : OwnFrom w.heap.size I) (h0 : I [] w) (Ax : List α → α → Act → World → Prop) (hAx : ∀ pre x a', OwnFrom w.heap.size (fun (_ : Unit) W => Ax pre x a' W))
    (hassign : ∀ (l : Nat) (pre : List α) (x : α) (W : World), I pre W → En pre x W →
      assign.wpIn (Fence.wide.inRound l) m P (Exit.then (fun a' W' => Ax pre x a' W' ∧ KeepsFrom w.heap.size W W') (fun _ _ _ => False)) { tmps := (ps.zip (encs x)).foldl (fun t (p, v) => t.setIfInBounds p v) a.tmps, defers := [] } W)
    (hbody : ∀ (l : Nat) (pre : List α) (x : α) (a' : Act) (W : World), Ax pre x a' W → body.wpIn (Fence.wide.inRound l) m P (fun e _ W' => e = .normal ∧ I (pre ++ [x]) W' ∧ KeepsFrom w.heap.size W W') a' W)
    (hdone : ∀ (D : Nat) (xs : List α) (W : World), w.heap.size ≤ D → S xs → I xs W → W.heap[D]? = some (.deferred (some [])) → Q .normal { a with defers := { target := .collected D, args := #[] } :: a.defers } W) :
    (Code.rangeFunc g ps assign body).wpIn Fence.wide n P Q a w := by
  refine wpIn_rangeFunc fun fn _ => ?_
  obtain ⟨r, hr⟩ : ∃ r : Loop, r = { state := .ready, pending := none, fn, tmps := a.tmps, params := ps, assign, body, defers := w.heap.size } := ⟨_, rfl⟩
  obtain ⟨W1, hW1⟩ : ∃ W1, (w.alloc (.deferred (some []))).alloc (.loop r) = W1 := ⟨_, rfl⟩
  have hL1 : W1.heap[w.heap.size + 1]? = some (.loop r) := by
    rw [← hW1]; have := World.alloc_heap_new (w.alloc (.deferred (some []))) (.loop r); rwa [World.size_alloc] at this
  have hD1 : W1.heap[w.heap.size]? = some (.deferred (some [])) := by
    rw [← hW1]; exact (Below.heap_alloc _ _ _ (by simp)).trans (World.alloc_heap_new w _)
  refine ⟨w.heap.size + 1, [{ target := .collected w.heap.size, args := #[] }], W1, { target := .fn (.func gf) lb, args := #[.func (.yield (w.heap.size + 1)) #[] #[]] }, W1, gf,
    #[.func (.yield (w.heap.size + 1)) #[] #[]] ++ lb, W1, ?_, ?_, fun _ _ => trivial, ?_, (fun h => by cases h), ?_⟩
  · rw [← hW1, hr]; exact run_enterLoop_outer _ _ _ _ _
  · simp only [resolve, hg]
    simp [go_sem]
  · simp [invoke, go_sem, eg]
  refine (hit (w.heap.size + 1) (fun pre W => I pre W ∧ W.heap[w.heap.size + 1]? = some (.loop r) ∧ W.heap[w.heap.size]? = some (.deferred (some []))) ?_ (fun _ _ h => h.1) ?_ W1 ⟨by rw [← hW1]; exact hI.alloc _ (hI.alloc _ h0), hL1, hD1⟩).mono ?_
  · rintro pre W W' ⟨h1, h2, h3⟩ hk
    exact ⟨ownFrom_keeps hI h1 hk, (hk.block _ (Array.getElem?_eq_some_iff.1 h2).1 id).trans h2, (hk.block _ (Array.getElem?_eq_some_iff.1 h3).1 id).trans h3⟩
  · clear hL1 hW1 hD1
    subst hr
    rintro pre x W ⟨h1, h2, h3⟩ hen
    refine yieldAt_end h2 rfl rfl (hps x) ?_
    have ha := hassign (w.heap.size + 1) pre x W h1 hen
    refine wpIn_mono ha ?_
    intro e a₁ Wa hq
    cases e with
    | normal =>
      obtain ⟨hax, hka⟩ := hq
      have l2 := hka.same _ _ (by omega) h2 rfl
      have d2 := hka.same _ _ (Nat.le_refl _) h3 rfl
      refine ⟨l2, ?_⟩
      have lt2 := (Array.getElem?_eq_some_iff.1 l2).1
      refine wpIn_mono (hbody _ pre x a₁ _ ((hAx pre x a₁).putObj (s := ()) _ hax (by omega) l2 rfl)) ?_
      rintro e₃ a₃ W₃ ⟨rfl, h4, h5⟩
      have l3 := h5.same (w.heap.size + 1) _ (by omega) (World.putObj_heap_same lt2) rfl
      have d3 := h5.same w.heap.size _ (Nat.le_refl _) ((World.putObj_heap_other (by omega)).trans d2) rfl
      refine ⟨rfl, l3, hI.putObj _ h4 (by omega) l3 rfl, World.putObj_heap_same (Array.getElem?_eq_some_iff.1 l3).1, (World.putObj_heap_other (by omega)).trans d3⟩
    | exit id => exact hq
    | goto t => exact hq
    | ret => exact hq
    | panic c => exact hq
    | outgrown => exact hq
  · rintro e W2 ⟨⟨v, rfl⟩, xs, hS, h1, h2, h3⟩
    have hp : r.pending = none := by rw [hr]
    exact ⟨none, _, by have := run_endLoop (P := P) h2 (by rw [hr]; simp); rw [hp] at this; exact this, hdone _ xs _ (Nat.le_refl _) hS (hI.putObj _ h1 (by omega) h2 rfl) ((World.putObj_heap_other (by omega)).trans h3)⟩
end
end Go.Proofs.YtgifflfjhockaaaGreatDoor
