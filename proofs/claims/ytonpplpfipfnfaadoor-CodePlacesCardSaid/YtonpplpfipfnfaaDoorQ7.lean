/-
  A region that draws its order and has a neck: an operation that waits for all ahead of it, and for which all behind it wait. What lies ahead is walked in an order of one's own choice (KMix); then the neck comes up alone, and may write what was made. No program, no conditions.
  What Insert of layer code answers: a new body with one more, or ErrCode. Conditions: the list lies in memory.
  What Delete of layer code answers: a new body without one, or ErrCode. Conditions: the list lies in memory.
-/
import Derived.IntWalk
import Derived.StillTail
import Derived.Test.YtonpplpfipfnfaaDoorQ3
import Derived.Test.YtonpplpfipfnfaaDoorQ6
namespace Go.Proofs.YtonpplpfipfnfaaDoor
open Go.RowKit

section
variable {P : Program} {ops : Array Oper} {md : Region.Mode}

/-- Behind number n each waits for one behind, or for it. -/
def chain2 (md : Region.Mode) (ops : Array Oper) (n : Nat) : Bool := (List.range ops.size).all fun t => decide (t ≤ n) || (List.range t).any fun j => decide (n ≤ j) && Region.waitsFor md ops t j

theorem head_only {n : Nat} {listed : Array Bool} (hs : Region.sinkB md ops n = true) (hc : chain2 md ops n = true) (inv : HeadInv md ops n listed) :
    ∀ (d i : Nat), n - i = d → i < n → listed.getD i true = false → ∀ t, t ∈ Region.ready md ops listed → t < n := by
  intro d
  induction d using Nat.strongRecOn with
  | _ d ih =>
    intro i hd hi hu t ht
    obtain ⟨htu, ot, hot, hall⟩ := mem_ready.1 ht
    have hts : t < ops.size := (Array.getElem?_eq_some_iff.1 hot).1
    rcases Nat.lt_trichotomy t n with h | h | h
    · exact h
    · subst h
      have h1 := List.all_eq_true.1 hs i (List.mem_range.2 hi)
      obtain ⟨j, hj, hjb⟩ := List.any_eq_true.1 h1
      simp only [Bool.and_eq_true, decide_eq_true_eq] at hjb
      have hjn : j ≤ t := by have := List.mem_range.1 hj; omega
      obtain ⟨oj, hoj, e, he, heb, heo⟩ := Region.waitsFor_spec hjb.2
      by_cases hjt : j = t
      · subst hjt
        obtain rfl : oj = ot := Option.some.inj (hoj.symm.trans hot)
        have := hall e he heb
        rw [heo, getD_both hu] at this; cases this
      · refine ih (t - j) (by omega) j rfl (by omega) (getD_in (by rw [inv.size]; omega) ?_) t ht
        cases hl : listed.getD j false
        · rfl
        · have := inv.closed j oj hoj hl e he heb
          rw [heo, getD_both hu] at this; cases this
    · have h1 := List.all_eq_true.1 hc t (List.mem_range.2 hts)
      simp only [Bool.or_eq_true, decide_eq_true_eq] at h1
      rcases h1 with h1 | h1
      · omega
      · obtain ⟨j, hj, hjb⟩ := List.any_eq_true.1 h1
        simp only [Bool.and_eq_true, decide_eq_true_eq] at hjb
        obtain ⟨oj, hoj, e, he, heb, heo⟩ := Region.waitsFor_spec hjb.2
        obtain rfl : oj = ot := Option.some.inj (hoj.symm.trans hot)
        have h2 := hall e he heb
        have := List.mem_range.1 hj
        rw [heo, getD_both (inv.tail j hjb.1 (by omega))] at h2; cases h2

/-- Whatever order is picked, up to the neck. -/
def wpAnyC (P : Program) (md : Region.Mode) (ops : Array Oper) (n : Nat) (L : Array Bool → Kont) : Nat → Array Bool → Act → (World → Prop) → Prop
  | 0, listed, a, I => L listed a I
  | fuel + 1, listed, a, I => Region.ready md ops listed ≠ [] ∧ ∀ i ∈ Region.ready md ops listed, i < n ∧ mOp P ops true i (wpAnyC P md ops n L fuel (listed.setIfInBounds i true)) a I

theorem wpAny_of_C {n g : Nat} {L : Array Bool → Kont} {Q' : Exit → Act → World → Prop} (hL : ∀ listed a I w, I w → L listed a I → wpAny P md ops Q' g listed a w) :
    ∀ (f : Nat) (listed : Array Bool) (a : Act) (I : World → Prop) (w : World), StableI I → I w → wpAnyC P md ops n L f listed a I → wpAny P md ops Q' (f + g) listed a w
  | 0, listed, a, I, w, _, hw, h => by rw [Nat.zero_add]; exact hL _ _ _ _ hw h
  | f + 1, listed, a, I, w, hI, hw, h => by
    rw [show f + 1 + g = (f + g) + 1 by omega]
    exact ⟨fun h0 => absurd h0 h.1, fun i hi => wpOp_of_mOp hI hw (fun a' I' w' hI' hw' hk => wpAny_of_C hL f _ a' I' w' hI' hw' hk) (h.2 i hi).2⟩

theorem wpAnyC_first {n0 : Nat} {L : Array Bool → Kont} (hs : Region.sinkB md ops n0 = true) (hc : chain2 md ops n0 = true) (hL : ∀ listed a I, L listed a I → ∀ j ∈ Region.ready md ops listed, n0 ≤ j) {i : Nat} (hin : i < n0) {oi : Oper} {v : Value} (hi : ops[i]? = some oi) (hsel : ∀ (j : Nat) (o : Oper) cs b, ops[j]? = some o → o.op ≠ .select cs b) :
    ∀ (fuel : Nat) (listed : Array Bool) (a : Act) (I : World → Prop), HeadInv md ops n0 listed →
      (∀ j oj, ops[j]? = some oj → j ≠ i → listed.getD j true = false → (∀ e ∈ oj.after, Region.binds md e = true → e.on ≠ i) → oi.apart ops oj = true) →
      i ∈ Region.ready md ops listed → YM P ops oi v a I →
      wpAnyC P md ops n0 L fuel (listed.setIfInBounds i true) (a.put oi.dst v) I → wpAnyC P md ops n0 L (fuel + 1) listed a I := by
  intro fuel
  induction fuel with
  | zero =>
    intro listed a I inv _ hr hy H
    refine ⟨fun h => (by rw [h] at hr; cases hr), fun j hj => ⟨head_only hs hc inv _ i rfl hin (mem_ready.1 hr).1 j hj, ?_⟩⟩
    have hjn := head_only hs hc inv _ i rfl hin (mem_ready.1 hr).1 j hj
    by_cases hji : j = i
    · subst hji; exact hy.mOp hi H
    · have := hL _ _ _ H j (ready_mono hj hji)
      omega
  | succ fuel ih =>
    intro listed a I inv hfree hr hy H
    refine ⟨fun h => (by rw [h] at hr; cases hr), fun j hj => ⟨head_only hs hc inv _ i rfl hin (mem_ready.1 hr).1 j hj, ?_⟩⟩
    have hjn := head_only hs hc inv _ i rfl hin (mem_ready.1 hr).1 j hj
    by_cases hji : j = i
    · subst hji; exact hy.mOp hi H
    · have h1 := (H.2 j (ready_mono hj hji)).2
      obtain ⟨hjun, oj, hoj, hall⟩ := mem_ready.1 hj
      have h2 := mOp_put hoj (hfree j oj hoj hji hjun (not_waits hr hall)) (fun cs b => hsel i oi cs b hi) (fun cs b => hsel j oj cs b hoj) hy h1
      have hfree' : ∀ k ok, ops[k]? = some ok → k ≠ i → (listed.setIfInBounds j true).getD k true = false →
          (∀ e ∈ ok.after, Region.binds md e = true → e.on ≠ i) → oi.apart ops ok = true := fun k ok hk hki hun hno => by
        refine hfree k ok hk hki ?_ hno
        by_cases hjk : j = k
        · subst hjk; exact hjun
        · rw [getD_set_ne true hjk] at hun; exact hun
      refine mOp_mono id (fun a' I' h3 => ih (listed.setIfInBounds j true) a' I' (inv.set hj hjn) hfree' (ready_mono hr (Ne.symm hji)) h3.1 ?_) h2
      rw [Array.setIfInBounds_comm _ _ hji]
      exact h3.2

/-- An operation that makes a block may be taken first, if nothing else but such may come up ahead of it. -/
theorem wpAnyC_make {n0 : Nat} {L : Array Bool → Kont} (hs : Region.sinkB md ops n0 = true) (hc : chain2 md ops n0 = true) (hL : ∀ listed a I, L listed a I → ∀ j ∈ Region.ready md ops listed, n0 ≤ j) {i : Nat} (hin : i < n0) {oi : Oper} (hi : ops[i]? = some oi) (hm : isMake oi = true) (hsel : ∀ (j : Nat) (o : Oper) cs b, ops[j]? = some o → o.op ≠ .select cs b) {mk : Nat → Value} {obj : Obj} :
    ∀ (fuel n : Nat) (listed : Array Bool) (a : Act) (I : World → Prop), HeadInv md ops n0 listed →
      (∀ j oj, ops[j]? = some oj → j ≠ i → listed.getD j true = false → (∀ e ∈ oj.after, Region.binds md e = true → e.on ≠ i) → oi.apart ops oj = true) →
      onlyMakes md ops i n listed = true → i ∈ Region.ready md ops listed → Region.wanted oi (yielded ops a.tmps) = true → Make1 P oi a mk obj →
      (∀ g, wpAnyC P md ops n0 L fuel (listed.setIfInBounds i true) (a.put oi.dst (mk g)) fun w => I w ∧ w.heap[g]? = some obj) → wpAnyC P md ops n0 L (fuel + 1) listed a I := by
  intro fuel
  have own : ∀ (fuel : Nat) (listed : Array Bool) (a : Act) (I : World → Prop), Region.wanted oi (yielded ops a.tmps) = true → Make1 P oi a mk obj →
      (∀ g, wpAnyC P md ops n0 L fuel (listed.setIfInBounds i true) (a.put oi.dst (mk g)) fun w => I w ∧ w.heap[g]? = some obj) → mOp P ops true i (wpAnyC P md ops n0 L fuel (listed.setIfInBounds i true)) a I := by
    intro fuel listed a I hw hk H
    unfold mOp
    simp only [hi, hw, if_true, hm]
    exact ⟨mk, obj, hk, H⟩
  induction fuel with
  | zero =>
    intro n listed a I inv _ _ hr hw hk H
    refine ⟨fun h => (by rw [h] at hr; cases hr), fun j hj => ⟨head_only hs hc inv _ i rfl hin (mem_ready.1 hr).1 j hj, ?_⟩⟩
    have hjn := head_only hs hc inv _ i rfl hin (mem_ready.1 hr).1 j hj
    by_cases hji : j = i
    · subst hji; exact own _ _ _ _ hw hk H
    · have := hL _ _ _ (H 0) j (ready_mono hj hji)
      omega
  | succ fuel ih =>
    intro n listed a I inv hfree hom hr hw hk H
    refine ⟨fun h => (by rw [h] at hr; cases hr), fun j hj => ⟨head_only hs hc inv _ i rfl hin (mem_ready.1 hr).1 j hj, ?_⟩⟩
    have hjn := head_only hs hc inv _ i rfl hin (mem_ready.1 hr).1 j hj
    by_cases hji : j = i
    · subst hji; exact own _ _ _ _ hw hk H
    · obtain ⟨m, rfl⟩ : ∃ m, n = m + 1 := by
        cases n with
        | zero => cases hom
        | succ m => exact ⟨m, rfl⟩
      have hom' := List.all_eq_true.1 hom j hj
      obtain ⟨hjun, oj, hoj, hall⟩ := mem_ready.1 hj
      simp only [beq_iff_eq, hji, Bool.or_eq_true, false_or, hoj, Option.map_some, Option.getD_some, Bool.and_eq_true] at hom'
      obtain ⟨hmj, hom2⟩ := hom'
      have hap := hfree j oj hoj hji hjun (not_waits hr hall)
      obtain ⟨h1, h2, h3⟩ := Oper.apart_spec hap
      have hsi := fun cs b => hsel i oi cs b hi
      have hsj := fun cs b => hsel j oj cs b hoj
      have hfree' : ∀ k ok, ops[k]? = some ok → k ≠ i → (listed.setIfInBounds j true).getD k true = false →
          (∀ e ∈ ok.after, Region.binds md e = true → e.on ≠ i) → oi.apart ops ok = true := fun k ok hk hki hun hno => by
        refine hfree k ok hk hki ?_ hno
        by_cases hjk : j = k
        · subst hjk; exact hjun
        · rw [getD_set_ne true hjk] at hun; exact hun
      have on : ∀ (u : Value) (I' : World → Prop), (∀ g, wpAnyC P md ops n0 L fuel ((listed.setIfInBounds i true).setIfInBounds j true) ((a.put oi.dst (mk g)).put oj.dst u) fun w => I' w ∧ w.heap[g]? = some obj) →
          wpAnyC P md ops n0 L (fuel + 1) (listed.setIfInBounds j true) (a.put oj.dst u) I' := fun u I' hK => by
        refine ih m (listed.setIfInBounds j true) (a.put oj.dst u) I' (inv.set hj hjn) hfree' hom2 (ready_mono hr (Ne.symm hji)) ?_ ?_ fun g => ?_
        · rw [wanted_put oi a oj.dst u h3]; exact hw
        · unfold Make1 at *; rw [execOp_put oi hsi a oj.dst u h3]; exact hk
        · rw [Array.setIfInBounds_comm _ _ hji, ← Act.put_comm a (mk g) u h2]; exact hK g
      have H1 : ∀ g, mOp P ops true j (wpAnyC P md ops n0 L fuel ((listed.setIfInBounds i true).setIfInBounds j true)) (a.put oi.dst (mk g)) fun w => I w ∧ w.heap[g]? = some obj := fun g => ((H g).2 j (ready_mono hj hji)).2
      unfold mOp at H1 ⊢
      simp only [hoj, hmj, if_true] at H1 ⊢
      split
      · rename_i hwj
        have H2 : ∀ g, ∃ mk' obj', Make1 P oj (a.put oi.dst (mk g)) mk' obj' ∧ ∀ g', wpAnyC P md ops n0 L fuel ((listed.setIfInBounds i true).setIfInBounds j true) ((a.put oi.dst (mk g)).put oj.dst (mk' g')) fun w => (I w ∧ w.heap[g]? = some obj) ∧ w.heap[g']? = some obj' := fun g => by
          have := H1 g
          rwa [wanted_put oj a oi.dst (mk g) h1, if_pos hwj] at this
        have hmk : ∀ g mk' obj', Make1 P oj (a.put oi.dst (mk g)) mk' obj' → Make1 P oj a mk' obj' := fun g mk' obj' h => by
          unfold Make1 at *; rwa [execOp_put oj hsj a oi.dst (mk g) h1] at h
        obtain ⟨mkj, objj, k1, _⟩ := H2 0
        refine ⟨mkj, objj, hmk _ _ _ k1, fun g' => on _ _ fun g => ?_⟩
        obtain ⟨mk', obj', k1', k2⟩ := H2 g
        obtain ⟨rfl, rfl⟩ := make_same (hmk _ _ _ k1) (hmk _ _ _ k1')
        have e : (fun w : World => (I w ∧ w.heap[g']? = some obj') ∧ w.heap[g]? = some obj) = fun w => (I w ∧ w.heap[g]? = some obj) ∧ w.heap[g']? = some obj' := funext fun w => propext (and_right_comm)
        rw [e]
        exact k2 g'
      · rename_i hwj
        refine on _ _ fun g => ?_
        have := H1 g
        rwa [wanted_put oj a oi.dst (mk g) h1, if_neg hwj] at this

/-- The order may be chosen, and comes to the neck. -/
def orderC (md : Region.Mode) (ops : Array Oper) (n : Nat) (fin : Array Bool) : List (Nat × Bool) → Array Bool → Bool
  | [], listed => listed == fin && (Region.ready md ops listed).all fun j => decide (n ≤ j)
  | (i, gen) :: rest, listed => decide (i < n) && (Region.ready md ops listed).contains i && (if gen then Region.ready md ops listed == [i] else Region.free md ops listed i && (!((ops[i]?).map isMake).getD false || onlyMakes md ops i ops.size listed)) && orderC md ops n fin rest (listed.setIfInBounds i true)

/-- Where the neck stands. -/
def NeckL (md : Region.Mode) (ops : Array Oper) (n : Nat) (fin : Array Bool) (Q : Act → World → Prop) (listed : Array Bool) (a : Act) (I : World → Prop) : Prop :=
  (listed = fin ∧ ∀ j ∈ Region.ready md ops listed, n ≤ j) ∧ ∀ w, I w → Q a w

theorem wpAnyC_order {n : Nat} {fin : Array Bool} {Q : Act → World → Prop} (hsel : Region.noSelect ops = true) (hs : Region.sinkB md ops n = true) (hc : chain2 md ops n = true) : ∀ (l : List (Nat × Bool)) (listed : Array Bool) (a : Act) (I : World → Prop),
    HeadInv md ops n listed → orderC md ops n fin l listed = true → wpM P ops Q l a I → wpAnyC P md ops n (NeckL md ops n fin Q) l.length listed a I
  | [], _, _, _, _, hB, h => by
    simp only [orderC, Bool.and_eq_true, beq_iff_eq] at hB
    exact ⟨⟨hB.1, fun j hj => by simpa using List.all_eq_true.1 hB.2 j hj⟩, h⟩
  | (i, gen) :: rest, listed, a, I, inv, hB, h => by
    simp only [orderC, Bool.and_eq_true, decide_eq_true_eq] at hB
    obtain ⟨⟨⟨hin, hr⟩, hcc⟩, hB'⟩ := hB
    have hr : i ∈ Region.ready md ops listed := by simpa using hr
    obtain ⟨hun, oi, hi, _⟩ := mem_ready.1 hr
    have go := fun a' I' hK => wpAnyC_order (Q := Q) hsel hs hc rest (listed.setIfInBounds i true) a' I' (inv.set hr hin) hB' hK
    have hLL : ∀ listed a I, NeckL md ops n fin Q listed a I → ∀ j ∈ Region.ready md ops listed, n ≤ j := fun _ _ _ h => h.1.2
    cases gen with
    | true =>
      simp only [if_true, beq_iff_eq] at hcc
      refine ⟨fun h => (by rw [h] at hr; cases hr), fun j hj => ⟨head_only hs hc inv _ i rfl hin hun j hj, ?_⟩⟩
      rw [hcc] at hj
      obtain rfl := List.mem_singleton.1 hj
      exact mOp_mono id go h
    | false =>
      simp only [Bool.false_eq_true, if_false, Bool.and_eq_true, hi, Option.map_some, Option.getD_some, Bool.or_eq_true, Bool.not_eq_true'] at hcc
      obtain ⟨hf, hmk⟩ := hcc
      have hfree := Region.free_spec (md := md) hi hf
      change mOp P ops false i (wpM P ops Q rest) a I at h
      unfold mOp at h
      simp only [hi] at h
      split at h
      · rename_i hw
        split at h
        · rename_i hm
          obtain ⟨mk, obj, k1, k2⟩ := h
          rcases hmk with hmk | hmk
          · rw [hm] at hmk; cases hmk
          · exact wpAnyC_make hs hc hLL hin hi hm (Region.noSelect_spec hsel) rest.length ops.size listed a I inv hfree hmk hr hw k1 fun g => go _ _ (k2 g)
        · rename_i hm
          rcases h with ⟨v, k1, k2⟩ | ⟨hg, _⟩
          · exact wpAnyC_first hs hc hLL hin hi (Region.noSelect_spec hsel) rest.length listed a I inv hfree hr (.inl ⟨hw, by simpa using hm, k1⟩) (go _ _ k2)
          · cases hg
      · rename_i hw
        exact wpAnyC_first hs hc hLL hin hi (Region.noSelect_spec hsel) rest.length listed a I inv hfree hr (.inr ⟨by simpa using hw, rfl⟩) (go _ _ h)

def neckB (ops : Array Oper) (n : Nat) (fin : Array Bool) (l : List (Nat × Bool)) : Bool :=
  Region.noSelect ops && Region.sinkB .any ops n && chain2 .any ops n && decide (l.length = n) && decide (n < ops.size) && orderC .any ops n fin l (Array.replicate ops.size false)

/-- A region with a neck: what lies ahead, in an order of one's own choice; then whatever order there is from the neck on. -/
theorem wp_region_neck {id : Nat} {Q : Exit → Act → World → Prop} {a : Act} {w : World} (n : Nat) (fin : Array Bool) (l : List (Nat × Bool)) (I : World → Prop) (hm : P.follows .mixedOrders = true) (hB : neckB ops n fin l = true) (hI : StableI I) (hw : I w.drew)
    (h : Shut (wpM P ops (fun a' w' => wpAny P .any ops Q (ops.size - n) fin a' w') l a I)) : (Code.region id ops true).wp P Q a w := by
  simp only [neckB, Bool.and_eq_true, decide_eq_true_eq] at hB
  obtain ⟨⟨⟨⟨⟨hsel, hs⟩, hc⟩, hl⟩, hn⟩, ho⟩ := hB
  have inv0 : HeadInv .any ops n (Array.replicate ops.size false) :=
    ⟨by simp, fun j oj _ hl => (by rw [getD_replicate_false] at hl; cases hl), fun t _ ht => getD_in (by simpa using ht) (getD_replicate_false _ _)⟩
  have H := wpAnyC_order (P := P) (md := .any) hsel hs hc l _ a I inv0 ho h.out
  refine wp_region_any hm ?_
  have := wpAny_of_C (Q' := Q) (g := ops.size - n) (fun listed a' I' w' hw' hL => by
    obtain ⟨⟨e, _⟩, h2⟩ := hL
    rw [e]; exact h2 _ hw') _ _ _ _ _ hI hw H
  rw [hl, show n + (ops.size - n) = ops.size by omega] at this
  exact this

/-- The neck comes up alone. -/
theorem wpAny_neck {Q : Exit → Act → World → Prop} {f i : Nat} {listed : Array Bool} {a : Act} {w : World} {l tl : List Oper} {o : Oper} (hr : Region.ready md l.toArray listed = [i]) (ho : l.drop i = o :: tl) (hw : Region.wanted o (yielded l.toArray a.tmps) = true)
    (h : o.wp P a w (fun a' w' => wpAny P md l.toArray Q f (listed.setIfInBounds i true) a' w') Q) : wpAny P md l.toArray Q (f + 1) listed a w := by
  have ho := at_drop ho
  refine ⟨fun h0 => (by rw [hr] at h0; cases h0), fun j hj => ?_⟩
  rw [hr] at hj
  obtain rfl := List.mem_singleton.1 hj
  unfold wpOp
  simp only [ho, hw, if_true]
  exact .inl h
/-- What lies behind, in an order of one's own choice. -/
theorem wpAny_behind {Q : Exit → Act → World → Prop} {f : Nat} {listed : Array Bool} {a : Act} {w : World} (l : List (Nat × Bool)) (I : World → Prop) (hs : Region.noSelect ops = true) (hl : l.length = f) (hB : orderM md ops l listed = true) (hI : StableI I) (hw : I w)
    (h : Shut (wpM P ops (Q .normal) l a I)) : wpAny P md ops Q f listed a w := by
  have := wpAny_of_M (Q := Q .normal) (fun _ _ h => h) _ _ _ I _ hI hw (wpAnyM_order hs l _ a I hB h.out)
  rwa [hl] at this

end
end Go.Proofs.YtonpplpfipfnfaaDoor

namespace Go.Proofs.YtonpplpfipfnfaaDoor.C
open Go.RowKit O

/-- What is answered: the list, and the error. -/
def insG (l : List I3) (p : Int) (x : I3) : List I3 := if hasB l p = true ∧ okB (insL l p.toNat x) = true then insL l p.toNat x else []
def insE (l : List I3) (p : Int) (x : I3) : Int := if hasB l p = true ∧ okB (insL l p.toNat x) = true then 0 else 50
def LstR (w : World) (m : List I3) (E : Int) (e : Ending) (w' : World) : Prop := ∃ v, e = .returned (.tuple #[v, .int .i64 E]) ∧ Own w' 24 3 (Fresh w) v m.length (iis m) ∧ Keep NoB w w'
theorem lstR_none {w w' : World} {E : Int} (h : Keep NoB w w') : LstR w [] E (.returned (.tuple #[.slice none 0 0, .int .i64 E])) w' := ⟨_, rfl, Own.nil _ _ _ _, h⟩

/-- An append, as it yields. -/
theorem yields_append {P : Program} {o : Oper} {a : Act} {w w' : World} {R : Value → World → Prop} (s x : Operand) (S : TypeId) (ho : o.op = .call { callee := .builtin .append, args := #[s, x], argTypes := #[S, S] }) {v u v' : Value}
    (hs : a.eval s = v) (hx : a.eval x = u) (hrun : (Builtin.append_ #[S, S] o.type #[v, u]).run P w = .ok v' w') (h : R v' w') : yieldsK P o a w R := by
  unfold yieldsK execOp
  simp only [ho, resolve, invoke, builtin, Sem.run_bind, Sem.run_pure, Result.andThen_ok, List.map_toArray, List.map_cons, List.map_nil, hs, hx, hrun]
  exact h

/-- A new row that has the cells. -/
def RowV (w0 : World) (k : Nat) (ys : List Value) (v : Value) (w : World) : Prop := Own w 24 3 (Fresh w0) v k ys
theorem RowV.stable (w0 : World) (k : Nat) (ys : List Value) (v : Value) : StableI (RowV w0 k ys v) := fun _ _ h hk => Own.keepN h hk

/-- The first append of Insert: onto what is ahead, which has no room. -/
theorem first_append {w0 w : World} {g k : Nat} {cs : List I3} {x : I3} {bx : Nat} (ty : TypeId) (hK : w0.heap.size ≤ w.heap.size) (hm : Blk w g 24 (iis cs).toArray) (hk : k ≤ cs.length) (hk5 : k ≤ 512) (hb : Blk w bx 24 (iis [x]).toArray) :
    ∃ v' w', (Builtin.append_ #[22, 22] ty #[.slice (some ⟨g, 0, none⟩) k k, .slice (some ⟨bx, 0, none⟩) 1 1]).run Tryd.prog w = .ok v' w' ∧ RowV w0 (k + 1) (iis (cs.take k ++ [x])) v' w' ∧ Keep NoB w w' := by
  obtain ⟨i0, hi, hz0, hz1, hz2⟩ := info_parts instr_info
  have e : ∀ (b j : Nat), (⟨b, 0, none⟩ : Addr).add j = ⟨b, j, none⟩ := fun b j => by unfold Addr.add; by_cases hj : j = 0 <;> simp [hj]
  obtain ⟨v', w', h1, h2, h3⟩ := run_append_arg_grows (P := Tryd.prog) w 22 ty 24 i0 _ 3 24 Tryd.underlying22 hi hz0 hz1 hz2 rfl (by decide) ⟨g, 0, none⟩ k k (iis (cs.take k)) (by rw [iis_length, List.length_take]; omega)
    (fun j u hu => by
      rw [e, hm.cell]
      rw [← iis_take] at hu
      obtain ⟨hj, hju⟩ := List.getElem?_eq_some_iff.1 hu
      rw [List.getElem_take] at hju
      simp only [List.getElem?_toArray]
      rw [List.getElem?_eq_getElem (by simp at hj; omega), hju])
    ⟨bx, 0, none⟩ 1 1 (iis [x]) (by rw [iis_length]; rfl) (fun j u hu => by rw [e, hb.cell]; simpa using hu) (by omega) (by unfold maxLen; omega) (by omega)
  refine ⟨v', w', h1, ?_, (Keep.refl NoB w).grown h3 (fun g e _ => by cases e)⟩
  rw [← iis_append] at h2
  exact Own.of_row h2 (fun j hj => Nat.le_trans hK hj)

/-- The list, if it is a body; none, if it is not. -/
def pickL (m : List I3) : List I3 := if okB m = true then m else []
theorem pickL_ok {m : List I3} (h : okB m = true) : pickL m = m := if_pos h
theorem pickL_no {m : List I3} (h : okB m = false) : pickL m = [] := if_neg (by rw [h]; decide)
theorem rd_drop {w : World} {g : Nat} {t : TypeId} {cs : List I3} (h : Blk w g t (iis cs).toArray) (k : Nat) : Rd w (some ⟨g, k * 3, none⟩) (iis (cs.drop k)) := fun _ =>
  ⟨g, k * 3, rfl, fun j u hu => by
    rw [← iis_drop, List.getElem?_drop] at hu
    rw [h.cell]; simpa using hu⟩
/-- What comes of a row that was made, if it is a body. -/
theorem pick_own {w0 w w' : World} {m : List I3} {n c : Nat} {A : Option Addr} (hml : m.length = n) (ho : Own w 24 3 (Fresh w0) (.slice A n c) n (iis m)) (hk : Keep NoB w w') (hK : Keep NoB w0 w') :
    LstR w0 (pickL m) (chkB m) (.returned (.tuple #[ifV m (.slice A n c), .int .i64 (chkB m)])) w' := by
  refine ⟨_, rfl, ?_, hK⟩
  cases h : okB m
  · rw [pickL_no h, ifV_no h]; exact Own.nil _ _ _ _
  · rw [pickL_ok h, ifV_ok h, hml]; exact ho.keepN hk
theorem insert_pick {l : List I3} {p : Int} {x : I3} {m : List I3} (hb : hasB l p = true) (hm : insL l p.toNat x = m) : insG l p x = pickL m ∧ insE l p x = chkB m := by
  unfold insG insE chkB pickL
  rw [hm, hb]
  simp

set_option maxRecDepth 100000 in
set_option maxHeartbeats 4000000 in
theorem insert_any (A : Option Addr) (l : List I3) (n c : Nat) (p op a b : Int) (w : World) (hr : Rd w A (iis l)) (hn : Hid (l.length = n)) (hm : n ≤ 9223372036854775807) :
    Calls Tryd.prog 6 #[.slice A n c, .int .i64 p, instV op a b] w (LstR w (insG l p (op, a, b)) (insE l p (op, a, b))) := by
  cases hb : hasB l p
  · have e1 : insG l p (op, a, b) = [] := by unfold insG; rw [hb, if_neg (by simp)]
    have e2 : insE l p (op, a, b) = 50 := by unfold insE; rw [hb, if_neg (by simp)]
    rw [e1, e2]
    have HC := Lib.hid (fun w hr => hasPlace_any A l n c p w hr hn hm false hb)
    have hR := Lib.hid (hr.keepN ((Keep.refl NoB w).alloc (.cells #[.int .i64 op, .int .i64 a, .int .i64 b] 24)))
    clear hb e1 e2 hr
    go_enter Tryd.func6, Tryd.ntmps6
    go_wp2_with (go_at_call 19; refine (HC.out _ hR.out).mono ?_; rintro e w1 ⟨rfl, k1⟩)
    go_ret2
    exact lstR_none (keepN ((Keep.refl NoB w).alloc _) k1)
  · obtain ⟨⟨hp0, hp1⟩, hok⟩ := hasB_yes hb
    obtain ⟨k, rfl⟩ : ∃ k : Nat, p = (k : Int) := ⟨p.toNat, by omega⟩
    obtain ⟨_, h5, _, _⟩ := okB_parts hok
    rw [hn.out] at hp1 h5
    have hk : k < n := by omega
    obtain ⟨m, hmm⟩ : ∃ m, insL l k (op, a, b) = m := ⟨_, rfl⟩
    obtain ⟨e1, e2⟩ := insert_pick (l := l) (p := (k : Int)) (x := (op, a, b)) (m := m) hb (by rw [Int.toNat_natCast]; exact hmm)
    rw [e1, e2]
    have hml : Hid (m.length = n + 1) := by show _ = _; rw [← hmm, insL_length, hn.out]
    have hms : Hid (iis ((l.map (gone (k : Int) 1)).take k ++ [(op, a, b)]) ++ iis ((l.map (gone (k : Int) 1)).drop k) = iis m) := by
      show _ = _
      rw [← iis_append, ← hmm]; unfold insL
      rw [← List.map_take, ← List.map_drop]; simp
    have HC := Lib.hid (fun w hr => hasPlace_any A l n c k w hr hn hm true hb)
    have HS := Lib.hid (fun w hr => shifted_any A l n c k 1 w hr hn (by omega) h5 (by omega) (by omega))
    have hR := Lib.hid (hr.keepN ((Keep.refl NoB w).alloc (.cells #[.int .i64 op, .int .i64 a, .int .i64 b] 24)))
    have gK := (Keep.refl NoB w).alloc (.cells #[.int .i64 op, .int .i64 a, .int .i64 b] 24)
    have bx := Blk.new w 24 #[.int .i64 op, .int .i64 a, .int .i64 b]
    have hcl : Hid ((l.map (gone (k : Int) 1)).length = n) := by show _ = _; rw [List.length_map, hn.out]
    have hki : (k : Int) ≤ (n : Int) := by omega
    have hkc : ¬ (n = k) := by omega
    clear hb hr e1 e2 hmm hp0 hp1
    generalize l.map (gone (k : Int) 1) = cs at HS hms hcl
    go_enter Tryd.func6, Tryd.ntmps6
    go_wp2_with fail
    refine (HC.out _ hR.out).mono ?_
    rintro e w1 ⟨rfl, k1⟩
    replace bx := bx.keep k1 id
    replace gK := keepN gK k1
    replace hR := Lib.hid (hR.out.keepN k1)
    go_wp2_with fail
    refine (HS.out _ hR.out).mono ?_
    rintro e w2 ⟨rfl, hB, k2⟩
    replace bx := bx.keep k2 id
    replace gK := keepN gK k2
    obtain ⟨g, hg⟩ : ∃ g, w1.heap.size = g := ⟨_, rfl⟩
    rw [hg] at hB ⊢
    clear hg k1 k2 hR HC HS
    go_wp2
    obtain ⟨bb, hbb⟩ : ∃ bb, w.heap.size = bb := ⟨_, rfl⟩
    rw [hbb] at bx ⊢
    clear hbb
    refine wp_region_neck 10 #[true, true, true, true, true, true, true, true, true, true, false, false, false, false, false, false] ((0, false) :: (1, false) :: (2, false) :: (3, false) :: (4, false) :: (7, false) :: (8, false) :: (9, false) :: (5, false) :: (6, true) :: []) (fun w' => Keep NoB w2 w') (by kernel_rfl) (by kernel_rfl) (stable_keep w2) (Keep.refl NoB w2).drew ?_
    refine shM_step rfl rfl rfl (by rfl) (by rfl) ?_
    apply Exists.intro
    refine ⟨fun n' K hK => ?_, ?_, ?_⟩
    · go_big_quiet_op
      exact hK _ rfl
    · kernel_rfl
    refine shM_step rfl rfl rfl (by rfl) (by rfl) ?_
    apply Exists.intro
    refine ⟨fun n' K hK => ?_, ?_, ?_⟩
    · go_big_quiet_op
      exact hK _ rfl
    · kernel_rfl
    refine shM_step rfl rfl rfl (by rfl) (by rfl) ?_
    apply Exists.intro
    refine ⟨fun n' K hK => ?_, ?_, ?_⟩
    · go_big_quiet_op
      exact hK _ rfl
    · kernel_rfl
    refine shM_step rfl rfl rfl (by rfl) (by rfl) ?_
    apply Exists.intro
    refine ⟨fun n' K hK => ?_, ?_, ?_⟩
    · go_big_quiet_op
      exact hK _ rfl
    · kernel_rfl
    refine shM_step rfl rfl rfl (by rfl) (by rfl) ?_
    apply Exists.intro
    refine ⟨fun n' K hK => ?_, ?_, ?_⟩
    · have q0 : ∀ q : KW n'.w, q.w.cell? ⟨bb, 0, none⟩ = some (.int .i64 op) := fun q => (bx.keep (keepN n'.has q.keep) id).cell 0
      have q1 : ∀ q : KW n'.w, q.w.cell? ⟨bb, 1, none⟩ = some (.int .i64 a) := fun q => (bx.keep (keepN n'.has q.keep) id).cell 1
      have q2 : ∀ q : KW n'.w, q.w.cell? ⟨bb, 2, none⟩ = some (.int .i64 b) := fun q => (bx.keep (keepN n'.has q.keep) id).cell 2
      go_big_quiet_op
      exact hK _ rfl
    · kernel_rfl
    refine shM_step rfl rfl rfl (by rfl) (by rfl) ?_
    apply Exists.intro
    refine ⟨fun n' K hK => ?_, ?_, ?_⟩
    · go_big_quiet_op
      exact hK _ rfl
    · kernel_rfl
    refine shM_step rfl rfl rfl (by rfl) (by rfl) ?_
    apply Exists.intro
    refine ⟨fun n' K hK => ?_, ?_, ?_⟩
    · go_big_quiet_op
      exact hK _ rfl
    · kernel_rfl
    refine shM_step rfl rfl rfl (by rfl) (by rfl) ?_
    apply Exists.intro
    refine ⟨fun n' K hK => ?_, ?_, ?_⟩
    · go_big_quiet_op
      exact hK _ rfl
    · kernel_rfl
    refine shM_make rfl rfl (by rfl) (fun H => .slice (some ⟨H, 0, none⟩) 1 1) (.cells #[.int .i64 op, .int .i64 a, .int .i64 b] 24) (fun W => ?_) (fun gz => ?_)
    · go_simp
    simp only [Act.put, List.setIfInBounds_toArray, List.set_cons_zero, List.set_cons_succ]
    refine shM_gen rfl rfl (by kernel_rfl) (RowV w (k + 1) (iis (cs.take k ++ [(op, a, b)]))) (RowV.stable w _ _) (fun q => ?_) (fun v1 => ?_)
    · obtain ⟨v', w', h1, h2, h3⟩ := first_append (w0 := w) (k := k) (x := (op, a, b)) (bx := gz) 22 (Nat.le_trans gK.size q.has.1.size) (hB.keep q.has.1 id) (by rw [hcl.out]; omega) (by omega) q.has.2
      exact yields_append (.tmp 19) (.tmp 21) _ rfl (by rfl) (by rfl) h1 ⟨h2, h3⟩
    simp only [Act.put, List.setIfInBounds_toArray, List.set_cons_zero, List.set_cons_succ]
    refine shM_nil (fun q => ?_)
    obtain ⟨A1, c1, rfl, hc1, hc2, _, hb1⟩ := Own.form q.has.2
    have hO := q.has.2
    have hq := q.has.1.1
    obtain ⟨i0, hi, hz0, hz1, hz2⟩ := info_parts instr_info
    refine wpAny_neck (f := 5) (i := 10) (by kernel_rfl) rfl (by kernel_rfl) ?_
    refine wp_append_rd q.w (.tmp 22) (.tmp 25) _ rfl 24 3 24 i0 _ Tryd.underlying22 hi hz0 hz1 hz2 rfl (by decide) _ (k + 1) _ (some ⟨g, k * 3, none⟩) (n - k) (n - k) (iis (cs.drop k)) (by rfl) hO.1 (by rfl) (rd_drop (hB.keep hq id) k)
      (by rw [iis_length, List.length_drop, hcl.out]) (iis_cells _) (by unfold maxLen; omega) (by omega) ?_
    intro A2 c2 w3 hown hgr hat
    rw [hms.out, show k + 1 + (n - k) = n + 1 by omega] at hown
    rw [show k + 1 + (n - k) = n + 1 by omega] at hat ⊢
    have hO3 : Own w3 24 3 (Fresh w) (.slice A2 (n + 1) c2) (n + 1) (iis m) := ⟨hown, fun g' e => by
      rcases hat with h | h
      · exact hO.2 g' (h ▸ e)
      · rw [h] at e; cases e; exact Nat.le_trans gK.size hq.size⟩
    have hK3 : Keep NoB w w3 := (keepN gK hq).grown hgr (fun g' e hl => by have := hO.2 g' e; unfold Fresh at this; omega)
    have HI := Lib.hid (fun w h => ifBody_any A2 m (n + 1) c2 w h hml (by omega))
    have hrd : Rd w3 A2 (iis m) := by
      obtain ⟨A', c', e, _, _, h, _⟩ := hO3.form
      cases e; exact h
    simp only [Act.put, List.setIfInBounds_toArray, List.set_cons_zero, List.set_cons_succ]
    refine wpAny_behind ((11, false) :: (12, false) :: (13, false) :: (14, false) :: (15, false) :: []) (fun w' => Keep NoB w3 w') (by kernel_rfl) (by rfl) (by kernel_rfl) (stable_keep w3) (Keep.refl NoB w3) ?_
    refine shM_step rfl rfl rfl (by rfl) (by rfl) ?_
    apply Exists.intro
    refine ⟨fun n' K hK => ?_, ?_, ?_⟩
    · go_big_quiet_op
      apply Exists.intro
      refine ⟨fun m' => ?_, ?_⟩
      · go_at_call 21
        exact kept_of (HI.out _ (hrd.keepN (keepN n'.has m'.keep)))
      · exact hK _ rfl
    · kernel_rfl
    refine shM_step rfl rfl rfl (by rfl) (by rfl) ?_
    apply Exists.intro
    refine ⟨fun n' K hK => ?_, ?_, ?_⟩
    · go_big_quiet_op
      exact hK _ rfl
    · kernel_rfl
    refine shM_step rfl rfl rfl (by rfl) (by rfl) ?_
    apply Exists.intro
    refine ⟨fun n' K hK => ?_, ?_, ?_⟩
    · go_big_quiet_op
      exact hK _ rfl
    · kernel_rfl
    refine shM_step rfl rfl rfl (by rfl) (by rfl) ?_
    apply Exists.intro
    refine ⟨fun n' K hK => ?_, ?_, ?_⟩
    · go_big_quiet_op
      exact hK _ rfl
    · kernel_rfl
    refine shM_step rfl rfl rfl (by rfl) (by rfl) ?_
    apply Exists.intro
    refine ⟨fun n' K hK => ?_, ?_, ?_⟩
    · go_big_quiet_op
      exact hK _ rfl
    · kernel_rfl
    refine shM_nil (fun q2 => ?_)
    go_wp2
    go_ret2
    exact pick_own hml.out hO3 q2.has (keepN hK3 q2.has)

end Go.Proofs.YtonpplpfipfnfaaDoor.C

namespace Go.Proofs.YtonpplpfipfnfaaDoor.C
open Go.RowKit O

/-- What is answered: the list, and the error. -/
def delG (l : List I3) (p : Int) : List I3 := if hasB l p = true ∧ okB (delL l p.toNat) = true then delL l p.toNat else []
def delE (l : List I3) (p : Int) : Int := if hasB l p = true ∧ okB (delL l p.toNat) = true then 0 else 50
theorem delete_pick {l : List I3} {p : Int} {m : List I3} (hb : hasB l p = true) (hm : delL l p.toNat = m) : delG l p = pickL m ∧ delE l p = chkB m := by
  unfold delG delE chkB pickL
  rw [hm, hb]
  simp
/-- The first ones of a block that is known whole, as a row with room. -/
theorem row_take {w : World} {g n k : Nat} {cs : List I3} (h : Blk w g 24 (iis cs).toArray) (hn : cs.length = n) (hk : k ≤ n) (h5 : n ≤ 512) : w.ownsRow 0 24 3 (.slice (some ⟨g, 0, none⟩) k n) k (iis (cs.take k)) := by
  refine ⟨by rw [iis_length, List.length_take]; omega, .inr ⟨g, n, (iis cs).toArray, rfl, Nat.zero_le _, h, hk, by unfold maxLen; omega, by simp [iis_length, hn], ?_⟩⟩
  show (iis cs).take (k * 3) = _
  exact iis_take cs k

set_option maxRecDepth 100000 in
set_option maxHeartbeats 4000000 in
theorem delete_any (A : Option Addr) (l : List I3) (n c : Nat) (p : Int) (w : World) (hr : Rd w A (iis l)) (hn : Hid (l.length = n)) (hm : n ≤ 9223372036854775807) :
    Calls Tryd.prog 8 #[.slice A n c, .int .i64 p] w (LstR w (delG l p) (delE l p)) := by
  cases hb : hasB l p
  · have e1 : delG l p = [] := by unfold delG; rw [hb, if_neg (by simp)]
    have e2 : delE l p = 50 := by unfold delE; rw [hb, if_neg (by simp)]
    rw [e1, e2]
    have HC := Lib.hid (fun w hr => hasPlace_any A l n c p w hr hn hm false hb)
    have hR := Lib.hid hr
    clear hb e1 e2 hr
    go_enter Tryd.func8, Tryd.ntmps8
    go_wp2_with (go_at_call 19; refine (HC.out _ hR.out).mono ?_; rintro e w1 ⟨rfl, k1⟩)
    go_ret2
    exact lstR_none k1
  · obtain ⟨⟨hp0, hp1⟩, hok⟩ := hasB_yes hb
    obtain ⟨k, rfl⟩ : ∃ k : Nat, p = (k : Int) := ⟨p.toNat, by omega⟩
    obtain ⟨_, h5, _, _⟩ := okB_parts hok
    rw [hn.out] at hp1 h5
    have hk : k < n := by omega
    obtain ⟨m, hmm⟩ : ∃ m, delL l k = m := ⟨_, rfl⟩
    obtain ⟨e1, e2⟩ := delete_pick (l := l) (p := (k : Int)) (m := m) hb (by rw [Int.toNat_natCast]; exact hmm)
    rw [e1, e2]
    have hml : Hid (m.length = n - 1) := by show _ = _; rw [← hmm, delL_length (by rw [hn.out]; exact hk), hn.out]
    have hms : Hid (iis ((l.map (gone (k : Int) (-1))).take k) ++ iis ((l.map (gone (k : Int) (-1))).drop (k + 1)) = iis m) := by
      show _ = _
      rw [← iis_append, ← hmm]; unfold delL
      rw [← List.map_take, ← List.map_drop]
    have HC := Lib.hid (fun w hr => hasPlace_any A l n c k w hr hn hm true hb)
    have HS := Lib.hid (fun w hr => shifted_any A l n c k (-1) w hr hn (by omega) h5 (by omega) (by omega))
    have hR := Lib.hid hr
    have hcl : Hid ((l.map (gone (k : Int) (-1))).length = n) := by show _ = _; rw [List.length_map, hn.out]
    clear hb hr e1 e2 hmm hp0 hp1 hok
    generalize l.map (gone (k : Int) (-1)) = cs at HS hms hcl
    have hsum : IntKind.i64.wrap ((k : Int) + 1) = (k : Int) + 1 := IntWalk.i64_in _ (by omega)
    have hki : (k : Int) ≤ (n : Int) := by omega
    have hk1 : (k : Int) + 1 ≤ (n : Int) := by omega
    have hks : (0 : Int) ≤ (k : Int) + 1 := by omega
    have hkt : ((k : Int) + 1).toNat = k + 1 := by omega
    by_cases hkn : n = k + 1
    · subst hkn
      go_enter Tryd.func8, Tryd.ntmps8
      go_wp2_with fail
      refine (HC.out _ hR.out).mono ?_
      rintro e w1 ⟨rfl, k1⟩
      have gK := k1
      replace hR := Lib.hid (hR.out.keepN k1)
      go_wp2_with fail
      refine (HS.out _ hR.out).mono ?_
      rintro e w2 ⟨rfl, hB, k2⟩
      replace gK := keepN gK k2
      have hgw : w.heap.size ≤ w1.heap.size := k1.size
      obtain ⟨g, hg⟩ : ∃ g, w1.heap.size = g := ⟨_, rfl⟩
      rw [hg] at hB hgw ⊢
      clear hg k1 k2 hR HC HS
      go_wp2
      refine wp_region_neck 7 #[true, true, true, true, true, true, true, false, false, false, false, false, false] ((0, false) :: (1, false) :: (2, false) :: (3, false) :: (4, false) :: (5, false) :: (6, false) :: []) (fun w' => Keep NoB w2 w') (by kernel_rfl) (by kernel_rfl) (stable_keep w2) (Keep.refl NoB w2).drew ?_
      refine shM_step rfl rfl rfl (by rfl) (by rfl) ?_
      apply Exists.intro
      refine ⟨fun n' K hK => ?_, ?_, ?_⟩
      · go_big_quiet_op
        exact hK _ rfl
      · kernel_rfl
      refine shM_step rfl rfl rfl (by rfl) (by rfl) ?_
      apply Exists.intro
      refine ⟨fun n' K hK => ?_, ?_, ?_⟩
      · go_big_quiet_op
        exact hK _ rfl
      · kernel_rfl
      refine shM_step rfl rfl rfl (by rfl) (by rfl) ?_
      apply Exists.intro
      refine ⟨fun n' K hK => ?_, ?_, ?_⟩
      · go_big_quiet_op
        exact hK _ rfl
      · kernel_rfl
      refine shM_step rfl rfl rfl (by rfl) (by rfl) ?_
      apply Exists.intro
      refine ⟨fun n' K hK => ?_, ?_, ?_⟩
      · go_big_quiet_op
        exact hK _ rfl
      · kernel_rfl
      refine shM_step rfl rfl rfl (by rfl) (by rfl) ?_
      apply Exists.intro
      refine ⟨fun n' K hK => ?_, ?_, ?_⟩
      · go_big_quiet_op
        exact hK _ rfl
      · kernel_rfl
      refine shM_step rfl rfl rfl (by rfl) (by rfl) ?_
      apply Exists.intro
      refine ⟨fun n' K hK => ?_, ?_, ?_⟩
      · go_big_quiet_op
        exact hK _ rfl
      · kernel_rfl
      refine shM_step rfl rfl rfl (by rfl) (by rfl) ?_
      apply Exists.intro
      refine ⟨fun n' K hK => ?_, ?_, ?_⟩
      · go_big_quiet_op
        exact hK _ rfl
      · kernel_rfl
      refine shM_nil (fun q => ?_)
      have hq := q.has
      obtain ⟨i0, hi, hz0, hz1, hz2⟩ := info_parts instr_info
      refine wpAny_neck (f := 5) (i := 7) (by kernel_rfl) rfl (by kernel_rfl) ?_
      refine wp_append_rd q.w (.tmp 16) (.tmp 20) _ rfl 24 3 24 i0 _ Tryd.underlying22 hi hz0 hz1 hz2 rfl (by decide) (.slice (some ⟨g, 0, none⟩) k (k + 1)) k _ (some ⟨g, 0, none⟩) 0 0 (iis (cs.drop (k + 1))) (by rfl) (row_take (hB.keep hq id) hcl.out (by omega) h5) (by rfl) (by rw [List.drop_of_length_le (by rw [hcl.out]; omega)]; exact Rd.none_ _ _)
        (by rw [iis_length, List.length_drop, hcl.out]; omega) (iis_cells _) (by unfold maxLen; omega) (by omega) ?_
      intro A2 c2 w3 hown hgr hat
      rw [hms.out, show k + 0 = k from rfl] at hown
      rw [show k + 0 = k from rfl] at hat ⊢
      rw [Nat.add_sub_cancel] at hml
      have hO3 : Own w3 24 3 (Fresh w) (.slice A2 k c2) k (iis m) := ⟨hown, fun g' e => by
        rcases hat with h | h
        · have : some g' = some g := by rw [← e, h]; rfl
          cases this; exact hgw
        · rw [h] at e; cases e; exact Nat.le_trans gK.size hq.size⟩
      have hK3 : Keep NoB w w3 := (keepN gK hq).grown hgr (fun g' e hl => by have : some g = some g' := e; cases this; omega)
      have HI := Lib.hid (fun w h => ifBody_any A2 m k c2 w h hml (by omega))
      have hrd : Rd w3 A2 (iis m) := by
        obtain ⟨A', c', e, _, _, h, _⟩ := hO3.form
        cases e; exact h
      simp only [Act.put, List.setIfInBounds_toArray, List.set_cons_zero, List.set_cons_succ]
      refine wpAny_behind ((8, false) :: (9, false) :: (10, false) :: (11, false) :: (12, false) :: []) (fun w' => Keep NoB w3 w') (by kernel_rfl) (by rfl) (by kernel_rfl) (stable_keep w3) (Keep.refl NoB w3) ?_
      refine shM_step rfl rfl rfl (by rfl) (by rfl) ?_
      apply Exists.intro
      refine ⟨fun n' K hK => ?_, ?_, ?_⟩
      · go_big_quiet_op
        apply Exists.intro
        refine ⟨fun m' => ?_, ?_⟩
        · go_at_call 21
          exact kept_of (HI.out _ (hrd.keepN (keepN n'.has m'.keep)))
        · exact hK _ rfl
      · kernel_rfl
      refine shM_step rfl rfl rfl (by rfl) (by rfl) ?_
      apply Exists.intro
      refine ⟨fun n' K hK => ?_, ?_, ?_⟩
      · go_big_quiet_op
        exact hK _ rfl
      · kernel_rfl
      refine shM_step rfl rfl rfl (by rfl) (by rfl) ?_
      apply Exists.intro
      refine ⟨fun n' K hK => ?_, ?_, ?_⟩
      · go_big_quiet_op
        exact hK _ rfl
      · kernel_rfl
      refine shM_step rfl rfl rfl (by rfl) (by rfl) ?_
      apply Exists.intro
      refine ⟨fun n' K hK => ?_, ?_, ?_⟩
      · go_big_quiet_op
        exact hK _ rfl
      · kernel_rfl
      refine shM_step rfl rfl rfl (by rfl) (by rfl) ?_
      apply Exists.intro
      refine ⟨fun n' K hK => ?_, ?_, ?_⟩
      · go_big_quiet_op
        exact hK _ rfl
      · kernel_rfl
      refine shM_nil (fun q2 => ?_)
      go_wp2
      go_ret2
      exact pick_own hml.out hO3 q2.has (keepN hK3 q2.has)
    · have hkc : ¬ (n = k + 1) := hkn
      have hkd : k + 1 ≤ n := by omega
      go_enter Tryd.func8, Tryd.ntmps8
      go_wp2_with fail
      refine (HC.out _ hR.out).mono ?_
      rintro e w1 ⟨rfl, k1⟩
      have gK := k1
      replace hR := Lib.hid (hR.out.keepN k1)
      go_wp2_with fail
      refine (HS.out _ hR.out).mono ?_
      rintro e w2 ⟨rfl, hB, k2⟩
      replace gK := keepN gK k2
      have hgw : w.heap.size ≤ w1.heap.size := k1.size
      obtain ⟨g, hg⟩ : ∃ g, w1.heap.size = g := ⟨_, rfl⟩
      rw [hg] at hB hgw ⊢
      clear hg k1 k2 hR HC HS
      go_wp2
      refine wp_region_neck 7 #[true, true, true, true, true, true, true, false, false, false, false, false, false] ((0, false) :: (1, false) :: (2, false) :: (3, false) :: (4, false) :: (5, false) :: (6, false) :: []) (fun w' => Keep NoB w2 w') (by kernel_rfl) (by kernel_rfl) (stable_keep w2) (Keep.refl NoB w2).drew ?_
      refine shM_step rfl rfl rfl (by rfl) (by rfl) ?_
      apply Exists.intro
      refine ⟨fun n' K hK => ?_, ?_, ?_⟩
      · go_big_quiet_op
        exact hK _ rfl
      · kernel_rfl
      refine shM_step rfl rfl rfl (by rfl) (by rfl) ?_
      apply Exists.intro
      refine ⟨fun n' K hK => ?_, ?_, ?_⟩
      · go_big_quiet_op
        exact hK _ rfl
      · kernel_rfl
      refine shM_step rfl rfl rfl (by rfl) (by rfl) ?_
      apply Exists.intro
      refine ⟨fun n' K hK => ?_, ?_, ?_⟩
      · go_big_quiet_op
        exact hK _ rfl
      · kernel_rfl
      refine shM_step rfl rfl rfl (by rfl) (by rfl) ?_
      apply Exists.intro
      refine ⟨fun n' K hK => ?_, ?_, ?_⟩
      · go_big_quiet_op
        exact hK _ rfl
      · kernel_rfl
      refine shM_step rfl rfl rfl (by rfl) (by rfl) ?_
      apply Exists.intro
      refine ⟨fun n' K hK => ?_, ?_, ?_⟩
      · go_big_quiet_op
        exact hK _ rfl
      · kernel_rfl
      refine shM_step rfl rfl rfl (by rfl) (by rfl) ?_
      apply Exists.intro
      refine ⟨fun n' K hK => ?_, ?_, ?_⟩
      · go_big_quiet_op
        exact hK _ rfl
      · kernel_rfl
      refine shM_step rfl rfl rfl (by rfl) (by rfl) ?_
      apply Exists.intro
      refine ⟨fun n' K hK => ?_, ?_, ?_⟩
      · go_big_quiet_op
        exact hK _ rfl
      · kernel_rfl
      refine shM_nil (fun q => ?_)
      have hq := q.has
      obtain ⟨i0, hi, hz0, hz1, hz2⟩ := info_parts instr_info
      refine wpAny_neck (f := 5) (i := 7) (by kernel_rfl) rfl (by kernel_rfl) ?_
      refine wp_append_rd q.w (.tmp 16) (.tmp 20) _ rfl 24 3 24 i0 _ Tryd.underlying22 hi hz0 hz1 hz2 rfl (by decide) (.slice (some ⟨g, 0, none⟩) k n) k _ (some ⟨g, (k + 1) * 3, none⟩) (n - (k + 1)) (n - (k + 1)) (iis (cs.drop (k + 1))) (by rfl) (row_take (hB.keep hq id) hcl.out (by omega) h5) (by rfl) (rd_drop (hB.keep hq id) (k + 1))
        (by rw [iis_length, List.length_drop, hcl.out]) (iis_cells _) (by unfold maxLen; omega) (by omega) ?_
      intro A2 c2 w3 hown hgr hat
      rw [hms.out, show k + (n - (k + 1)) = n - 1 by omega] at hown
      rw [show k + (n - (k + 1)) = n - 1 by omega] at hat ⊢
      have hO3 : Own w3 24 3 (Fresh w) (.slice A2 (n - 1) c2) (n - 1) (iis m) := ⟨hown, fun g' e => by
        rcases hat with h | h
        · have : some g' = some g := by rw [← e, h]; rfl
          cases this; exact hgw
        · rw [h] at e; cases e; exact Nat.le_trans gK.size hq.size⟩
      have hK3 : Keep NoB w w3 := (keepN gK hq).grown hgr (fun g' e hl => by have : some g = some g' := e; cases this; omega)
      have HI := Lib.hid (fun w h => ifBody_any A2 m (n - 1) c2 w h hml (by omega))
      have hrd : Rd w3 A2 (iis m) := by
        obtain ⟨A', c', e, _, _, h, _⟩ := hO3.form
        cases e; exact h
      simp only [Act.put, List.setIfInBounds_toArray, List.set_cons_zero, List.set_cons_succ]
      refine wpAny_behind ((8, false) :: (9, false) :: (10, false) :: (11, false) :: (12, false) :: []) (fun w' => Keep NoB w3 w') (by kernel_rfl) (by rfl) (by kernel_rfl) (stable_keep w3) (Keep.refl NoB w3) ?_
      refine shM_step rfl rfl rfl (by rfl) (by rfl) ?_
      apply Exists.intro
      refine ⟨fun n' K hK => ?_, ?_, ?_⟩
      · go_big_quiet_op
        apply Exists.intro
        refine ⟨fun m' => ?_, ?_⟩
        · go_at_call 21
          exact kept_of (HI.out _ (hrd.keepN (keepN n'.has m'.keep)))
        · exact hK _ rfl
      · kernel_rfl
      refine shM_step rfl rfl rfl (by rfl) (by rfl) ?_
      apply Exists.intro
      refine ⟨fun n' K hK => ?_, ?_, ?_⟩
      · go_big_quiet_op
        exact hK _ rfl
      · kernel_rfl
      refine shM_step rfl rfl rfl (by rfl) (by rfl) ?_
      apply Exists.intro
      refine ⟨fun n' K hK => ?_, ?_, ?_⟩
      · go_big_quiet_op
        exact hK _ rfl
      · kernel_rfl
      refine shM_step rfl rfl rfl (by rfl) (by rfl) ?_
      apply Exists.intro
      refine ⟨fun n' K hK => ?_, ?_, ?_⟩
      · go_big_quiet_op
        exact hK _ rfl
      · kernel_rfl
      refine shM_step rfl rfl rfl (by rfl) (by rfl) ?_
      apply Exists.intro
      refine ⟨fun n' K hK => ?_, ?_, ?_⟩
      · go_big_quiet_op
        exact hK _ rfl
      · kernel_rfl
      refine shM_nil (fun q2 => ?_)
      go_wp2
      go_ret2
      exact pick_own hml.out hO3 q2.has (keepN hK3 q2.has)

end Go.Proofs.YtonpplpfipfnfaaDoor.C
