/-
  A region that draws its order, by what each of its values is: whatever order is picked, each operation finds what it stands behind. No program, no conditions.
  A region that draws its order, by what each of its values is: whatever order is picked, each operation finds what it stands behind. Operations may be guarded; one of them, number c, may write what lay in the blocks of O, which the others' words don't speak of. No program, no conditions.
  Which functions may be: what Check answers. Conditions: the function's lists lie in memory, and are no longer than statements go through.
  What the laws ask ahead: whether a function is more than statements go through; and the laws' own function. No conditions but those of each statement.
  The plain mathematics of heads and stretches: which places are noted as heads, how often, and where a stretch ends. No program, no conditions.
  The plain mathematics of what is put in and taken out, of counts, and of stretches one behind the other. No program, no conditions.
  What shifted of layer code answers: a new list, in which those that go to a place behind one go so much farther. Conditions: the list lies in memory, of 1 to 512 instructions; by 1, or -1.
  What Insert of layer code answers: a new body with one more, or ErrCode. Conditions: the list lies in memory.
  What Delete of layer code answers: a new body without one, or ErrCode. Conditions: the list lies in memory.
  What the program's Decode answers. Conditions: a Reel stands on the bytes; they are not too many.
  What the document's Decode answers. Conditions: its Reel stands on the bytes; they are not too many.
  What Decode of layer code answers, the program's and the document's: the body at a Reel's place, and the place behind it. Conditions: the Reel reads bytes in memory, no more than 2^47.
  What the document's Decode of layer code answers: the body at its Reel's place, and the place behind it. Conditions: the Reel reads bytes in memory, no more than 2^47.
  Functions at a Reel's place: what Decode answers. Conditions: the Reel reads bytes in memory, no more than 2^47.
  What Decode of layer function answers: the function at a Reel's place, and the place behind it. Conditions: the Reel reads bytes in memory, no more than 2^47.
  An argument that is a slice of bytes, opened: an address from which a list of bytes stands. No conditions.
  Functions that are no greater than statements go through; small facts that the laws share. No conditions.
  An image in memory: its value, its cells, what it reads as; an image that is owned. No conditions.
  Which functions may be, however great: what Check of layer function answers. Conditions: the function's lists lie in memory, each of them below 2^47.
  A map from numbers to numbers that a call makes: what each key has. No program, no conditions.
  A map from texts to numbers that a call makes: what each key has. No program, no conditions.
  A map from texts to numbers that a call makes: which keys it has, and what each has. No program, no conditions.
  The reader of layer asm in memory: rows and maps, each in blocks that bear its mark; what a step changes is marked, all else stays. No program but its types, no conditions.
  Which function the reader reads: where the last one lies. Conditions: the reader lies in memory, and has one.
  What the document's read of layer shape answers: the types at its Reel's place. Conditions: the Reel reads bytes in memory, no more than 2^47.
  What the document's Decode and DecodeSignature answer. Conditions: the Reel reads bytes in memory, no more than 2^47.
-/
import Derived.IntWalk
import Derived.Laws.CopyOwn
import Derived.Maps.Keyed
import Derived.Maps.Own
import Derived.Maps.OwnIn
import Derived.Maps.OwnOps
import Derived.Maps.OwnSet
import Derived.Maps.Views
import Derived.OpenShut
import Derived.OwnWalk
import Derived.ProofKit
import Derived.SizedLaws
import Derived.WalkArith
import Derived.Test.YtifobiajjhknbaaGreatDoorQ3
import Derived.Test.YtifobiajjhknbaaGreatDoorQ6
import Derived.Test.YtifobiajjhknbaaGreatDoorQ4
import Derived.Test.YtifobiajjhknbaaGreatDoorQ2
import Derived.Test.YtifobiajjhknbaaGreatDoorQ5
namespace Go.Proofs.YtifobiajjhknbaaGreatDoor
open Go.RowKit
section
variable {P : Program} {md : Region.Mode} {ops : Array Oper}

/-- The frame as it was, but for the region's slots. -/
def FrameI (a0 : Act) (d0 n : Nat) (a : Act) : Prop := a.defers = a0.defers ∧ a.tmps.size = a0.tmps.size ∧ ∀ s, (s < d0 ∨ d0 + n ≤ s) → a.tmps.getD s undef = a0.tmps.getD s undef

/-- The slots from one on, filled. -/
def fillT (t : Array Value) (d : Nat) : List Value → Array Value
  | [] => t
  | v :: vs => fillT (t.setIfInBounds d v) (d + 1) vs
theorem fillT_size : ∀ (vs : List Value) (t : Array Value) (d : Nat), (fillT t d vs).size = t.size
  | [], _, _ => rfl
  | v :: vs, t, d => by rw [fillT, fillT_size vs]; simp
theorem fillT_get : ∀ (vs : List Value) (t : Array Value) (d : Nat), d + vs.length ≤ t.size → ∀ s, (fillT t d vs).getD s undef = if d ≤ s ∧ s < d + vs.length then vs.getD (s - d) undef else t.getD s undef
  | [], t, d, _, s => by rw [fillT, if_neg (by simp)]
  | v :: vs, t, d, h, s => by
    simp only [List.length_cons] at h
    rw [fillT, fillT_get vs _ _ (by simp; omega)]
    by_cases e : s = d
    · subst e
      rw [if_neg (by omega), if_pos (by constructor <;> simp <;> omega)]
      have hs : s < t.size := by omega
      simp [hs]
    · have hset : (t.setIfInBounds d v).getD s undef = t.getD s undef := by
        simp only [Array.getD_eq_getD_getElem?, Array.getElem?_setIfInBounds]
        rw [if_neg (fun h => e h.symm)]
      rw [hset]
      by_cases h2 : d + 1 ≤ s ∧ s < d + 1 + vs.length
      · rw [if_pos h2, if_pos (by simp; omega), show s - d = (s - (d + 1)) + 1 by omega, List.getD_cons_succ]
      · rw [if_neg h2, if_neg (by simp; omega)]
theorem frame_fill {a0 a : Act} {d0 n : Nat} (h : FrameI a0 d0 n a) (hsz : d0 + n ≤ a0.tmps.size) : a = { tmps := fillT a0.tmps d0 ((List.range n).map fun i => a.tmps.getD (d0 + i) undef), defers := a0.defers } := by
  obtain ⟨h1, h2, h3⟩ := h
  have e : a.tmps = fillT a0.tmps d0 ((List.range n).map fun i => a.tmps.getD (d0 + i) undef) := by
    apply Array.ext
    · rw [fillT_size, h2]
    · intro i hi hi'
      have hg := fillT_get ((List.range n).map fun i => a.tmps.getD (d0 + i) undef) a0.tmps d0 (by simpa using hsz) i
      have e1 : (fillT a0.tmps d0 ((List.range n).map fun i => a.tmps.getD (d0 + i) undef)).getD i undef = (fillT a0.tmps d0 ((List.range n).map fun i => a.tmps.getD (d0 + i) undef))[i] := by rw [Array.getD_eq_getD_getElem?, Array.getElem?_eq_getElem hi']; rfl
      have e2 : a.tmps.getD i undef = a.tmps[i] := by rw [Array.getD_eq_getD_getElem?, Array.getElem?_eq_getElem hi]; rfl
      refine e2.symm.trans (Eq.trans ?_ (hg.symm.trans e1))
      simp only [List.length_map, List.length_range]
      by_cases hh : d0 ≤ i ∧ i < d0 + n
      · rw [if_pos hh]
        have hlt : i - d0 < n := by omega
        rw [List.getD_eq_getElem?_getD, List.getElem?_map, List.getElem?_range hlt]
        simp only [Option.map_some, Option.getD_some]
        rw [show d0 + (i - d0) = i by omega]
      · rw [if_neg hh]; exact h3 i (by omega)
  obtain ⟨t, d⟩ := a
  simp only at e h1 ⊢
  rw [← e, h1]
end
end Go.Proofs.YtifobiajjhknbaaGreatDoor

namespace Go.Proofs.YtifobiajjhknbaaGreatDoor
open Go.RowKit
section
variable {P : Program} {md : Region.Mode} {ops : Array Oper}

/-- Each operation writes the slot of its number (number c may write none), and stands behind earlier ones alone. -/
def propsG (ops : Array Oper) (d0 c : Nat) : Bool := (List.range ops.size).all fun i => match ops[i]? with
  | none => false
  | some o => (match o.dst with
    | none => i == c
    | some d => d == d0 + i) && o.after.all fun e => decide (e.on < i)
theorem propsG_at {d0 c : Nat} (h : propsG ops d0 c = true) {i : Nat} {o : Oper} (ho : ops[i]? = some o) : (o.dst = some (d0 + i) ∨ (o.dst = none ∧ i = c)) ∧ ∀ e ∈ o.after, e.on < i := by
  have hi := (Array.getElem?_eq_some_iff.1 ho).1
  have h1 := List.all_eq_true.1 h i (List.mem_range.2 hi)
  simp only [ho, Bool.and_eq_true] at h1
  obtain ⟨h1, h3⟩ := h1
  refine ⟨?_, fun e he => ?_⟩
  · cases hd : o.dst with
    | none => rw [hd] at h1; exact .inr ⟨rfl, by simpa using h1⟩
    | some d => rw [hd] at h1; exact .inl (by simpa using h1)
  · have := Array.all_eq_true_iff_forall_mem.1 h3 e he
    simpa using this
theorem no_readyG {d0 c : Nat} (hB : propsG ops d0 c = true) {listed : Array Bool} (hs : listed.size = ops.size) (hr : Region.ready md ops listed = []) : ∀ i, i < ops.size → listed.getD i true = true := by
  intro i
  induction i using Nat.strongRecOn with
  | ind i ih =>
    intro hi
    cases hl : listed.getD i true
    · have ho : ops[i]? = some ops[i] := Array.getElem?_eq_getElem hi
      have : i ∈ Region.ready md ops listed := mem_ready.2 ⟨hl, ops[i], ho, fun e he _ => by
        have he2 := (propsG_at hB ho).2 e he
        have h1 := ih e.on he2 (by omega)
        have h2 : e.on < listed.size := by omega
        simpa [h2] using h1⟩
      rw [hr] at this; cases this
    · rfl
/-- Is a guarded operation wanted? -/
theorem wanted_at {o : Oper} {tmps : Array Value} {j d : Nat} {want b : Bool} (hg : o.guard = some (j, want)) (hd : (ops[j]?).bind (·.dst) = some d) (hv : tmps.getD d undef = .bool b) : Region.wanted o (yielded ops tmps) = (b == want) := by
  have ht : tmps[d]? = some (.bool b) := by
    rw [Array.getD_eq_getD_getElem?] at hv
    cases h : tmps[d]? with
    | none => rw [h] at hv; simp [undef] at hv
    | some x => rw [h] at hv; simp at hv; rw [hv]
  unfold Region.wanted
  rw [hg]
  simp only [yielded, hd, Option.bind_some, ht]
  cases b <;> cases want <;> rfl
theorem yieldsR_mono {R R' : Value → World → Prop} (h : ∀ u w, R u w → R' u w) : ∀ (P : Program) (r : Result Next), yieldsR R P r → yieldsR R' P r := by
  intro P r hr
  cases r with
  | ok n w =>
    cases n with
    | value u => exact h _ _ hr
    | skip => exact h _ _ hr
    | enter f args => exact Calls.mono hr fun e w'' ⟨u, e1, h2⟩ => ⟨u, e1, h _ _ h2⟩
    | _ => exact hr.elim
  | _ => exact hr.elim
/-- What an operation does: it yields a value, or isn't wanted. -/
def Does (P : Program) (ops : Array Oper) (o : Oper) (a : Act) (w : World) (R : Value → World → Prop) : Prop :=
  (Region.wanted o (yielded ops a.tmps) = true ∧ yieldsK P o a w R) ∨ (Region.wanted o (yielded ops a.tmps) = false ∧ R undef w)
theorem Does.plain {o : Oper} {a : Act} {w : World} {R : Value → World → Prop} (hg : o.guard = none) (h : yieldsK P o a w R) : Does P ops o a w R := .inl ⟨by unfold Region.wanted; rw [hg], h⟩
theorem Does.no {o : Oper} {a : Act} {w : World} {R : Value → World → Prop} {j d : Nat} {want : Bool} (hg : o.guard = some (j, want)) (hd : (ops[j]?).bind (·.dst) = some d) (hv : a.tmps.getD d undef = .bool (!want)) (h : R undef w) : Does P ops o a w R :=
  .inr ⟨by rw [wanted_at hg hd hv]; cases want <;> rfl, h⟩

theorem wpAny_props2 {Q : Exit → Act → World → Prop} (d0 c : Nat) (O : Nat → Prop) (hB : propsG ops d0 c = true) (S : Nat → Value → World → Prop) (w0 : World) (a0 : Act) (hS : ∀ i v w w', Keep O w0 w → S i v w → Keep O w w' → S i v w') (hsz : d0 + ops.size ≤ a0.tmps.size)
    (hstep : ∀ i o (a : Act) (w : World), ops[i]? = some o → i ≠ c → FrameI a0 d0 ops.size a → Keep O w0 w → (∀ e ∈ o.after, Region.binds md e = true → S e.on (a.tmps.getD (d0 + e.on) undef) w) → Does P ops o a w fun u w' => S i u w' ∧ Keep NoB w w')
    (hspec : ∀ o (a : Act) (w : World), ops[c]? = some o → FrameI a0 d0 ops.size a → Keep NoB w0 w → (∀ e ∈ o.after, Region.binds md e = true → S e.on (a.tmps.getD (d0 + e.on) undef) w) → Does P ops o a w fun u w' => (∀ v, (o.dst.isSome = true → v = u) → S c v w') ∧ Keep O w w')
    (hend : ∀ (a : Act) (w : World), FrameI a0 d0 ops.size a → Keep O w0 w → (∀ i, i < ops.size → S i (a.tmps.getD (d0 + i) undef) w) → Q .normal a w) :
    ∀ (fuel : Nat) (listed : Array Bool) (a : Act) (w : World), listed.size = ops.size → (∃ L : List Nat, L.length ≤ fuel ∧ ∀ i, i < ops.size → listed.getD i true = false → i ∈ L) → FrameI a0 d0 ops.size a → Keep O w0 w → (listed.getD c true = false → Keep NoB w0 w) →
      (∀ i, i < ops.size → listed.getD i true = true → S i (a.tmps.getD (d0 + i) undef) w) → wpAny P md ops Q fuel listed a w := by
  have hNO : ∀ {X Y : World}, Keep NoB X Y → Keep O X Y := fun h => h.mono (fun _ hf _ => hf.elim)
  intro fuel
  induction fuel with
  | zero =>
    intro listed a w hs ⟨L, hL, hin⟩ hF hK hC hA
    obtain rfl : L = [] := List.length_eq_zero_iff.1 (by omega)
    have hall : ∀ i, i < ops.size → listed.getD i true = true := fun i hi => by
      cases h : listed.getD i true
      · cases hin i hi h
      · rfl
    refine ⟨?_, hend a w hF hK fun i hi => hA i hi (hall i hi)⟩
    rw [List.eq_nil_iff_forall_not_mem]
    intro i hi
    obtain ⟨h1, o, ho, _⟩ := mem_ready.1 hi
    rw [hall i (Array.getElem?_eq_some_iff.1 ho).1] at h1; cases h1
  | succ fuel ih =>
    intro listed a w hs ⟨L, hL, hin⟩ hF hK hC hA
    refine ⟨fun h0 => hend a w hF hK fun i hi => hA i hi (no_readyG hB hs h0 i hi), fun i hi => ?_⟩
    obtain ⟨h1, o, ho, hall⟩ := mem_ready.1 hi
    have hi' := (Array.getElem?_eq_some_iff.1 ho).1
    obtain ⟨hd, hlt⟩ := propsG_at hB ho
    have hdeps : ∀ e ∈ o.after, Region.binds md e = true → S e.on (a.tmps.getD (d0 + e.on) undef) w := fun e he hb => by
      have h2 := hall e he hb
      have h3 := hlt e he
      refine hA e.on (by omega) ?_
      have h4 : e.on < listed.size := by omega
      simpa [h4] using h2
    have hKO : (if i = c then Keep NoB w0 w else True) := by
      split
      · rename_i e; subst e; exact hC h1
      · trivial
    have hdoes : Does P ops o a w fun u w' => (∀ v, (o.dst.isSome = true → v = u) → S i v w') ∧ Keep O w w' ∧ (i ≠ c → Keep NoB w w') := by
      by_cases e : i = c
      · subst e
        rw [if_pos rfl] at hKO
        rcases hspec o a w ho hF hKO hdeps with ⟨hw, hy⟩ | ⟨hw, h2, h3⟩
        · refine .inl ⟨hw, ?_⟩
          unfold yieldsK at hy ⊢
          exact yieldsR_mono (fun u w' ⟨h2, h3⟩ => ⟨h2, h3, fun h => absurd rfl h⟩) _ _ hy
        · exact .inr ⟨hw, h2, h3, fun h => absurd rfl h⟩
      · have hsome : o.dst.isSome = true := by
          rcases hd with h | ⟨_, h⟩
          · rw [h]; rfl
          · exact absurd h e
        rcases hstep i o a w ho e hF hK hdeps with ⟨hw, hy⟩ | ⟨hw, h2, h3⟩
        · refine .inl ⟨hw, ?_⟩
          unfold yieldsK at hy ⊢
          exact yieldsR_mono (fun u w' ⟨h2, h3⟩ => ⟨fun v hv => by rw [hv hsome]; exact h2, hNO h3, fun _ => h3⟩) _ _ hy
        · exact .inr ⟨hw, fun v hv => by rw [hv hsome]; exact h2, hNO h3, fun _ => h3⟩
    have hnext : ∀ u w', (∀ v, (o.dst.isSome = true → v = u) → S i v w') → Keep O w w' → (i ≠ c → Keep NoB w w') → wpAny P md ops Q fuel (listed.setIfInBounds i true) (a.put o.dst u) w' := by
      intro u w' hSu hk hkn
      have hfr : FrameI a0 d0 ops.size (a.put o.dst u) ∧ (∀ k, k < ops.size → k ≠ i → (a.put o.dst u).tmps.getD (d0 + k) undef = a.tmps.getD (d0 + k) undef) ∧ (o.dst.isSome = true → (a.put o.dst u).tmps.getD (d0 + i) undef = u) := by
        rcases hd with hd | ⟨hd, _⟩
        · rw [hd]
          have hds : d0 + i < a.tmps.size := by rw [hF.2.1]; omega
          have hget : ∀ s, (a.put (some (d0 + i)) u).tmps.getD s undef = if s = d0 + i then u else a.tmps.getD s undef := fun s => by
            unfold Act.put
            by_cases e : s = d0 + i
            · subst e; simp [hds]
            · rw [if_neg e]
              simp only [Array.getD_eq_getD_getElem?, Array.getElem?_setIfInBounds]
              rw [if_neg (fun h => e h.symm)]
          refine ⟨⟨hF.1, by unfold Act.put; simpa using hF.2.1, fun s hs' => ?_⟩, fun k hk' hki => ?_, fun _ => ?_⟩
          · rw [hget, if_neg (by omega)]; exact hF.2.2 s hs'
          · rw [hget, if_neg (by omega)]
          · rw [hget, if_pos rfl]
        · rw [hd]
          exact ⟨hF, fun _ _ _ => rfl, fun h => by cases h⟩
      obtain ⟨hF', hother, hself⟩ := hfr
      refine ih (listed.setIfInBounds i true) _ w' (by simpa using hs) ⟨L.erase i, ?_, fun k hk' hl => ?_⟩ hF' (hK.trans hk (fun _ h _ => h)) (fun hl => ?_) fun k hk' hl => ?_
      · rw [List.length_erase_of_mem (hin i hi' h1)]; omega
      · have hki : k ≠ i := by
          rintro rfl
          have : k < listed.size := by omega
          simp [this] at hl
        have hl2 : listed.getD k true = false := by rw [getD_set_ne true (Ne.symm hki)] at hl; exact hl
        exact (List.mem_erase_of_ne hki).2 (hin k hk' hl2)
      · have hci : c ≠ i := by
          rintro rfl
          have : c < listed.size := by omega
          simp [this] at hl
        rw [getD_set_ne true (Ne.symm hci)] at hl
        exact keepN (hC hl) (hkn (Ne.symm hci))
      · by_cases e : k = i
        · subst e
          exact hSu _ hself
        · rw [hother k hk' e]
          exact hS k _ _ _ hK (hA k hk' (by rw [getD_set_ne true (Ne.symm e)] at hl; exact hl)) hk
    unfold wpOp
    simp only [ho]
    rcases hdoes with ⟨hw, hy⟩ | ⟨hw, h2, h3, h4⟩
    · rw [if_pos hw]
      exact .inl (Oper.wp_of_yields hy fun u w' ⟨h2, h3, h4⟩ => hnext u w' h2 h3 h4)
    · rw [if_neg (by rw [hw]; decide)]
      exact hnext undef w h2 h3 h4
theorem wp_region_props2 {id : Nat} {Q : Exit → Act → World → Prop} {a0 : Act} {w : World} (d0 c : Nat) (O : Nat → Prop) (hm : P.follows .mixedOrders = true) (hB : propsG ops d0 c = true) (S : Nat → Value → World → Prop) (hS : ∀ i v w1 w', Keep O w w1 → S i v w1 → Keep O w1 w' → S i v w') (hsz : d0 + ops.size ≤ a0.tmps.size)
    (hstep : ∀ i o (a : Act) (w' : World), ops[i]? = some o → i ≠ c → FrameI a0 d0 ops.size a → Keep O w w' → (∀ e ∈ o.after, Region.binds .any e = true → S e.on (a.tmps.getD (d0 + e.on) undef) w') → Does P ops o a w' fun u w'' => S i u w'' ∧ Keep NoB w' w'')
    (hspec : ∀ o (a : Act) (w' : World), ops[c]? = some o → FrameI a0 d0 ops.size a → Keep NoB w w' → (∀ e ∈ o.after, Region.binds .any e = true → S e.on (a.tmps.getD (d0 + e.on) undef) w') → Does P ops o a w' fun u w'' => (∀ v, (o.dst.isSome = true → v = u) → S c v w'') ∧ Keep O w' w'')
    (hend : ∀ (a : Act) (w' : World), FrameI a0 d0 ops.size a → Keep O w w' → (∀ i, i < ops.size → S i (a.tmps.getD (d0 + i) undef) w') → Q .normal a w') : (Code.region id ops true).wp P Q a0 w :=
  wp_region_any hm (wpAny_props2 d0 c O hB S w a0 hS hsz hstep hspec hend _ _ a0 w.drew (by simp) ⟨List.range ops.size, by simp, fun i hi _ => List.mem_range.2 hi⟩ ⟨rfl, rfl, fun _ _ => rfl⟩ (Keep.refl O w).drew (fun _ => (Keep.refl NoB w).drew) fun i hi hl => by
    simp [hi] at hl)
end
end Go.Proofs.YtifobiajjhknbaaGreatDoor

namespace Go.Proofs.YtifobiajjhknbaaGreatDoor.F
open Go.RowKit W

/-- What each of the questions is answered. -/
def bsF (v : FV) (f : Fu) (i : Nat) : Bool := match i with
  | 0 => decide (v.na + v.nb + v.nl ≤ 64)
  | 1 => okN f.nm
  | 2 => S.okG f.ar f.rs
  | 3 => S.okG f.lc []
  | _ => C.okB f.bd
theorem bsF_all {v : FV} {f : Fu} {w : World} (h : FnAt w v f) (hb : ∀ i, i < 5 → bsF v f i = true) : okF f = true := by
  have h0 := of_decide_eq_true (hb 0 (by omega))
  have h1 : okN f.nm = true := hb 1 (by omega)
  have h2 : S.okG f.ar f.rs = true := hb 2 (by omega)
  have h3 : S.okG f.lc [] = true := hb 3 (by omega)
  have h4 : C.okB f.bd = true := hb 4 (by omega)
  rw [← h.la, ← h.lb, ← h.ll] at h0
  exact (okF_iff f).2 ⟨h1, h2, ((okG_one _).1 h3).2, h4, h0⟩
theorem bsF_not {v : FV} {f : Fu} {w : World} (h : FnAt w v f) (hb : ∃ i, i < 5 ∧ bsF v f i = false) : okF f = false := by
  refine okF_not fun ⟨h1, h2, h3, h4, h5⟩ => ?_
  obtain ⟨i, hi, hb⟩ := hb
  rw [h.la, h.lb, h.ll] at h5
  have hl : S.okG f.lc [] = true := (okG_one _).2 ⟨by rw [h.ll]; omega, h3⟩
  have hi : i = 0 ∨ i = 1 ∨ i = 2 ∨ i = 3 ∨ i = 4 := by omega
  rcases hi with rfl | rfl | rfl | rfl | rfl
  · exact absurd h5 (of_decide_eq_false hb)
  · rw [show bsF v f 1 = okN f.nm from rfl, h1] at hb; cases hb
  · rw [show bsF v f 2 = S.okG f.ar f.rs from rfl, h2] at hb; cases hb
  · rw [show bsF v f 3 = S.okG f.lc [] from rfl, hl] at hb; cases hb
  · rw [show bsF v f 4 = C.okB f.bd from rfl, h4] at hb; cases hb
theorem few_eq (v : FV) (f : Fu) : (((if v.na + v.nb + v.nl ≤ 64 then (0 : Int) else 70)) == 0) = bsF v f 0 := by
  show _ = decide _
  by_cases h : v.na + v.nb + v.nl ≤ 64
  · rw [if_pos h, decide_eq_true h]; rfl
  · rw [if_neg h, decide_eq_false h]; rfl
theorem chkN_eq (s : List UInt8) : (chkN s == 0) = okN s := by
  cases h : okN s
  · rw [chkN_no h]; rfl
  · rw [chkN_ok h]; rfl
theorem chkG_eq (a r : List Int) : (S.chkG a r == 0) = S.okG a r := by
  cases h : S.okG a r
  · rw [S.chkG_no h]; rfl
  · rw [S.chkG_ok h]; rfl
theorem chkB_eq (l : List C.I3) : (C.chkB l == 0) = C.okB l := by
  cases h : C.okB l
  · rw [C.chkB_no h]; rfl
  · rw [C.chkB_ok h]; rfl
/-- What the values are that Check's region yields. -/
def SC (v : FV) (f : Fu) (b : Nat) : Nat → Value → World → Prop
  | 0 => fun u _ => u = v.val
  | 1 => AskV 177 107 35 (fnV 120) (v.cells)
  | 2 => fun u _ => u = .pointer (some ⟨b, 0, none⟩)
  | 3 => fun u _ => u = .string v.S
  | 4 => AskV 178 192 9 (fnV 122) (#[.string v.S])
  | 5 => fun u _ => u = .pointer (some ⟨b, 1, none⟩)
  | 6 => fun u _ => u = .agg #[.slice v.A v.na v.ca, .slice v.B v.nb v.cb]
  | 7 => AskV 181 118 32 (fnV 57) (#[.slice v.A v.na v.ca, .slice v.B v.nb v.cb])
  | 8 => fun u _ => u = .pointer (some ⟨b, 3, none⟩)
  | 9 => fun u _ => u = .slice v.L v.nl v.cl
  | 10 => fun u _ => u = .agg #[.slice v.L v.nl v.cl, .slice none 0 0]
  | 11 => AskV 181 118 32 (fnV 57) (#[.slice v.L v.nl v.cl, .slice none 0 0])
  | 12 => fun u _ => u = .pointer (some ⟨b, 4, none⟩)
  | 13 => fun u _ => u = .slice v.D v.nd v.cd
  | 14 => AskV 182 196 33 (fnV 126) (#[.slice v.D v.nd v.cd])
  | 15 => fun u w => ∃ g u0 u1 u2 u3 u4, u = .slice (some ⟨g, 0, none⟩) 5 5 ∧ Blk w g 44 #[u0, u1, u2, u3, u4] ∧ AskV 177 107 35 (fnV 120) (v.cells) u0 w ∧ AskV 178 192 9 (fnV 122) (#[.string v.S]) u1 w ∧ AskV 181 118 32 (fnV 57) (#[.slice v.A v.na v.ca, .slice v.B v.nb v.cb]) u2 w ∧ AskV 181 118 32 (fnV 57) (#[.slice v.L v.nl v.cl, .slice none 0 0]) u3 w ∧ AskV 182 196 33 (fnV 126) (#[.slice v.D v.nd v.cd]) u4 w
  | 16 => fun u _ => u = .bool (okF f)
  | 17 => fun u _ => u = .bool (!okF f)
  | _ => fun _ _ => True
theorem SC_stable (v : FV) (f : Fu) (b : Nat) : ∀ i u w w', SC v f b i u w → Keep NoB w w' → SC v f b i u w'
  | 0, _, _, _, h, _ => h
  | 1, _, _, _, h, hk => AskV.keep h hk
  | 2, _, _, _, h, _ => h
  | 3, _, _, _, h, _ => h
  | 4, _, _, _, h, hk => AskV.keep h hk
  | 5, _, _, _, h, _ => h
  | 6, _, _, _, h, _ => h
  | 7, _, _, _, h, hk => AskV.keep h hk
  | 8, _, _, _, h, _ => h
  | 9, _, _, _, h, _ => h
  | 10, _, _, _, h, _ => h
  | 11, _, _, _, h, hk => AskV.keep h hk
  | 12, _, _, _, h, _ => h
  | 13, _, _, _, h, _ => h
  | 14, _, _, _, h, hk => AskV.keep h hk
  | 15, _, _, _, ⟨g, u0, u1, u2, u3, u4, e, hb, a0, a1, a2, a3, a4⟩, hk => ⟨g, u0, u1, u2, u3, u4, e, hb.keep hk id, a0.keep hk, a1.keep hk, a2.keep hk, a3.keep hk, a4.keep hk⟩
  | 16, _, _, _, h, _ => h
  | 17, _, _, _, h, _ => h
  | _ + 18, _, _, _, h, _ => h

end Go.Proofs.YtifobiajjhknbaaGreatDoor.F

namespace Go.Proofs.YtifobiajjhknbaaGreatDoor.F
open Go.RowKit W

/-- A function that is small, and reads as one. -/
def FnV (f : Fu) (v : FV) (w : World) : Prop := FnAt w v f ∧ SmF v
theorem FnV.keepN {f : Fu} {v : FV} {w w' : World} (h : FnV f v w) (hk : Keep NoB w w') : FnV f v w' := ⟨h.1.keepN hk, h.2⟩
end Go.Proofs.YtifobiajjhknbaaGreatDoor.F

namespace Go.Proofs.YtifobiajjhknbaaGreatDoor.C
open Go.RowKit O

end Go.Proofs.YtifobiajjhknbaaGreatDoor.C

namespace Go.Proofs.YtifobiajjhknbaaGreatDoor.C
open Go.RowKit O

/-! ### counts -/
/-! ### stretches -/
end Go.Proofs.YtifobiajjhknbaaGreatDoor.C

namespace Go.Proofs.YtifobiajjhknbaaGreatDoor.C
open Go.RowKit O

end Go.Proofs.YtifobiajjhknbaaGreatDoor.C

namespace Go.Proofs.YtifobiajjhknbaaGreatDoor.C
open Go.RowKit O

end Go.Proofs.YtifobiajjhknbaaGreatDoor.C

namespace Go.Proofs.YtifobiajjhknbaaGreatDoor.C
open Go.RowKit O

end Go.Proofs.YtifobiajjhknbaaGreatDoor.C

namespace Go.Proofs.YtifobiajjhknbaaGreatDoor.O
open Go.RowKit

theorem num_case (l : List UInt8) (p M : Nat) : ∃ n r q : Nat, V.NumR l p M = (n, r, q) ∧ (r = 0 → n ≤ M ∧ n < 18446744073709551616) ∧ (r ≠ 0 → n = 0) := by
  refine ⟨_, _, _, rfl, fun h => ?_, fun h => ?_⟩
  · have := num_ok (l := l) (p := p) (m := M) h; exact ⟨this.2.1, this.2.2.1⟩
  · exact (V.bnd_zero (l.drop p) M h).1
theorem hi_nat {k : Int} (h1 : k ≠ 1) : ∃ M : Nat, hi k = (M : Int) ∧ M ≤ 511 := by
  refine ⟨(hi k).toNat, ?_, ?_⟩ <;> unfold hi <;> rw [if_neg h1] <;> repeat' split
  all_goals simp
theorem keepBr {w w1 w2 : World} {br : Nat} (h : Keep NoB w w1) (h2 : Keep (fun k => k = br) w1 w2) : Keep (fun k => k = br) w w2 := (h.mono (fun _ hf _ => hf.elim)).trans h2 (fun _ ho _ => ho)
theorem blk5 {w : World} {g : Nat} {t : TypeId} {a0 a1 a2 a3 a4 : Value} (h : Blk w g t #[a0, a1, a2, a3, a4]) :
    w.cell? ⟨g, 0, none⟩ = some a0 ∧ w.cell? ⟨g, 1, none⟩ = some a1 ∧ w.cell? ⟨g, 2, none⟩ = some a2 ∧ w.cell? ⟨g, 3, none⟩ = some a3 ∧ w.cell? ⟨g, 4, none⟩ = some a4 := ⟨h.cell 0, h.cell 1, h.cell 2, h.cell 3, h.cell 4⟩
theorem reel_lt {w : World} {br p : Nat} {O : Nat → Prop} {l : List UInt8} (h : V.ReelAt w br O l p) : br < w.heap.size := by
  obtain ⟨A, c, hb, _⟩ := h.cells
  exact hb.lt

set_option maxHeartbeats 2000000 in
theorem read_any (k : Int) (sh gu : Value) (w : World) (br : Nat) (O : Nat → Prop) (l : List UInt8) (p : Nat) (h : V.ReelAt w br O l p) (hlen : l.length ≤ 140737488355328) :
    Calls Tryz.prog 228 #[opV k sh gu, .pointer (some ⟨br, 0, none⟩)] w (V.Reads w br O l (decP k l p).2.2 (.int .i64 (decP k l p).1) (decP k l p).2.1) := by
  have hK := (Keep.refl NoB w).alloc (.cells #[.int .i64 k, .int .i64 (lo k), .int .i64 (hi k), sh, gu] 134)
  have h1 := h.keep hK (fun _ _ => id)
  have hb0 := Blk.new w 134 #[.int .i64 k, .int .i64 (lo k), .int .i64 (hi k), sh, gu]
  have hbr := reel_lt h
  unfold opV
  by_cases h0 : k = 0
  · subst h0
    have HX : Hid (decP 0 l p = (0, 0, p)) := rfl
    clear hb0 hbr
    go_enter Tryz.func228, Tryz.ntmps228
    go_wp2
    go_ret2
    rw [HX.out]
    exact ⟨rfl, h1, hK.mono (fun _ hf _ => hf.elim)⟩
  · have q0 : (k == 0) = false := by rw [beq_eq_false_iff_ne]; exact h0
    by_cases h1k : k = 1
    · subst h1k
      have HS := Lib.hid (V.rsigned_any _ br O l p (lo 1) (hi 1) h1 hlen)
      have HX : Hid (decP 1 l p = V.SigR l p (lo 1) (hi 1)) := rfl
      rw [HX.out]
      generalize V.SigR l p (lo 1) (hi 1) = x at HS ⊢
      clear HX h h1 hb0 hbr
      go_enter Tryz.func228, Tryz.ntmps228
      go_wp2_with fail
      refine HS.out.mono ?_
      rintro e w1 ⟨rfl, h2, k2⟩
      go_wp2
      go_ret2
      exact ⟨rfl, h2, keepBr hK k2⟩
    · have q1 : (k == 1) = false := by rw [beq_eq_false_iff_ne]; exact h1k
      obtain ⟨M, hM, hM5⟩ := hi_nat h1k
      have hw : IntKind.u64.wrap (M : Int) = (M : Int) := by simp [IntKind.wrap, IntKind.bits, IntKind.signed]; omega
      have HS := Lib.hid (V.rnumber_any _ br O l p M h1 hlen)
      obtain ⟨n, r, q, hN, hN0, hN1⟩ := num_case l p M
      have HX : Hid (decP k l p = if r ≠ 0 then (0, r, q) else if inK k n = true then ((n : Int), 0, q) else (0, 40, q)) := by
        show _ = _
        unfold decP
        rw [if_neg h0, if_neg h1k, show (hi k).toNat = M by omega, hN]
      rw [hN] at HS
      have HG := Lib.hid (fun w t ht => has_gen k (n : Int) (opV k sh gu) t w ht ⟨sh, gu, rfl⟩)
      unfold opV at HG
      rw [hM] at hb0 HG HS ⊢
      have hK' : Keep NoB w (w.alloc (.cells #[.int .i64 k, .int .i64 (lo k), .int .i64 (M : Int), sh, gu] 134)) := (Keep.refl NoB w).alloc _
      clear h h1 hK hN hM
      by_cases hr : r = 0
      · subst hr
        obtain ⟨hn1, hn2⟩ := hN0 rfl
        have hwn : IntKind.i64.wrap (n : Int) = (n : Int) := by simp [IntKind.wrap, IntKind.bits, IntKind.signed]; omega
        clear hN0 hN1
        cases hin : inK k (n : Int)
        · have HX2 : Hid (decP k l p = (0, 40, q)) := by show _ = _; rw [HX.out, hin]; simp
          have HH := Lib.hid (fun w => HG.out w false hin)
          clear HX HG hin
          go_enter Tryz.func228, Tryz.ntmps228
          go_wp2_with fail
          refine HS.out.mono ?_
          rintro e w1 ⟨rfl, h2, k2⟩
          have b1 := hb0.keep k2 (fun e => by omega)
          obtain ⟨c0, c1, c2, c3, c4⟩ := blk5 b1
          go_wp2_with fail
          refine (HH.out _).mono ?_
          rintro e w2 ⟨rfl, k3⟩
          go_wp2
          go_ret2
          rw [HX2.out]
          exact ⟨rfl, h2.keep k3 (fun _ _ => id), (keepBr hK' k2).trans (k3.mono (fun _ hf _ => hf.elim)) (fun _ ho _ => ho)⟩
        · have HX2 : Hid (decP k l p = ((n : Int), 0, q)) := by show _ = _; rw [HX.out, hin]; simp
          have HH := Lib.hid (fun w => HG.out w true hin)
          clear HX HG hin
          go_enter Tryz.func228, Tryz.ntmps228
          go_wp2_with fail
          refine HS.out.mono ?_
          rintro e w1 ⟨rfl, h2, k2⟩
          have b1 := hb0.keep k2 (fun e => by omega)
          obtain ⟨c0, c1, c2, c3, c4⟩ := blk5 b1
          go_wp2_with fail
          refine (HH.out _).mono ?_
          rintro e w2 ⟨rfl, k3⟩
          go_wp2
          go_ret2
          rw [HX2.out]
          exact ⟨rfl, h2.keep k3 (fun _ _ => id), (keepBr hK' k2).trans (k3.mono (fun _ hf _ => hf.elim)) (fun _ ho _ => ho)⟩
      · have hr1 : ((r : Int) != 0) = true := by rw [bne_iff_ne]; omega
        have HX2 : Hid (decP k l p = (0, r, q)) := by show _ = _; rw [HX.out, if_pos hr]
        clear HX HG hN0 hN1 hr
        go_enter Tryz.func228, Tryz.ntmps228
        go_wp2_with fail
        refine HS.out.mono ?_
        rintro e w1 ⟨rfl, h2, k2⟩
        have b1 := hb0.keep k2 (fun e => by omega)
        obtain ⟨c0, c1, c2, c3, c4⟩ := blk5 b1
        go_wp2
        go_ret2
        rw [HX2.out]
        exact ⟨rfl, h2, keepBr hK' k2⟩

/-! ### Decode -/

end Go.Proofs.YtifobiajjhknbaaGreatDoor.O

namespace Go.Proofs.YtifobiajjhknbaaGreatDoor.O
open Go.RowKit

end Go.Proofs.YtifobiajjhknbaaGreatDoor.O

namespace Go.Proofs.YtifobiajjhknbaaGreatDoor.C
open Go.RowKit O

end Go.Proofs.YtifobiajjhknbaaGreatDoor.C

namespace Go.Proofs.YtifobiajjhknbaaGreatDoor.C
open Go.RowKit O

/-- The numbers of what is read fit. -/
theorem ok1_I {x : I3} (h : ok1 x = true) : O.I64 x.2.1 ∧ O.I64 x.2.2 := ⟨(in_bounds (ok_op h).2.1).1, (in_bounds (ok_op h).2.2).1⟩
end Go.Proofs.YtifobiajjhknbaaGreatDoor.C

namespace Go.Proofs.YtifobiajjhknbaaGreatDoor.F
open Go.RowKit W

/-- A function whose lists are owned: each lies in a block of P. -/
structure OwnF (W : World) (P : Nat → Prop) (v : FV) (f : Fu) : Prop where
  nm : v.S.data.toList = f.nm
  oa : Own W 3 1 P (.slice v.A v.na v.ca) v.na (ivs f.ar)
  ob : Own W 3 1 P (.slice v.B v.nb v.cb) v.nb (ivs f.rs)
  ol : Own W 3 1 P (.slice v.L v.nl v.cl) v.nl (ivs f.lc)
  od : Own W 37 3 P (.slice v.D v.nd v.cd) v.nd (C.iis f.bd)
  hI : C.AllI f.bd
theorem OwnF.keep {W W' : World} {P O : Nat → Prop} {v : FV} {f : Fu} (h : OwnF W P v f) (hk : Keep O W W') (hn : ∀ k, P k → ¬ O k) : OwnF W' P v f :=
  ⟨h.nm, h.oa.keep hk hn, h.ob.keep hk hn, h.ol.keep hk hn, h.od.keep hk hn, h.hI⟩
theorem OwnF.keepN {W W' : World} {P : Nat → Prop} {v : FV} {f : Fu} (h : OwnF W P v f) (hk : Keep NoB W W') : OwnF W' P v f := h.keep hk (fun _ _ => id)
theorem OwnF.mono {W : World} {P P' : Nat → Prop} {v : FV} {f : Fu} (h : OwnF W P v f) (hP : ∀ k, P k → k < W.heap.size → P' k) : OwnF W P' v f :=
  ⟨h.nm, h.oa.mono hP, h.ob.mono hP, h.ol.mono hP, h.od.mono hP, h.hI⟩
theorem own_rdS {w : World} {E size n : Nat} {P : Nat → Prop} {A : Option Addr} {c : Nat} {xs : List Value} (h : Own w E size P (.slice A n c) n xs) : Rd w A xs := by
  obtain ⟨A', c', e, _, _, hr, _⟩ := h.form
  injection e with e1 e2 e3
  subst e1; exact hr
theorem own_lenD {w : World} {O : Nat → Prop} {v : Value} {l : List C.I3} {n : Nat} (h : Own w 37 3 O v n (C.iis l)) : l.length = n := by have := h.1.1; rw [C.iis_length] at this; omega
theorem OwnF.fn {W : World} {P : Nat → Prop} {v : FV} {f : Fu} (h : OwnF W P v f) : FnAt W v f :=
  ⟨h.nm, own_rdS h.oa, own_rdS h.ob, own_rdS h.ol, own_rdS h.od, own_len h.oa, own_len h.ob, own_len h.ol, own_lenD h.od, h.hI⟩
/-- What has been read so far. -/
structure Prt (w0 : World) (F : Nat) (O : Nat → Prop) (At : World → Nat → Prop) (f : Fu) (q : Nat) (v : FV) (W : World) : Prop where
  blk : Blk W F 35 v.cells
  own : OwnF W (Fresh w0) v f
  at_ : At W q
  keep : Keep (fun k => k = F ∨ O k) w0 W
theorem Prt.put {w0 W w1 W' : World} {F q q' : Nat} {O : Nat → Prop} {At : World → Nat → Prop} {f f' : Fu} {v v' : FV} (h : Prt w0 F O At f q v W) (hF : F < w0.heap.size)
    (hAt : ∀ w w' q, At w q → Keep (fun k => k = F) w w' → At w' q) (k1 : Keep O W w1) (hv : OwnF w1 (Fresh w0) v' f') (hat : At w1 q') (k2 : Keep (fun k => k = F) w1 W') (hb : Blk W' F 35 v'.cells) : Prt w0 F O At f' q' v' W' :=
  ⟨hb, hv.keep k2 (fun k hk e => by subst e; unfold Fresh at hk; omega), hAt _ _ _ hat k2, (h.keep.trans k1 (fun k ho _ => .inr ho)).trans k2 (fun k e _ => .inl e)⟩

/-- The function so far, part by part. -/
def stN (l : List UInt8) (x : Fu × Nat) : Option (Fu × Nat) := (nmR l x.2).map fun a => ({ x.1 with nm := a.1 }, a.2)
def stG (l : List UInt8) (x : Fu × Nat) : Option (Fu × Nat) := (S.decG l x.2).map fun g => ({ x.1 with ar := g.1.1, rs := g.1.2 }, g.2)
def stL (l : List UInt8) (x : Fu × Nat) : Option (Fu × Nat) := (lcR l x.2).map fun c => ({ x.1 with lc := c.1 }, c.2)
def stB (l : List UInt8) (x : Fu × Nat) : Option (Fu × Nat) := (C.decB l x.2).map fun d => ({ x.1 with bd := d.1 }, d.2)
def st (l : List UInt8) (p : Nat) : Nat → Option (Fu × Nat)
  | 0 => some (nilF, p)
  | 1 => (some (nilF, p)).bind (stN l)
  | 2 => ((some (nilF, p)).bind (stN l)).bind (stG l)
  | 3 => (((some (nilF, p)).bind (stN l)).bind (stG l)).bind (stL l)
  | _ => ((((some (nilF, p)).bind (stN l)).bind (stG l)).bind (stL l)).bind (stB l)
end Go.Proofs.YtifobiajjhknbaaGreatDoor.F

namespace Go.Proofs.YtifobiajjhknbaaGreatDoor.F
open Go.RowKit W

def nilV : FV := ⟨⟨#[]⟩, none, 0, 0, none, 0, 0, none, 0, 0, none, 0, 0⟩
end Go.Proofs.YtifobiajjhknbaaGreatDoor.F

namespace Go.Proofs.YtifobiajjhknbaaGreatDoor.V
open Go.ChangeShapes Go.WideShapes Go.ChangeAt Go.RowKit

section
variable {H : Type} {enc : TypeId × Value → H} {w : World} {base b0 : Nat} {spare : Nat → Bool} {held : Bool} {r : Reach} {v : Value} {d : DataW H} {p : List MemPlace}
end

end Go.Proofs.YtifobiajjhknbaaGreatDoor.V

namespace Go.Proofs.YtifobiajjhknbaaGreatDoor.F
open Go.RowKit Go.ChangeShapes Go.WideShapes W

end Go.Proofs.YtifobiajjhknbaaGreatDoor.F

namespace Go.Proofs.YtifobiajjhknbaaGreatDoor.I
open Go.RowKit W

/-- A shape's value. -/
structure SV where
  A : Option Addr
  n : Nat
  c : Nat
def SV.val (s : SV) : Value := .slice s.A s.n s.c
def ShAt (w : World) (s : SV) (l : List Int) : Prop := Rd w s.A (ivs l) ∧ l.length = s.n
theorem ShAt.keep {O : Nat → Prop} {w w' : World} {s : SV} {l : List Int} (h : ShAt w s l) (hk : Keep O w w') (hO : ∀ k, k < w.heap.size → ¬ O k) : ShAt w' s l :=
  ⟨h.1.keepN (hk.mono (fun k ho hl => absurd ho (hO k hl))), h.2⟩
/-- An image's value: where its lists lie. -/
structure IV where
  X : Option Addr
  nx : Nat
  cx : Nat
  Y : Option Addr
  ny : Nat
  cy : Nat
def IV.cells (v : IV) : Array Value := #[.slice v.X v.nx v.cx, .slice v.Y v.ny v.cy]
def IV.val (v : IV) : Value := .agg v.cells
abbrev SE := SV × List Int
abbrev FE := F.FV × F.Fu
def svs (es : List SE) : List Value := es.map fun e => e.1.val
def fvs (fs : List FE) : List Value := fs.flatMap fun e => e.1.cells.toList
def imOf (es : List SE) (fs : List FE) : Im := ⟨es.map fun e => e.2, fs.map fun e => e.2⟩
theorem cells_len (v : F.FV) : v.cells.toList.length = 5 := rfl
theorem fvs_length (fs : List FE) : (fvs fs).length = fs.length * 5 := by
  induction fs with
  | nil => rfl
  | cons v l ih =>
    unfold fvs at ih ⊢
    rw [List.flatMap_cons, List.length_append, ih, cells_len, List.length_cons]; omega
theorem svs_length (es : List SE) : (svs es).length = es.length := by simp [svs]
theorem fvs_append (l r : List FE) : fvs (l ++ r) = fvs l ++ fvs r := by simp [fvs]
theorem svs_append (l r : List SE) : svs (l ++ r) = svs l ++ svs r := by simp [svs]
theorem fvs_at : ∀ (fs : List FE) (i j : Nat) (h : i < fs.length), j < 5 → (fvs fs)[i * 5 + j]? = fs[i].1.cells.toList[j]?
  | v :: l, 0, j, _, hj => by
    unfold fvs
    rw [List.flatMap_cons, Nat.zero_mul, Nat.zero_add, List.getElem?_append_left (by rw [cells_len]; exact hj)]; rfl
  | v :: l, i + 1, j, h, hj => by
    have := fvs_at l i j (by simpa using h) hj
    unfold fvs at this ⊢
    rw [List.flatMap_cons, show (i + 1) * 5 + j = 5 + (i * 5 + j) by omega, List.getElem?_append_right (by rw [cells_len]; omega), cells_len, Nat.add_sub_cancel_left]
    exact this
theorem svs_at (es : List SE) (i : Nat) (h : i < es.length) : (svs es)[i]? = some es[i].1.val := by simp [svs, h]

/-- What an image's lists hold, wherever the value itself lies. -/
structure ImAt (w : World) (v : IV) (es : List SE) (fs : List FE) : Prop where
  rx : Rd w v.X (svs es)
  ry : Rd w v.Y (fvs fs)
  lx : es.length = v.nx
  ly : fs.length = v.ny
  hs : ∀ e ∈ es, ShAt w e.1 e.2
  hf : ∀ e ∈ fs, F.FnAt w e.1 e.2
theorem ImAt.keep {O : Nat → Prop} {w w' : World} {v : IV} {es : List SE} {fs : List FE} (h : ImAt w v es fs) (hk : Keep O w w') (hO : ∀ k, k < w.heap.size → ¬ O k) : ImAt w' v es fs :=
  have h2 : Keep NoB w w' := hk.mono (fun k ho hl => absurd ho (hO k hl))
  ⟨h.rx.keepN h2, h.ry.keepN h2, h.lx, h.ly, fun e he => (h.hs e he).keep h2 (fun _ _ => id), fun e he => (h.hf e he).keepN h2⟩
theorem ImAt.keepN {w w' : World} {v : IV} {es : List SE} {fs : List FE} (h : ImAt w v es fs) (hk : Keep NoB w w') : ImAt w' v es fs := h.keep hk (fun _ _ => id)
/-- It is no greater than statements go through. -/
structure SmI (es : List SE) (fs : List FE) : Prop where
  ns : es.length ≤ 70
  nf : fs.length ≤ 70
  sh : ∀ e ∈ es, e.1.n ≤ 100
  fn : ∀ e ∈ fs, F.SmF e.1
/-- Shape i, and function i, in memory. -/
theorem shape_at {w : World} {X : Option Addr} {es : List SE} (h : Rd w X (svs es)) {i : Nat} (hi : i < es.length) : ∃ g off, X = some ⟨g, off, none⟩ ∧ w.cell? ⟨g, off + i, none⟩ = some (.slice es[i].1.A es[i].1.n es[i].1.c) := by
  obtain ⟨g, off, e, hc⟩ := h (by rw [svs_length]; omega)
  exact ⟨g, off, e, hc i _ (svs_at es i hi)⟩
theorem fun_at {w : World} {Y : Option Addr} {fs : List FE} (h : Rd w Y (fvs fs)) {i : Nat} (hi : i < fs.length) : ∃ g off, Y = some ⟨g, off, none⟩ ∧ w.cell? ⟨g, off + i * 5, none⟩ = some (.string fs[i].1.S) ∧ w.cell? ⟨g, off + i * 5 + 1, none⟩ = some (.slice fs[i].1.A fs[i].1.na fs[i].1.ca) ∧
    w.cell? ⟨g, off + i * 5 + 2, none⟩ = some (.slice fs[i].1.B fs[i].1.nb fs[i].1.cb) ∧ w.cell? ⟨g, off + i * 5 + 3, none⟩ = some (.slice fs[i].1.L fs[i].1.nl fs[i].1.cl) ∧ w.cell? ⟨g, off + i * 5 + 4, none⟩ = some (.slice fs[i].1.D fs[i].1.nd fs[i].1.cd) := by
  obtain ⟨g, off, e, hc⟩ := h (by rw [fvs_length]; omega)
  exact ⟨g, off, e, hc _ _ (fvs_at fs i 0 hi (by omega)), hc _ _ (fvs_at fs i 1 hi (by omega)), hc _ _ (fvs_at fs i 2 hi (by omega)), hc _ _ (fvs_at fs i 3 hi (by omega)), hc _ _ (fvs_at fs i 4 hi (by omega))⟩

/-- An image whose lists are owned: each lies in a block of P. -/
structure OwnIm (W : World) (P : Nat → Prop) (v : IV) (es : List SE) (fs : List FE) : Prop where
  ox : Own W 53 1 P (.slice v.X v.nx v.cx) v.nx (svs es)
  oy : Own W 35 5 P (.slice v.Y v.ny v.cy) v.ny (fvs fs)
  hs : ∀ e ∈ es, Own W 3 1 P (.slice e.1.A e.1.n e.1.c) e.1.n (ivs e.2)
  hf : ∀ e ∈ fs, F.OwnF W P e.1 e.2
theorem OwnIm.keep {W W' : World} {P O : Nat → Prop} {v : IV} {es : List SE} {fs : List FE} (h : OwnIm W P v es fs) (hk : Keep O W W') (hn : ∀ k, P k → ¬ O k) : OwnIm W' P v es fs :=
  ⟨h.ox.keep hk hn, h.oy.keep hk hn, fun e he => (h.hs e he).keep hk hn, fun e he => (h.hf e he).keep hk hn⟩
theorem OwnIm.keepN {W W' : World} {P : Nat → Prop} {v : IV} {es : List SE} {fs : List FE} (h : OwnIm W P v es fs) (hk : Keep NoB W W') : OwnIm W' P v es fs := h.keep hk (fun _ _ => id)
theorem OwnIm.mono {W : World} {P P' : Nat → Prop} {v : IV} {es : List SE} {fs : List FE} (h : OwnIm W P v es fs) (hP : ∀ k, P k → k < W.heap.size → P' k) : OwnIm W P' v es fs :=
  ⟨h.ox.mono hP, h.oy.mono hP, fun e he => (h.hs e he).mono hP, fun e he => (h.hf e he).mono hP⟩
theorem OwnIm.im {W : World} {P : Nat → Prop} {v : IV} {es : List SE} {fs : List FE} (h : OwnIm W P v es fs) : ImAt W v es fs :=
  ⟨F.own_rdS h.ox, F.own_rdS h.oy, by have := h.ox.1.1; rw [svs_length] at this; omega, by have := h.oy.1.1; rw [fvs_length] at this; omega,
    fun e he => ⟨F.own_rdS (h.hs e he), F.own_len (h.hs e he)⟩, fun e he => (h.hf e he).fn⟩
def nilW : IV := ⟨none, 0, 0, none, 0, 0⟩
theorem nil_own (W : World) (P : Nat → Prop) : OwnIm W P nilW [] [] := ⟨Own.nil _ _ _ _, Own.nil _ _ _ _, (fun _ h => nomatch h), (fun _ h => nomatch h)⟩
end Go.Proofs.YtifobiajjhknbaaGreatDoor.I

namespace Go.Proofs.YtifobiajjhknbaaGreatDoor.F
open Go.RowKit W

/-- A function whose lists a machine holds. -/
structure LgF (v : FV) : Prop where
  sz : v.S.size ≤ 140737488355328
  na : v.na ≤ 140737488355328
  nb : v.nb ≤ 140737488355328
  nl : v.nl ≤ 140737488355328
  nd : v.nd ≤ 140737488355328
theorem SmF.lg {v : FV} (h : SmF v) : LgF v := ⟨by have := h.sz; omega, by have := h.na; omega, by have := h.nb; omega, by have := h.nl; omega, by have := h.nd; omega⟩

set_option maxRecDepth 100000 in
set_option maxHeartbeats 2000000 in
theorem fewL_any (v : FV) (w : World) (h : LgF v) (R : Int) (hR : Hid ((if v.na + v.nb + v.nl ≤ 64 then (0 : Int) else 70) = R)) :
    Calls Tryz.prog 120 #[v.val] w fun e w' => e = .returned (.int .i64 R) ∧ Keep NoB w w' := by
  obtain ⟨S, A, na, ca, B, nb, cb, L, nl, cl, D, nd, cd⟩ := v
  obtain ⟨_, q1, q2, q3, _⟩ := h
  dsimp only at q1 q2 q3 hR
  have bx := Blk.new w 35 (FV.cells ⟨S, A, na, ca, B, nb, cb, L, nl, cl, D, nd, cd⟩)
  have k0 := (Keep.refl NoB w).alloc (.cells (FV.cells ⟨S, A, na, ca, B, nb, cb, L, nl, cl, D, nd, cd⟩) 35)
  dsimp only [FV.val, FV.cells] at bx k0 ⊢
  by_cases h1 : na + nb + nl ≤ 64
  · obtain rfl : 0 = R := by rw [← hR.out, if_pos h1]
    clear hR
    go_enter Tryz.func120, Tryz.ntmps120
    go_wp2
    go_ret
    exact ⟨rfl, k0⟩
  · obtain rfl : 70 = R := by rw [← hR.out, if_neg h1]
    have h2 : (64 : Int) < (na : Int) + (nb : Int) + (nl : Int) := by omega
    clear hR h1
    go_enter Tryz.func120, Tryz.ntmps120
    go_wp2
    go_ret
    exact ⟨rfl, k0⟩

set_option maxRecDepth 100000 in
set_option maxHeartbeats 4000000 in
theorem checksL_any (v : FV) (f : Fu) (w : World) (h : FnAt w v f) (hs : LgF v) (g : Nat) (u0 u1 u2 u3 u4 : Value) (hb : Blk w g 44 #[u0, u1, u2, u3, u4])
    (a0 : AskV 177 107 35 (fnV 120) (v.cells) u0 w)
    (a1 : AskV 178 192 9 (fnV 122) (#[.string v.S]) u1 w)
    (a2 : AskV 181 118 32 (fnV 57) (#[.slice v.A v.na v.ca, .slice v.B v.nb v.cb]) u2 w)
    (a3 : AskV 181 118 32 (fnV 57) (#[.slice v.L v.nl v.cl, .slice none 0 0]) u3 w)
    (a4 : AskV 182 196 33 (fnV 126) (#[.slice v.D v.nd v.cd]) u4 w) :
    Calls Tryz.prog 118 #[.slice (some ⟨g, 0, none⟩) 5 5] w fun e w' => e = .returned (.bool (okF f)) ∧ Keep NoB w w' := by
  obtain ⟨c0, p0, rfl, a0, b0⟩ := a0
  obtain ⟨c1, p1, rfl, a1, b1⟩ := a1
  obtain ⟨c2, p2, rfl, a2, b2⟩ := a2
  obtain ⟨c3, p3, rfl, a3, b3⟩ := a3
  obtain ⟨c4, p4, rfl, a4, b4⟩ := a4
  refine (every_any (some ⟨g, 0, none⟩) [(177, #[.pointer (some ⟨c0, 0, none⟩), .pointer (some ⟨p0, 0, none⟩)]), (178, #[.pointer (some ⟨c1, 0, none⟩), .pointer (some ⟨p1, 0, none⟩)]), (181, #[.pointer (some ⟨c2, 0, none⟩), .pointer (some ⟨p2, 0, none⟩)]), (181, #[.pointer (some ⟨c3, 0, none⟩), .pointer (some ⟨p3, 0, none⟩)]), (182, #[.pointer (some ⟨c4, 0, none⟩), .pointer (some ⟨p4, 0, none⟩)])] 5 5 w rfl (by decide) (bsF v f) (fun _ W => Keep NoB w W) (fun W => Keep NoB w W) ?hcf ?hr ?hq (Keep.refl _ _)).mono ?_
  case hcf =>
    intro q hq
    simp only [List.mem_cons, List.not_mem_nil, or_false] at hq
    rcases hq with rfl | rfl | rfl | rfl | rfl
    · exact enters_of Tryz.func177 (by kernel_rfl) rfl
    · exact enters_of Tryz.func178 (by kernel_rfl) rfl
    · exact enters_of Tryz.func181 (by kernel_rfl) rfl
    · exact enters_of Tryz.func181 (by kernel_rfl) rfl
    · exact enters_of Tryz.func182 (by kernel_rfl) rfl
  case hr =>
    intro i W hK _
    refine ⟨g, 0, rfl, fun j u hu => ?_⟩
    rw [Nat.zero_add, (hb.keep hK id).cell j]
    simpa using hu
  case hq =>
    intro i hi W hK
    have hf := h.keepN hK
    have hi : i = 0 ∨ i = 1 ∨ i = 2 ∨ i = 3 ∨ i = 4 := by simp at hi; omega
    rcases hi with rfl | rfl | rfl | rfl | rfl
    · refine (askedFun_any 120 (enters_of Tryz.func120 (by kernel_rfl) rfl) v c0 p0 W (a0.keep hK id) (b0.keep hK id) _ (bsF v f 0) (few_eq v f) (fewL_any v W hs _ rfl)).mono ?_
      rintro e W' ⟨rfl, hk⟩
      exact ⟨rfl, fun _ => keepN hK hk, fun _ => keepN hK hk⟩
    · refine (askedStr_any 122 (enters_of Tryz.func122 (by kernel_rfl) rfl) v.S c1 p1 W (a1.keep hK id) (b1.keep hK id) (chkN f.nm) (bsF v f 1) (chkN_eq _) ?_).mono ?_
      · refine (named_any v.S f.nm W hf.nm (by have := hs.sz; omega) _ rfl).mono ?_
        rintro e W' ⟨rfl, rfl⟩
        exact ⟨rfl, Keep.refl _ _⟩
      rintro e W' ⟨rfl, hk⟩
      exact ⟨rfl, fun _ => keepN hK hk, fun _ => keepN hK hk⟩
    · refine (askedSig_any 57 (enters_of Tryz.func57 (by kernel_rfl) rfl) _ _ c2 p2 W (a2.keep hK id) (b2.keep hK id) (S.chkG f.ar f.rs) (bsF v f 2) (chkG_eq _ _) (S.chkG_any v.A f.ar v.na v.ca v.B f.rs v.nb v.cb W hf.ra hf.rb hf.la hf.lb (by have := hs.na; omega) (by have := hs.nb; omega) _ rfl)).mono ?_
      rintro e W' ⟨rfl, hk⟩
      exact ⟨rfl, fun _ => keepN hK hk, fun _ => keepN hK hk⟩
    · refine (askedSig_any 57 (enters_of Tryz.func57 (by kernel_rfl) rfl) _ _ c3 p3 W (a3.keep hK id) (b3.keep hK id) (S.chkG f.lc []) (bsF v f 3) (chkG_eq _ _) (S.chkG_any v.L f.lc v.nl v.cl none [] 0 0 W hf.rl (Rd.none_ _ _) hf.ll rfl (by have := hs.nl; omega) (by omega) _ rfl)).mono ?_
      rintro e W' ⟨rfl, hk⟩
      exact ⟨rfl, fun _ => keepN hK hk, fun _ => keepN hK hk⟩
    · refine (askedBod_any 126 (enters_of Tryz.func126 (by kernel_rfl) rfl) v.D v.nd v.cd c4 p4 W (a4.keep hK id) (b4.keep hK id) (C.chkB f.bd) (bsF v f 4) (chkB_eq _) (C.cchk_any v.D f.bd v.nd v.cd W hf.rd hf.ld (by have := hs.nd; omega) _ rfl)).mono ?_
      rintro e W' ⟨rfl, hk⟩
      exact ⟨rfl, fun _ => keepN hK hk, fun _ => keepN hK hk⟩
  rintro e w' (⟨rfl, hb, hk⟩ | ⟨rfl, hb, hk⟩)
  · exact ⟨by rw [bsF_all h hb], hk⟩
  · exact ⟨by rw [bsF_not h hb], hk⟩

set_option maxRecDepth 100000 in
set_option maxHeartbeats 8000000 in
theorem checkL_any (v : FV) (f : Fu) (w : World) (h : FnAt w v f) (hs : LgF v) (R : Int) (hR : Hid (chkF f = R)) :
    Calls Tryz.prog 85 #[v.val] w fun e w' => e = .returned (.int .i64 R) ∧ Keep NoB w w' := by
  have bx := Blk.new w 35 v.cells
  have k0 := (Keep.refl NoB w).alloc (.cells v.cells 35)
  have HF := Lib.hid (h.keepN k0)
  obtain ⟨S, A, na, ca, B, nb, cb, L, nl, cl, D, nd, cd⟩ := v
  have HE := Lib.hid (fun W hf g u0 u1 u2 u3 u4 hb a0 a1 a2 a3 a4 => checksL_any _ f W hf hs g u0 u1 u2 u3 u4 hb a0 a1 a2 a3 a4)
  obtain ⟨q0, q1, q2, q3, q4⟩ := blk5 bx
  dsimp only [FV.val, FV.cells] at bx k0 HF q0 q1 q2 q3 q4 ⊢
  have HX := Lib.hid bx
  clear h hs bx
  generalize hw1 : w.alloc (.cells #[.string S, .slice A na ca, .slice B nb cb, .slice L nl cl, .slice D nd cd] 35) = w1 at k0 HF q0 q1 q2 q3 q4 HX
  go_enter Tryz.func85, Tryz.ntmps85
  go_wp2_with fail
  clear hw1
  refine wp_region_props2 3 99 (NoB) (by kernel_rfl) (by kernel_rfl) (SC ⟨S, A, na, ca, B, nb, cb, L, nl, cl, D, nd, cd⟩ f w.heap.size) (fun i u x y _ h hk => SC_stable _ _ _ i u x y h hk) (of_decide_eq_true rfl) ?step ?spec ?fin
  case step =>
    intro i o a w' ho hic hF hK hA
    have hi : i < 18 := by simpa using (Array.getElem?_eq_some_iff.1 ho).1
    by_cases h0 : i = 0
    · subst h0
      simp only [List.getElem?_toArray, List.getElem?_cons_zero, Option.some.injEq] at ho
      subst ho
      have e1 : a.tmps.getD 1 undef = .pointer (some ⟨w.heap.size, 0, none⟩) := hF.2.2 1 (.inl (by decide))
      have c0 := Keep.cell hK q0 id
      have c1 := Keep.cell hK q1 id
      have c2 := Keep.cell hK q2 id
      have c3 := Keep.cell hK q3 id
      have c4 := Keep.cell hK q4 id
      refine Does.plain rfl ?_
      unfold yieldsK
      go_simp
      exact ⟨rfl, Keep.refl _ _⟩
    by_cases h1 : i = 1
    · subst h1
      simp only [List.getElem?_toArray, List.getElem?_cons_zero, List.getElem?_cons_succ, Option.some.injEq] at ho
      subst ho
      have e3 : a.tmps.getD 3 undef = .agg #[.string S, .slice A na ca, .slice B nb cb, .slice L nl cl, .slice D nd cd] := hA ⟨0, .data⟩ (by simp) rfl
      refine Does.plain rfl ?_
      unfold yieldsK
      go_simp
      refine (passesFun_any 120 ⟨S, A, na, ca, B, nb, cb, L, nl, cl, D, nd, cd⟩ w').mono ?_
      rintro e w2 ⟨u, rfl, h1, h2⟩
      exact ⟨_, rfl, h1, h2⟩
    by_cases h2 : i = 2
    · subst h2
      simp only [List.getElem?_toArray, List.getElem?_cons_zero, List.getElem?_cons_succ, Option.some.injEq] at ho
      subst ho
      have e1 : a.tmps.getD 1 undef = .pointer (some ⟨w.heap.size, 0, none⟩) := hF.2.2 1 (.inl (by decide))
      refine Does.plain rfl ?_
      unfold yieldsK
      go_simp
      exact ⟨rfl, Keep.refl _ _⟩
    by_cases h3 : i = 3
    · subst h3
      simp only [List.getElem?_toArray, List.getElem?_cons_zero, List.getElem?_cons_succ, Option.some.injEq] at ho
      subst ho
      have e5 : a.tmps.getD 5 undef = .pointer (some ⟨w.heap.size, 0, none⟩) := hA ⟨2, .data⟩ (by simp) rfl
      have c0 := Keep.cell hK q0 id
      refine Does.plain rfl ?_
      unfold yieldsK
      go_simp
      exact ⟨rfl, Keep.refl _ _⟩
    by_cases h4 : i = 4
    · subst h4
      simp only [List.getElem?_toArray, List.getElem?_cons_zero, List.getElem?_cons_succ, Option.some.injEq] at ho
      subst ho
      have e6 : a.tmps.getD 6 undef = .string S := hA ⟨3, .data⟩ (by simp) rfl
      refine Does.plain rfl ?_
      unfold yieldsK
      go_simp
      refine (passesStr_any 122 S w').mono ?_
      rintro e w2 ⟨u, rfl, h1, h2⟩
      exact ⟨_, rfl, h1, h2⟩
    by_cases h5 : i = 5
    · subst h5
      simp only [List.getElem?_toArray, List.getElem?_cons_zero, List.getElem?_cons_succ, Option.some.injEq] at ho
      subst ho
      have e1 : a.tmps.getD 1 undef = .pointer (some ⟨w.heap.size, 0, none⟩) := hF.2.2 1 (.inl (by decide))
      refine Does.plain rfl ?_
      unfold yieldsK
      go_simp
      exact ⟨rfl, Keep.refl _ _⟩
    by_cases h6 : i = 6
    · subst h6
      simp only [List.getElem?_toArray, List.getElem?_cons_zero, List.getElem?_cons_succ, Option.some.injEq] at ho
      subst ho
      have e8 : a.tmps.getD 8 undef = .pointer (some ⟨w.heap.size, 1, none⟩) := hA ⟨5, .data⟩ (by simp) rfl
      have c1 := Keep.cell hK q1 id
      have c2 := Keep.cell hK q2 id
      refine Does.plain rfl ?_
      unfold yieldsK
      go_simp
      exact ⟨rfl, Keep.refl _ _⟩
    by_cases h7 : i = 7
    · subst h7
      simp only [List.getElem?_toArray, List.getElem?_cons_zero, List.getElem?_cons_succ, Option.some.injEq] at ho
      subst ho
      have e9 : a.tmps.getD 9 undef = .agg #[.slice A na ca, .slice B nb cb] := hA ⟨6, .data⟩ (by simp) rfl
      refine Does.plain rfl ?_
      unfold yieldsK
      go_simp
      refine (passesSig_any 57 (.slice A na ca) (.slice B nb cb) w').mono ?_
      rintro e w2 ⟨u, rfl, h1, h2⟩
      exact ⟨_, rfl, h1, h2⟩
    by_cases h8 : i = 8
    · subst h8
      simp only [List.getElem?_toArray, List.getElem?_cons_zero, List.getElem?_cons_succ, Option.some.injEq] at ho
      subst ho
      have e1 : a.tmps.getD 1 undef = .pointer (some ⟨w.heap.size, 0, none⟩) := hF.2.2 1 (.inl (by decide))
      refine Does.plain rfl ?_
      unfold yieldsK
      go_simp
      exact ⟨rfl, Keep.refl _ _⟩
    by_cases h9 : i = 9
    · subst h9
      simp only [List.getElem?_toArray, List.getElem?_cons_zero, List.getElem?_cons_succ, Option.some.injEq] at ho
      subst ho
      have e11 : a.tmps.getD 11 undef = .pointer (some ⟨w.heap.size, 3, none⟩) := hA ⟨8, .data⟩ (by simp) rfl
      have c3 := Keep.cell hK q3 id
      refine Does.plain rfl ?_
      unfold yieldsK
      go_simp
      exact ⟨rfl, Keep.refl _ _⟩
    by_cases h10 : i = 10
    · subst h10
      simp only [List.getElem?_toArray, List.getElem?_cons_zero, List.getElem?_cons_succ, Option.some.injEq] at ho
      subst ho
      have e12 : a.tmps.getD 12 undef = .slice L nl cl := hA ⟨9, .data⟩ (by simp) rfl
      refine Does.plain rfl ?_
      unfold yieldsK
      go_simp
      refine (taking_any L nl cl w').mono ?_
      rintro e w2 ⟨rfl, h2⟩
      exact ⟨_, rfl, rfl, h2⟩
    by_cases h11 : i = 11
    · subst h11
      simp only [List.getElem?_toArray, List.getElem?_cons_zero, List.getElem?_cons_succ, Option.some.injEq] at ho
      subst ho
      have e13 : a.tmps.getD 13 undef = .agg #[.slice L nl cl, .slice none 0 0] := hA ⟨10, .data⟩ (by simp) rfl
      refine Does.plain rfl ?_
      unfold yieldsK
      go_simp
      refine (passesSig_any 57 (.slice L nl cl) (.slice none 0 0) w').mono ?_
      rintro e w2 ⟨u, rfl, h1, h2⟩
      exact ⟨_, rfl, h1, h2⟩
    by_cases h12 : i = 12
    · subst h12
      simp only [List.getElem?_toArray, List.getElem?_cons_zero, List.getElem?_cons_succ, Option.some.injEq] at ho
      subst ho
      have e1 : a.tmps.getD 1 undef = .pointer (some ⟨w.heap.size, 0, none⟩) := hF.2.2 1 (.inl (by decide))
      refine Does.plain rfl ?_
      unfold yieldsK
      go_simp
      exact ⟨rfl, Keep.refl _ _⟩
    by_cases h13 : i = 13
    · subst h13
      simp only [List.getElem?_toArray, List.getElem?_cons_zero, List.getElem?_cons_succ, Option.some.injEq] at ho
      subst ho
      have e15 : a.tmps.getD 15 undef = .pointer (some ⟨w.heap.size, 4, none⟩) := hA ⟨12, .data⟩ (by simp) rfl
      have c4 := Keep.cell hK q4 id
      refine Does.plain rfl ?_
      unfold yieldsK
      go_simp
      exact ⟨rfl, Keep.refl _ _⟩
    by_cases h14 : i = 14
    · subst h14
      simp only [List.getElem?_toArray, List.getElem?_cons_zero, List.getElem?_cons_succ, Option.some.injEq] at ho
      subst ho
      have e16 : a.tmps.getD 16 undef = .slice D nd cd := hA ⟨13, .data⟩ (by simp) rfl
      refine Does.plain rfl ?_
      unfold yieldsK
      go_simp
      refine (passesBod_any 126 D nd cd w').mono ?_
      rintro e w2 ⟨u, rfl, h1, h2⟩
      exact ⟨_, rfl, h1, h2⟩
    by_cases h15 : i = 15
    · subst h15
      simp only [List.getElem?_toArray, List.getElem?_cons_zero, List.getElem?_cons_succ, Option.some.injEq] at ho
      subst ho
      obtain ⟨c0, p0, e4, a0, b0⟩ := hA ⟨1, .data⟩ (by simp) rfl
      have e4 : a.tmps.getD 4 undef = askV 177 #[.pointer (some ⟨c0, 0, none⟩), .pointer (some ⟨p0, 0, none⟩)] := e4
      obtain ⟨c1, p1, e7, a1, b1⟩ := hA ⟨4, .data⟩ (by simp) rfl
      have e7 : a.tmps.getD 7 undef = askV 178 #[.pointer (some ⟨c1, 0, none⟩), .pointer (some ⟨p1, 0, none⟩)] := e7
      obtain ⟨c2, p2, e10, a2, b2⟩ := hA ⟨7, .data⟩ (by simp) rfl
      have e10 : a.tmps.getD 10 undef = askV 181 #[.pointer (some ⟨c2, 0, none⟩), .pointer (some ⟨p2, 0, none⟩)] := e10
      obtain ⟨c3, p3, e14, a3, b3⟩ := hA ⟨11, .data⟩ (by simp) rfl
      have e14 : a.tmps.getD 14 undef = askV 181 #[.pointer (some ⟨c3, 0, none⟩), .pointer (some ⟨p3, 0, none⟩)] := e14
      obtain ⟨c4, p4, e17, a4, b4⟩ := hA ⟨14, .data⟩ (by simp) rfl
      have e17 : a.tmps.getD 17 undef = askV 182 #[.pointer (some ⟨c4, 0, none⟩), .pointer (some ⟨p4, 0, none⟩)] := e17
      refine Does.plain rfl ?_
      unfold yieldsK
      unfold askV at *
      simp only [Array.getD_eq_getD_getElem?] at e4 e7 e10 e14 e17
      go_simp
      refine ⟨⟨w'.heap.size, _, _, _, _, _, rfl, Blk.new _ _ _, ⟨c0, p0, rfl, a0.alloc _, b0.alloc _⟩, ⟨c1, p1, rfl, a1.alloc _, b1.alloc _⟩, ⟨c2, p2, rfl, a2.alloc _, b2.alloc _⟩, ⟨c3, p3, rfl, a3.alloc _, b3.alloc _⟩, ⟨c4, p4, rfl, a4.alloc _, b4.alloc _⟩⟩, (Keep.refl _ _).alloc _⟩
    by_cases h16 : i = 16
    · subst h16
      simp only [List.getElem?_toArray, List.getElem?_cons_zero, List.getElem?_cons_succ, Option.some.injEq] at ho
      subst ho
      obtain ⟨g, u0, u1, u2, u3, u4, e18, hb, a0, a1, a2, a3, a4⟩ := hA ⟨15, .data⟩ (by simp) rfl
      have e18 : a.tmps.getD 18 undef = .slice (some ⟨g, 0, none⟩) 5 5 := e18
      refine Does.plain rfl ?_
      unfold yieldsK
      go_simp
      refine (HE.out w' (HF.out.keepN hK) g u0 u1 u2 u3 u4 hb a0 a1 a2 a3 a4).mono ?_
      rintro e w2 ⟨rfl, h2⟩
      exact ⟨_, rfl, rfl, h2⟩
    by_cases h17 : i = 17
    · subst h17
      simp only [List.getElem?_toArray, List.getElem?_cons_zero, List.getElem?_cons_succ, Option.some.injEq] at ho
      subst ho
      have e19 : a.tmps.getD 19 undef = .bool (okF f) := hA ⟨16, .data⟩ (by simp) rfl
      refine Does.plain rfl ?_
      unfold yieldsK
      go_simp
      exact ⟨rfl, Keep.refl _ _⟩
    omega
  case spec =>
    intro o a w' ho
    simp at ho
  case fin =>
    intro a w' hF gK hA
    have e20 : a.tmps.getD (3 + 17) undef = .bool (!okF f) := hA 17 (by decide)
    have ha := frame_fill (n := 18) hF (of_decide_eq_true rfl)
    rw [ha]
    rw [show List.range 18 = [0, 1, 2, 3, 4, 5, 6, 7, 8, 9, 10, 11, 12, 13, 14, 15, 16, 17] from rfl]
    simp only [List.map_cons, List.map_nil, e20]
    generalize a.tmps.getD (3 + 0) undef = u0
    generalize a.tmps.getD (3 + 1) undef = u1
    generalize a.tmps.getD (3 + 2) undef = u2
    generalize a.tmps.getD (3 + 3) undef = u3
    generalize a.tmps.getD (3 + 4) undef = u4
    generalize a.tmps.getD (3 + 5) undef = u5
    generalize a.tmps.getD (3 + 6) undef = u6
    generalize a.tmps.getD (3 + 7) undef = u7
    generalize a.tmps.getD (3 + 8) undef = u8
    generalize a.tmps.getD (3 + 9) undef = u9
    generalize a.tmps.getD (3 + 10) undef = u10
    generalize a.tmps.getD (3 + 11) undef = u11
    generalize a.tmps.getD (3 + 12) undef = u12
    generalize a.tmps.getD (3 + 13) undef = u13
    generalize a.tmps.getD (3 + 14) undef = u14
    generalize a.tmps.getD (3 + 15) undef = u15
    generalize a.tmps.getD (3 + 16) undef = u16
    simp only [fillT, List.setIfInBounds_toArray, List.set_cons_zero, List.set_cons_succ]
    have HR := Lib.hid (keepN k0 gK)
    clear gK k0 hA hF ha e20 HE HF HX q0 q1 q2 q3 q4
    cases ho : okF f
    · obtain rfl : 70 = R := by rw [← hR.out]; exact (chkF_no ho).symm
      clear hR ho
      go_wp2
      go_ret
      exact ⟨rfl, HR.out⟩
    · obtain rfl : 0 = R := by rw [← hR.out]; exact (chkF_ok ho).symm
      clear hR ho
      go_wp2
      go_ret
      exact ⟨rfl, HR.out⟩

end Go.Proofs.YtifobiajjhknbaaGreatDoor.F

namespace Go.Proofs.YtifobiajjhknbaaGreatDoor
open Go.RowKit Go.Maps

/-- Block b is a map of at most n keys; each number has what f says. -/
def IMap (P : Program) (k e : TypeId) (b n : Nat) (f : Int → Nat) (w : World) : Prop :=
  ∃ D : DataW Unit, w.ownsMap P k (plainElem P e) b n D ∧ IsMap D ∧ ∀ h : Int, D.atKey (.int .i64 h) (.lit (.int .i64 0)) = .lit (.int .i64 (f h : Int))
section
variable {P : Program} {k e t : TypeId} {b n : Nat} {f : Int → Nat} {w w' : World}
theorem IMap.new (P : Program) (k e : TypeId) (w : World) : IMap P k e w.heap.size 0 (fun _ => 0) (w.alloc (.map #[] 0)) :=
  ⟨.map [], World.ownsMap_made w P k _, isMap_empty, fun _ => rfl⟩
theorem IMap.lt (h : IMap P k e b n f w) : b < w.heap.size := by obtain ⟨_, h, _⟩ := h; exact h.lt
theorem IMap.obj (h : IMap P k e b n f w) : ∃ es c, w.heap[b]? = some (.map es c) := by
  obtain ⟨_, ⟨es, c, hb, _⟩, _⟩ := h
  exact ⟨es, c, hb⟩
theorem IMap.grown {row : Option Nat} (h : IMap P k e b n f w) (hg : w.grownBy w' row) (hne : some b ≠ row) : IMap P k e b n f w' := by
  obtain ⟨D, h1, h2, h3⟩ := h
  exact ⟨D, h1.kept hg hne, h2, h3⟩
theorem IMap.keep {O : Nat → Prop} (h : IMap P k e b n f w) (hk : Keep O w w') (hb : ¬ O b) : IMap P k e b n f w' := by
  obtain ⟨D, ⟨es, c, h0, hr⟩, h2, h3⟩ := h
  exact ⟨D, ⟨es, c, (hk.block b (Array.getElem?_eq_some_iff.1 h0).1 hb).trans h0, hr⟩, h2, h3⟩
theorem IMap.mono {m : Nat} (h : IMap P k e b n f w) (hm : n ≤ m) : IMap P k e b m f w := by
  obtain ⟨D, h1, h2, h3⟩ := h
  exact ⟨D, h1.mono hm, h2, h3⟩
theorem IMap.congr {g : Int → Nat} (h : IMap P k e b n f w) (hg : ∀ x, g x = f x) : IMap P k e b n g w := by
  obtain ⟨D, h1, h2, h3⟩ := h
  exact ⟨D, h1, h2, fun x => by rw [hg]; exact h3 x⟩
/-- What a store of one makes of f. -/
def setF (f : Int → Nat) (x : Int) (v : Nat) : Int → Nat := fun y => if y = x then v else f y
theorem lit_inj {a b : Int} (h : (DataW.lit (.int .i64 a) : DataW Unit) = .lit (.int .i64 b)) : a = b := by injection h with h; injection h with _ h
theorem isMap_put {D : DataW Unit} {f : Int → Nat} {x : Int} {v : Nat} (hD : IsMap D) (h3 : ∀ h : Int, D.atKey (.int .i64 h) (.lit (.int .i64 0)) = .lit (.int .i64 (f h : Int))) :
    ∀ h : Int, (D.put (.int .i64 x) (.lit (.int .i64 (v : Int)))).atKey (.int .i64 h) (.lit (.int .i64 0)) = .lit (.int .i64 (setF f x v h : Int)) := by
  intro h
  unfold setF
  by_cases he : h = x
  · subst he; rw [if_pos rfl]; exact atKey_put_same hD (by unfold WideAt.IsKeyLit; trivial) _ _
  · rw [if_neg he, atKey_put_other (by intro e; injection e with _ e; exact he e)]; exact h3 h
/-- A store. -/
theorem IMap.update (h : IMap P k e b n f w) (ht : P.underlying t = some (.map k e)) (hk : P.underlying k = some (.int .i64)) (he : P.underlying e = some (.int .i64)) (hn : n < maxLen) (x : Int) (v : Nat) (hx : (Lit.int .i64 x).wf = true) (hv : (Lit.int .i64 (v : Int)).wf = true) :
    ∃ w', (Instr.mapUpdate t (.map (some b)) (.int .i64 x) (.int .i64 (v : Int))).run P w = .ok () w' ∧ IMap P k e b (n + 1) (setF f x v) w' ∧ w.grownBy w' (some b) := by
  obtain ⟨D, h1, h2, h3⟩ := h
  obtain ⟨w', hrun, r1, r2⟩ := h1.update (int_keyed hk) ht hn (keyOf_int_mk hk hx) (plainElem_int he hv)
  exact ⟨w', hrun, ⟨_, r1, h2.put _ _, isMap_put h2 h3⟩, r2⟩
/-- A look. -/
theorem IMap.look (h : IMap P k e b n f w) (ht : P.underlying t = some (.map k e)) (hk : P.underlying k = some (.int .i64)) (he : P.underlying e = some (.int .i64)) (hz : (zeroValue e).run P w = .ok (.int .i64 0) w) (x : Int) (hx : (Lit.int .i64 x).wf = true) :
    (Instr.lookup t (.map (some b)) (.int .i64 x) false).run P w = .ok (.int .i64 (f x : Int)) w := by
  obtain ⟨D, h1, h2, h3⟩ := h
  obtain ⟨c, hrun, hat, _⟩ := h1.lookup_int (int_keyed hk) ht he hz (keyOf_int_mk hk hx)
  rw [h3 x] at hat
  rw [lit_inj hat]
  exact hrun
end
end Go.Proofs.YtifobiajjhknbaaGreatDoor

namespace Go.Proofs.YtifobiajjhknbaaGreatDoor
open Go.RowKit Go.Maps

/-- Block b is a map of at most n keys; each text has what f says. -/
def SMap (P : Program) (k e : TypeId) (b n : Nat) (f : List UInt8 → Nat) (w : World) : Prop :=
  ∃ D : DataW Unit, w.ownsMap P k (plainElem P e) b n D ∧ IsMap D ∧ ∀ s : List UInt8, D.atKey (.string s) (.lit (.int .i64 0)) = .lit (.int .i64 (f s : Int))
section
variable {P : Program} {k e t : TypeId} {b n : Nat} {f : List UInt8 → Nat} {w w' : World}
theorem SMap.new (P : Program) (k e : TypeId) (w : World) : SMap P k e w.heap.size 0 (fun _ => 0) (w.alloc (.map #[] 0)) :=
  ⟨.map [], World.ownsMap_made w P k _, isMap_empty, fun _ => rfl⟩
theorem SMap.lt (h : SMap P k e b n f w) : b < w.heap.size := by obtain ⟨_, h, _⟩ := h; exact h.lt
theorem SMap.obj (h : SMap P k e b n f w) : ∃ es c, w.heap[b]? = some (.map es c) := by
  obtain ⟨_, ⟨es, c, hb, _⟩, _⟩ := h
  exact ⟨es, c, hb⟩
theorem SMap.grown {row : Option Nat} (h : SMap P k e b n f w) (hg : w.grownBy w' row) (hne : some b ≠ row) : SMap P k e b n f w' := by
  obtain ⟨D, h1, h2, h3⟩ := h
  exact ⟨D, h1.kept hg hne, h2, h3⟩
theorem SMap.keep {O : Nat → Prop} (h : SMap P k e b n f w) (hk : Keep O w w') (hb : ¬ O b) : SMap P k e b n f w' := by
  obtain ⟨D, ⟨es, c, h0, hr⟩, h2, h3⟩ := h
  exact ⟨D, ⟨es, c, (hk.block b (Array.getElem?_eq_some_iff.1 h0).1 hb).trans h0, hr⟩, h2, h3⟩
theorem SMap.mono {m : Nat} (h : SMap P k e b n f w) (hm : n ≤ m) : SMap P k e b m f w := by
  obtain ⟨D, h1, h2, h3⟩ := h
  exact ⟨D, h1.mono hm, h2, h3⟩
theorem SMap.congr {g : List UInt8 → Nat} (h : SMap P k e b n f w) (hg : ∀ x, g x = f x) : SMap P k e b n g w := by
  obtain ⟨D, h1, h2, h3⟩ := h
  exact ⟨D, h1, h2, fun x => by rw [hg]; exact h3 x⟩
/-- What a store makes of f. -/
def setS (f : List UInt8 → Nat) (x : List UInt8) (v : Nat) : List UInt8 → Nat := fun y => if y = x then v else f y
theorem isMap_putS {D : DataW Unit} {f : List UInt8 → Nat} {x : List UInt8} {v : Nat} (hD : IsMap D) (h3 : ∀ h : List UInt8, D.atKey (.string h) (.lit (.int .i64 0)) = .lit (.int .i64 (f h : Int))) :
    ∀ h : List UInt8, (D.put (.string x) (.lit (.int .i64 (v : Int)))).atKey (.string h) (.lit (.int .i64 0)) = .lit (.int .i64 (setS f x v h : Int)) := by
  intro h
  unfold setS
  by_cases he : h = x
  · subst he; rw [if_pos rfl]; exact atKey_put_same hD (by unfold WideAt.IsKeyLit; trivial) _ _
  · rw [if_neg he, atKey_put_other (by intro e; injection e with e; exact he e)]; exact h3 h
theorem keyOf_str {P : Program} {k : TypeId} (hk : P.underlying k = some .string) {S : ByteArray} (hs : S.size ≤ maxLen) : keyOf P k (.string S) = some (.string S.data.toList) := by
  simp [keyOf, hk, mapKey, hs]
/-- A store. -/
theorem SMap.update (h : SMap P k e b n f w) (ht : P.underlying t = some (.map k e)) (hk : P.underlying k = some .string) (he : P.underlying e = some (.int .i64)) (hn : n < maxLen) (S : ByteArray) (v : Nat) (hx : S.size ≤ maxLen) (hv : (Lit.int .i64 (v : Int)).wf = true) :
    ∃ w', (Instr.mapUpdate t (.map (some b)) (.string S) (.int .i64 (v : Int))).run P w = .ok () w' ∧ SMap P k e b (n + 1) (setS f S.data.toList v) w' ∧ w.grownBy w' (some b) := by
  obtain ⟨D, h1, h2, h3⟩ := h
  obtain ⟨w', hrun, r1, r2⟩ := h1.update (string_keyed hk) ht hn (keyOf_str hk hx) (plainElem_int he hv)
  exact ⟨w', hrun, ⟨_, r1, h2.put _ _, isMap_putS h2 h3⟩, r2⟩
/-- A look. -/
theorem SMap.look (h : SMap P k e b n f w) (ht : P.underlying t = some (.map k e)) (hk : P.underlying k = some .string) (he : P.underlying e = some (.int .i64)) (hz : (zeroValue e).run P w = .ok (.int .i64 0) w) (S : ByteArray) (hx : S.size ≤ maxLen) :
    (Instr.lookup t (.map (some b)) (.string S) false).run P w = .ok (.int .i64 (f S.data.toList : Int)) w := by
  obtain ⟨D, h1, h2, h3⟩ := h
  obtain ⟨c, hrun, hat, _⟩ := h1.lookup_int (string_keyed hk) ht he hz (keyOf_str hk hx)
  rw [h3 S.data.toList] at hat
  rw [lit_inj hat]
  exact hrun
end
end Go.Proofs.YtifobiajjhknbaaGreatDoor

namespace Go.Proofs.YtifobiajjhknbaaGreatDoor
open Go.RowKit Go.Maps

/-- Block b is a map of at most n keys; each text has what f says, if it says. -/
def OMap (P : Program) (k e : TypeId) (b n : Nat) (f : List UInt8 → Option Nat) (w : World) : Prop :=
  ∃ D : DataW Unit, w.ownsMap P k (plainElem P e) b n D ∧ IsMap D ∧ ∀ s : List UInt8, has D (.string s) = (f s).isSome ∧ D.atKey (.string s) (.lit (.int .i64 0)) = .lit (.int .i64 (((f s).getD 0 : Nat) : Int))
section
variable {P : Program} {k e t : TypeId} {b n : Nat} {f : List UInt8 → Option Nat} {w w' : World}
theorem OMap.new (P : Program) (k e : TypeId) (w : World) : OMap P k e w.heap.size 0 (fun _ => none) (w.alloc (.map #[] 0)) :=
  ⟨.map [], World.ownsMap_made w P k _, isMap_empty, fun _ => ⟨rfl, rfl⟩⟩
theorem OMap.lt (h : OMap P k e b n f w) : b < w.heap.size := by obtain ⟨_, h, _⟩ := h; exact h.lt
theorem OMap.obj (h : OMap P k e b n f w) : ∃ es c, w.heap[b]? = some (.map es c) := by
  obtain ⟨_, ⟨es, c, hb, _⟩, _⟩ := h
  exact ⟨es, c, hb⟩
theorem OMap.keep {O : Nat → Prop} (h : OMap P k e b n f w) (hk : Keep O w w') (hb : ¬ O b) : OMap P k e b n f w' := by
  obtain ⟨D, ⟨es, c, h0, hr⟩, h2, h3⟩ := h
  exact ⟨D, ⟨es, c, (hk.block b (Array.getElem?_eq_some_iff.1 h0).1 hb).trans h0, hr⟩, h2, h3⟩
theorem OMap.mono {m : Nat} (h : OMap P k e b n f w) (hm : n ≤ m) : OMap P k e b m f w := by
  obtain ⟨D, h1, h2, h3⟩ := h
  exact ⟨D, h1.mono hm, h2, h3⟩
theorem OMap.congr {g : List UInt8 → Option Nat} (h : OMap P k e b n f w) (hg : ∀ x, g x = f x) : OMap P k e b n g w := by
  obtain ⟨D, h1, h2, h3⟩ := h
  exact ⟨D, h1, h2, fun x => by rw [hg]; exact h3 x⟩
/-- What a store of one makes of f. -/
def setO (f : List UInt8 → Option Nat) (x : List UInt8) (v : Nat) : List UInt8 → Option Nat := fun y => if y = x then some v else f y
theorem isMap_putO {D : DataW Unit} {f : List UInt8 → Option Nat} {x : List UInt8} {v : Nat} (hD : IsMap D) (h3 : ∀ s : List UInt8, has D (.string s) = (f s).isSome ∧ D.atKey (.string s) (.lit (.int .i64 0)) = .lit (.int .i64 (((f s).getD 0 : Nat) : Int))) :
    ∀ s : List UInt8, has (D.put (.string x) (.lit (.int .i64 (v : Int)))) (.string s) = (setO f x v s).isSome ∧ (D.put (.string x) (.lit (.int .i64 (v : Int)))).atKey (.string s) (.lit (.int .i64 0)) = .lit (.int .i64 (((setO f x v s).getD 0 : Nat) : Int)) := by
  intro s
  unfold setO
  by_cases he : s = x
  · subst he
    rw [if_pos rfl]
    exact ⟨has_put_same hD (by unfold WideAt.IsKeyLit; trivial) _, atKey_put_same hD (by unfold WideAt.IsKeyLit; trivial) _ _⟩
  · rw [if_neg he, has_put_other (by intro e; injection e with e; exact he e), atKey_put_other (by intro e; injection e with e; exact he e)]
    exact h3 s
/-- A store. -/
theorem OMap.update (h : OMap P k e b n f w) (ht : P.underlying t = some (.map k e)) (hk : P.underlying k = some .string) (he : P.underlying e = some (.int .i64)) (hn : n < maxLen) (S : ByteArray) (v : Nat) (hx : S.size ≤ maxLen) (hv : (Lit.int .i64 (v : Int)).wf = true) :
    ∃ w', (Instr.mapUpdate t (.map (some b)) (.string S) (.int .i64 (v : Int))).run P w = .ok () w' ∧ OMap P k e b (n + 1) (setO f S.data.toList v) w' ∧ w.grownBy w' (some b) := by
  obtain ⟨D, h1, h2, h3⟩ := h
  obtain ⟨w', hrun, r1, r2⟩ := h1.update (string_keyed hk) ht hn (keyOf_str hk hx) (plainElem_int he hv)
  exact ⟨w', hrun, ⟨_, r1, h2.put _ _, isMap_putO h2 h3⟩, r2⟩
/-- A look that tells whether the key is there. -/
theorem OMap.look (h : OMap P k e b n f w) (ht : P.underlying t = some (.map k e)) (hk : P.underlying k = some .string) (he : P.underlying e = some (.int .i64)) (hz : (zeroValue e).run P w = .ok (.int .i64 0) w) (S : ByteArray) (hx : S.size ≤ maxLen) :
    (Instr.lookup t (.map (some b)) (.string S) true).run P w = .ok (.tuple #[.int .i64 (((f S.data.toList).getD 0 : Nat) : Int), .bool (f S.data.toList).isSome]) w := by
  obtain ⟨D, h1, h2, h3⟩ := h
  obtain ⟨v, ps, hrun, hv⟩ := h1.look_ok (string_keyed hk) ht hz (plainElem_int he (by decide)) (keyOf_str hk hx)
  obtain ⟨c, rfl, hc, hwc⟩ := plainElem_int_inv he hv
  obtain ⟨h4, h5⟩ := h3 S.data.toList
  simp only [Prod.mk.injEq] at hc
  have hc1 := hc.1
  rw [h5] at hc1
  rw [hrun, h4, lit_inj hc1]
end
end Go.Proofs.YtifobiajjhknbaaGreatDoor

namespace Go.Proofs.YtifobiajjhknbaaGreatDoor.M
open Go.RowKit W

/-- What a block is of: nothing that is known, the reader, its shapes and each shape, its functions and each one's lists, names' numbers, its labels and each function's, its mentions. -/
inductive Tg where
  | no | rd | sh | se (i : Nat) | fn | fa (i : Nat) | fb (i : Nat) | fl (i : Nat) | bd (i : Nat) | nu | lb | nm (i : Nat) | pl (i : Nat) | mn
deriving DecidableEq
structure Row where
  E : Nat
  sz : Nat
  v : Value
  n : Nat
  xs : List Value
def Row.own (r : Row) (W : World) (P : Nat → Prop) : Prop := Own W r.E r.sz P r.v r.n r.xs
def row0 : Row := ⟨0, 1, .slice none 0 0, 0, []⟩
structure Mp where
  b : Nat
  n : Nat
  f : Pl
def okT (t : Tg) : Prop := t ≠ .no ∧ t ≠ .rd
/-- What a row's blocks are marked with: arguments and results of a function alike. -/
def mk : Tg → Tg
  | .fb i => .fa i
  | t => t
theorem okT_mk {t : Tg} (h : okT t) : okT (mk t) := by
  cases t <;> first | exact h | exact ⟨Tg.noConfusion, Tg.noConfusion⟩
/-- The mark is one row's alone. -/
def sole (t0 : Tg) : Prop := mk t0 = t0 ∧ ∀ t, mk t = t0 → t = t0
def upR {β : Type} (R : Tg → β) (t : Tg) (x : β) : Tg → β := fun t' => if t' = t then x else R t'
theorem upR_eq {β : Type} (R : Tg → β) (t : Tg) (x : β) : upR R t x t = x := if_pos rfl
theorem upR_ne {β : Type} (R : Tg → β) {t t' : Tg} (x : β) (h : t' ≠ t) : upR R t x t' = R t' := if_neg h
/-- New blocks are marked. -/
def tagN (T : Nat → Tg) (a b : Nat) (t : Tg) : Nat → Tg := fun k => if a ≤ k ∧ k < b then t else T k
theorem tagN_old {T : Nat → Tg} {a b : Nat} {t : Tg} {k : Nat} (h : k < a) : tagN T a b t k = T k := if_neg (by omega)
theorem tagN_new {T : Nat → Tg} {a b : Nat} {t : Tg} {k : Nat} (h : a ≤ k) (h2 : k < b) : tagN T a b t k = t := if_pos ⟨h, h2⟩
def BS (T : Nat → Tg) : BSet := fun k => T k ≠ .no

structure Parts (B : Nat) (W : World) (T : Nat → Tg) (R : Tg → Row) (F : Tg → Option Mp) : Prop where
  row : ∀ t, okT t → (R t).own W (fun k => T k = mk t)
  map : ∀ t m, F t = some m → OMap Tryz.prog 9 3 m.b m.n m.f W ∧ T m.b = t ∧ okT t ∧ sole t
  fit : ∀ k, T k ≠ .no → B ≤ k ∧ k < W.heap.size
section
variable {B : Nat} {W W' : World} {T : Nat → Tg} {R : Tg → Row} {F : Tg → Option Mp}
theorem Parts.start (W : World) (rb : Nat) (hr : rb < W.heap.size) (hB : B ≤ rb) : Parts B W (fun k => if k = rb then .rd else .no) (fun _ => row0) (fun _ => none) := by
  refine ⟨fun t ht => ?_, fun t m h => (by cases h), fun k hk => ?_⟩
  · exact Own.nil _ _ _ _
  · by_cases h : k = rb
    · subst h; exact ⟨hB, hr⟩
    · exact absurd (if_neg h) hk
/-- What changes is not the rows' nor the maps'. -/
theorem Parts.keep {O : Nat → Prop} (h : Parts B W T R F) (hk : Keep O W W') (hO : ∀ k, O k → ¬ okT (T k)) : Parts B W' T R F := by
  refine ⟨fun t ht => (h.row t ht).keep hk (fun k e ho => hO k ho (by rw [e]; exact okT_mk ht)), fun t m hm => ?_, fun k hk2 => ?_⟩
  · obtain ⟨h1, h2, h3⟩ := h.map t m hm
    exact ⟨h1.keep hk (fun ho => hO _ ho (by rw [h2]; exact h3.1)), h2, h3⟩
  · have := h.fit k hk2
    exact ⟨this.1, Nat.lt_of_lt_of_le this.2 hk.size⟩
theorem Parts.keepN (h : Parts B W T R F) (hk : Keep NoB W W') : Parts B W' T R F := h.keep hk (fun _ hf => hf.elim)
theorem Parts.new (h : Parts B W T R F) {k : Nat} (hk : W.heap.size ≤ k) : T k = .no := by
  apply Classical.byContradiction
  intro hn
  have := (h.fit k hn).2
  omega
/-- One row is changed, its blocks are old ones of it or new. -/
theorem Parts.grow {t0 : Tg} {r : Row} (h : Parts B W T R F) (hB : B ≤ W.heap.size) (ht0 : okT t0) (hs : sole t0) (hF : F t0 = none) (hk : Keep (fun k => T k = t0) W W') (hr : r.own W' (fun k => T k = t0 ∨ W.heap.size ≤ k)) :
    Parts B W' (tagN T W.heap.size W'.heap.size t0) (upR R t0 r) F := by
  have hold : ∀ k, okT (T k) → tagN T W.heap.size W'.heap.size t0 k = T k := fun k hk2 => tagN_old (h.fit k hk2.1).2
  refine ⟨fun t ht => ?_, fun t m hm => ?_, fun k hk2 => ?_⟩
  · by_cases e : t = t0
    · subst e
      rw [upR_eq]
      refine hr.mono (fun k hk2 hl => ?_)
      rw [hs.1]
      rcases hk2 with e1 | e1
      · rw [hold k (by rw [e1]; exact ht)]; exact e1
      · exact tagN_new e1 hl
    · rw [upR_ne _ _ e]
      refine ((h.row t ht).keep hk (fun k e1 e2 => e (hs.2 t (e1.symm.trans e2)))).mono (fun k e1 _ => ?_)
      rw [hold k (by rw [e1]; exact okT_mk ht)]; exact e1
  · obtain ⟨h1, h2, h3⟩ := h.map t m hm
    have hne : t ≠ t0 := by rintro rfl; rw [hF] at hm; cases hm
    exact ⟨h1.keep hk (fun e => hne (h2.symm.trans e)), (hold _ (by rw [h2]; exact h3.1)).trans h2, h3⟩
  · unfold tagN at hk2
    split at hk2
    · rename_i h1; exact ⟨by omega, h1.2⟩
    · have := h.fit k hk2
      exact ⟨this.1, Nat.lt_of_lt_of_le this.2 hk.size⟩
/-- Two new rows, arguments and results, that a call handed out. -/
theorem Parts.pair {i : Nat} {r1 r2 : Row} (h : Parts B W T R F) (hB : B ≤ W.heap.size) (hk : Keep NoB W W') (hr1 : r1.own W' (Fresh W)) (hr2 : r2.own W' (Fresh W)) :
    Parts B W' (tagN T W.heap.size W'.heap.size (.fa i)) (upR (upR R (.fa i) r1) (.fb i) r2) F := by
  have hold : ∀ k, okT (T k) → tagN T W.heap.size W'.heap.size (.fa i) k = T k := fun k hk2 => tagN_old (h.fit k hk2.1).2
  refine ⟨fun t ht => ?_, fun t m hm => ?_, fun k hk2 => ?_⟩
  · by_cases e : t = .fb i
    · subst e
      rw [upR_eq]
      exact hr2.mono (fun k hk2 hl => tagN_new hk2 hl)
    · rw [upR_ne _ _ e]
      by_cases e2 : t = .fa i
      · subst e2
        rw [upR_eq]
        exact hr1.mono (fun k hk2 hl => tagN_new hk2 hl)
      · rw [upR_ne _ _ e2]
        refine ((h.row t ht).keepN hk).mono (fun k e1 _ => ?_)
        rw [hold k (by rw [e1]; exact okT_mk ht)]; exact e1
  · obtain ⟨h1, h2, h3⟩ := h.map t m hm
    exact ⟨h1.keep hk id, (hold _ (by rw [h2]; exact h3.1)).trans h2, h3⟩
  · unfold tagN at hk2
    split at hk2
    · rename_i h1; exact ⟨by omega, h1.2⟩
    · have := h.fit k hk2
      exact ⟨this.1, Nat.lt_of_lt_of_le this.2 hk.size⟩
theorem Parts.rnd {t0 : Tg} (ht0 : t0 ≠ .no) (hk : Keep (fun k => T k = t0) W W') : Rnd (BS T) (BS (tagN T W.heap.size W'.heap.size t0)) W W' :=
  ⟨fun k hk2 h2 => by unfold BS at h2 ⊢; rwa [tagN_old hk2] at h2, hk.mono (fun k e _ => by unfold BS; rw [e]; exact ht0)⟩
/-- One map is changed. -/
theorem Parts.set {t0 : Tg} {m : Mp} {n : Nat} {f : Pl} (h : Parts B W T R F) (hm : F t0 = some m) (hR : (R t0).v = .slice none 0 0) (hk : W.grownBy W' (some m.b)) (hM : OMap Tryz.prog 9 3 m.b n f W') : Parts B W' T R (upR F t0 (some ⟨m.b, n, f⟩)) ∧ Rnd (BS T) (BS T) W W' := by
  obtain ⟨h1, h2, h3⟩ := h.map t0 m hm
  have hk2 : Keep (fun k => k = m.b) W W' := (Keep.refl _ W).grown hk (fun g e _ => by cases e; rfl)
  refine ⟨⟨fun t ht => ?_, fun t m' hm' => ?_, fun k hk3 => ?_⟩, Rnd.of_keep (hk2.mono (fun k e _ => by unfold BS; rw [e, h2]; exact h3.1.1))⟩
  · by_cases e : t = t0
    · subst e
      have h4 := h.row t ht
      refine ⟨ownsRow_keep h4.1 hk2 (fun g e => ?_), h4.2⟩
      rw [hR] at e; cases e
    · exact (h.row t ht).keep hk2 (fun k e1 e2 => e (h3.2.2 t (by rw [← e1, e2, h2])))
  · by_cases e : t = t0
    · subst e
      rw [upR_eq] at hm'
      cases hm'
      exact ⟨hM, h2, h3⟩
    · rw [upR_ne _ _ e] at hm'
      obtain ⟨g1, g2, g3⟩ := h.map t m' hm'
      exact ⟨g1.keep hk2 (fun e1 => e (by rw [← g2, e1, h2])), g2, g3⟩
  · have := h.fit k hk3
    exact ⟨this.1, Nat.lt_of_lt_of_le this.2 hk2.size⟩
/-- A new map. -/
theorem Parts.make {t0 : Tg} (h : Parts B W T R F) (hB : B ≤ W.heap.size) (ht0 : okT t0) (hs : sole t0) (hR : (R t0).v = .slice none 0 0) : Parts B (W.alloc (.map #[] 0)) (tagN T W.heap.size (W.heap.size + 1) t0) R (upR F t0 (some ⟨W.heap.size, 0, fun _ => none⟩)) := by
  have hold : ∀ k, okT (T k) → tagN T W.heap.size (W.heap.size + 1) t0 k = T k := fun k hk2 => tagN_old (h.fit k hk2.1).2
  have hk := (Keep.refl NoB W).alloc (.map #[] 0)
  refine ⟨fun t ht => ?_, fun t m hm => ?_, fun k hk2 => ?_⟩
  · by_cases e : t = t0
    · subst e
      have h4 := (h.row t ht).keepN hk
      exact ⟨h4.1, fun g e => by rw [hR] at e; cases e⟩
    · exact ((h.row t ht).keepN hk).mono (fun k e1 _ => by rw [hold k (by rw [e1]; exact okT_mk ht)]; exact e1)
  · by_cases e : t = t0
    · subst e
      rw [upR_eq] at hm
      cases hm
      exact ⟨OMap.new _ _ _ W, tagN_new (Nat.le_refl _) (Nat.lt_succ_self _), ht0, hs⟩
    · rw [upR_ne _ _ e] at hm
      obtain ⟨g1, g2, g3⟩ := h.map t m hm
      exact ⟨g1.keep hk id, (hold _ (by rw [g2]; exact g3.1)).trans g2, g3⟩
  · unfold tagN at hk2
    split at hk2
    · rename_i h1; exact ⟨by omega, by simp; omega⟩
    · have := h.fit k hk2
      exact ⟨this.1, by simp; omega⟩
end

/-- The reader's value. -/
structure RV where
  X : Option Addr
  nx : Nat
  cx : Nat
  Y : Option Addr
  ny : Nat
  cy : Nat
  ln : Nat
  la : Nat
  mb : Nat
  L : Option Addr
  nl : Nat
  cl : Nat
  M : Option Addr
  nm : Nat
  cm : Nat
def RV.cells (v : RV) : Array Value := #[.slice v.X v.nx v.cx, .slice v.Y v.ny v.cy, .int .i64 (v.ln : Int), .int .i64 (v.la : Int), .map (some v.mb), .slice v.L v.nl v.cl, .slice v.M v.nm v.cm]
/-- A function's labels. -/
structure LE where
  A : Option Addr
  n : Nat
  c : Nat
  b : Nat
  ws : List Bs
  f : Pl
def LE.cells (l : LE) : List Value := [.slice l.A l.n l.c, .map (some l.b)]
def lvs (ls : List LE) : List Value := ls.flatMap LE.cells
def among (mb : Nat) (ls : List LE) (m : Mn) : Option Nat := if m.k = 0 then none else if m.k = 1 then (ls[m.fn]?).map LE.b else some mb
def mnC (mb : Nat) (ls : List LE) (m : Mn) : List Value := [.int .i64 (m.ln : Int), .int .i64 (m.fn : Int), .int .i64 (m.pl : Int), .string (str m.s), .map (among mb ls m), .int .i64 (wrongM m)]
def mvs (mb : Nat) (ls : List LE) (ms : List Mn) : List Value := ms.flatMap (mnC mb ls)
theorem lvs_length (ls : List LE) : (lvs ls).length = ls.length * 2 := by
  induction ls with
  | nil => rfl
  | cons v l ih => unfold lvs at ih ⊢; rw [List.flatMap_cons, List.length_append, ih, List.length_cons]; unfold LE.cells; simp; omega
theorem mvs_length (mb : Nat) (ls : List LE) (ms : List Mn) : (mvs mb ls ms).length = ms.length * 6 := by
  induction ms with
  | nil => rfl
  | cons v l ih => unfold mvs at ih ⊢; rw [List.flatMap_cons, List.length_append, ih, List.length_cons]; unfold mnC; simp; omega
theorem lvs_append (a b : List LE) : lvs (a ++ b) = lvs a ++ lvs b := by simp [lvs]
theorem mvs_append (mb : Nat) (ls : List LE) (a b : List Mn) : mvs mb ls (a ++ b) = mvs mb ls a ++ mvs mb ls b := by simp [mvs]
theorem lvs_at : ∀ (ls : List LE) (i j : Nat) (h : i < ls.length), j < 2 → (lvs ls)[i * 2 + j]? = ls[i].cells[j]?
  | v :: l, 0, j, _, hj => by
    unfold lvs
    rw [List.flatMap_cons, Nat.zero_mul, Nat.zero_add, List.getElem?_append_left (by unfold LE.cells; simpa using hj)]; rfl
  | v :: l, i + 1, j, h, hj => by
    have := lvs_at l i j (by simpa using h) hj
    unfold lvs at this ⊢
    rw [List.flatMap_cons, show (i + 1) * 2 + j = 2 + (i * 2 + j) by omega, List.getElem?_append_right (by unfold LE.cells; simp)]
    simpa [LE.cells] using this
theorem mvs_at (mb : Nat) (ls : List LE) : ∀ (ms : List Mn) (i j : Nat) (h : i < ms.length), j < 6 → (mvs mb ls ms)[i * 6 + j]? = (mnC mb ls ms[i])[j]?
  | v :: l, 0, j, _, hj => by
    unfold mvs
    rw [List.flatMap_cons, Nat.zero_mul, Nat.zero_add, List.getElem?_append_left (by unfold mnC; simpa using hj)]; rfl
  | v :: l, i + 1, j, h, hj => by
    have := mvs_at mb ls l i j (by simpa using h) hj
    unfold mvs at this ⊢
    rw [List.flatMap_cons, show (i + 1) * 6 + j = 6 + (i * 6 + j) by omega, List.getElem?_append_right (by unfold mnC; simp)]
    simpa [mnC] using this

/-- The reader, in memory. N: how many lines there were, at most. -/
structure Rdr (B : Nat) (W : World) (T : Nat → Tg) (rb : Nat) (v : RV) (es : List I.SE) (fs : List I.FE) (ls : List LE) (R : Tg → Row) (F : Tg → Option Mp) (p : PS) (N : Nat) : Prop where
  pa : Parts B W T R F
  bk : Blk W rb 82 v.cells
  tb : T rb = .rd
  rsh : R .sh = ⟨53, 1, .slice v.X v.nx v.cx, v.nx, I.svs es⟩
  rse : ∀ i (h : i < es.length), R (.se i) = ⟨3, 1, .slice es[i].1.A es[i].1.n es[i].1.c, es[i].1.n, ivs es[i].2⟩
  rfn : R .fn = ⟨35, 5, .slice v.Y v.ny v.cy, v.ny, I.fvs fs⟩
  rfa : ∀ i (h : i < fs.length), R (.fa i) = ⟨3, 1, .slice fs[i].1.A fs[i].1.na fs[i].1.ca, fs[i].1.na, ivs fs[i].2.ar⟩
  rfb : ∀ i (h : i < fs.length), R (.fb i) = ⟨3, 1, .slice fs[i].1.B fs[i].1.nb fs[i].1.cb, fs[i].1.nb, ivs fs[i].2.rs⟩
  rfl_ : ∀ i (h : i < fs.length), R (.fl i) = ⟨3, 1, .slice fs[i].1.L fs[i].1.nl fs[i].1.cl, fs[i].1.nl, ivs fs[i].2.lc⟩
  rbd : ∀ i (h : i < fs.length), R (.bd i) = ⟨37, 3, .slice fs[i].1.D fs[i].1.nd fs[i].1.cd, fs[i].1.nd, C.iis fs[i].2.bd⟩
  fnm : ∀ i (h : i < fs.length), fs[i].1.S.data.toList = fs[i].2.nm ∧ C.AllI fs[i].2.bd
  rlb : R .lb = ⟨84, 2, .slice v.L v.nl v.cl, v.nl, lvs ls⟩
  rnm : ∀ i (h : i < ls.length), R (.nm i) = ⟨9, 1, .slice ls[i].A ls[i].n ls[i].c, ls[i].n, sv ls[i].ws⟩
  rmn : R .mn = ⟨179, 6, .slice v.M v.nm v.cm, v.nm, mvs v.mb ls p.ms⟩
  fnu : ∃ n, n ≤ N ∧ F .nu = some ⟨v.mb, n, p.nums⟩
  fpl : ∀ i (h : i < ls.length), ∃ n, n ≤ N ∧ F (.pl i) = some ⟨ls[i].b, n, ls[i].f⟩
  fno : ∀ t, (∀ i, t ≠ .pl i) → t ≠ .nu → F t = none
  rno : (R .nu).v = .slice none 0 0 ∧ ∀ i, (R (.pl i)).v = .slice none 0 0
  im : I.imOf es fs = p.im
  lb : ls.map (fun l => (l.ws, l.f)) = p.labs
  lf : ls.length = fs.length
  la : v.la = p.last
  bx : es.length ≤ N
  by_ : fs.length ≤ N
  bm : p.ms.length ≤ N
  bd : ∀ i (h : i < fs.length), fs[i].2.bd.length ≤ N
  bl : ∀ i (h : i < ls.length), ls[i].ws.length ≤ N
  esm : ∀ i (h : i < es.length), es[i].1.n ≤ 140737488355328
  fsm : ∀ i (h : i < fs.length), _root_.Go.Proofs.YtifobiajjhknbaaGreatDoor.F.LgF fs[i].1
  wm : ∀ m ∈ p.ms, m.k = 1 → m.fn < ls.length

end Go.Proofs.YtifobiajjhknbaaGreatDoor.M

namespace Go.Proofs.YtifobiajjhknbaaGreatDoor.M
open Go.RowKit W

/-- The reader's cells. -/
theorem rd_cells {W : World} {rb : Nat} {v : RV} (h : Blk W rb 82 v.cells) :
    W.cell? ⟨rb, 0, none⟩ = some (.slice v.X v.nx v.cx) ∧ W.cell? ⟨rb, 1, none⟩ = some (.slice v.Y v.ny v.cy) ∧ W.cell? ⟨rb, 2, none⟩ = some (.int .i64 (v.ln : Int)) ∧ W.cell? ⟨rb, 3, none⟩ = some (.int .i64 (v.la : Int)) ∧
    W.cell? ⟨rb, 4, none⟩ = some (.map (some v.mb)) ∧ W.cell? ⟨rb, 5, none⟩ = some (.slice v.L v.nl v.cl) ∧ W.cell? ⟨rb, 6, none⟩ = some (.slice v.M v.nm v.cm) :=
  ⟨h.cell 0, h.cell 1, h.cell 2, h.cell 3, h.cell 4, h.cell 5, h.cell 6⟩
theorem current_any (W : World) (rb g k cy : Nat) (h1 : W.cell? ⟨rb, 1, none⟩ = some (.slice (some ⟨g, 0, none⟩) (k + 1) cy)) (hk : k < 1000000) :
    Calls Tryz.prog 166 #[.pointer (some ⟨rb, 0, none⟩)] W fun e w' => e = .returned (.pointer (some ⟨g, k * 5, none⟩)) ∧ ∃ q, w' = W.drewN q := by
  have hb : (0 : Int) ≤ (k : Int) ∧ (k : Int) < (k : Int) + 1 := by omega
  go_enter Tryz.func166, Tryz.ntmps166
  go_wp2
  go_quiet (fail)
  go_wp2
  go_ret
  exact ⟨rfl, _, rfl⟩

end Go.Proofs.YtifobiajjhknbaaGreatDoor.M

namespace Go.Proofs.YtifobiajjhknbaaGreatDoor.S
open Go.RowKit W

end Go.Proofs.YtifobiajjhknbaaGreatDoor.S

namespace Go.Proofs.YtifobiajjhknbaaGreatDoor.S
open Go.RowKit W

end Go.Proofs.YtifobiajjhknbaaGreatDoor.S
