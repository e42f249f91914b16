/-
  A region that draws its order, whose last operations, from number m on, stand behind all that are ahead of them: the first ones are taken by what each of their values is, whatever the order (as in KProps5), the last ones in their order. No program, no conditions.
  A region that draws its order, by what each of its values is, as in KProps5; what binds in the text's order alone, or in the compiler's alone, is not asked about. No program, no conditions.
  A region that draws its order, in a round of a range over a function, by what each of its values is, as in KProps6. No program, no conditions.
  A region that draws its order, in a round of a range over a function, whose last operations stand behind all that are ahead of them, as in KTail. No program, no conditions.
  The builtin copy of whole elements onto the first ones of a slice that is owned; and slices.Clone of lists. No conditions.
  The document's copy of a signature. Conditions: its lists lie in memory, and have no more than 100 types.
  What bodies may refer to: the program's Context, by the iterator. Conditions: the image's lists lie in memory; no more than 1000 functions, none greater than statements go through.
-/
import Derived.Laws.CopyOwn
import Derived.OrdersIn
import Derived.RangeFuncCalls
import Derived.RangeFuncNested
import Derived.Test.YtgifflfjhockaaaGreatDoorQ9
import Derived.Test.YtgifflfjhockaaaGreatDoorQ2
import Derived.Test.YtgifflfjhockaaaGreatDoorQ7
namespace Go.Proofs.YtgifflfjhockaaaGreatDoor
open Go.RowKit
section
variable {P : Program} {md : Region.Mode} {ops : Array Oper}

/-- Each number ahead of j has one behind it, up to j. -/
def allBehind (md : Region.Mode) (ops : Array Oper) (j : Nat) : Bool := (List.range j).all fun i => (List.range (j + 1)).any fun k => decide (i < k) && match ops[k]? with
  | none => false
  | some o => o.after.any fun e => Region.binds md e && e.on == i
/-- So it is with all from m on. -/
def tailG (md : Region.Mode) (ops : Array Oper) (m : Nat) : Bool := (List.range ops.size).all fun j => decide (j < m) || allBehind md ops j
/-- The first m write each a slot of its own, and stand behind earlier ones alone. -/
def headG (ops : Array Oper) (ds : Nat → Nat) (m : Nat) : Bool := (List.range m).all fun i => match ops[i]? with
  | none => false
  | some o => o.dst == some (ds i) && ((o.after.all fun e => decide (e.on < i)) && (List.range m).all fun j => i == j || !(ds i == ds j))
def onlyB (ops : Array Oper) : Bool := (List.range ops.size).all fun i => match ops[i]? with
  | none => false
  | some o => o.after.all fun e => decide (e.on < i)
theorem onlyB_at (h : onlyB ops = true) {i : Nat} {o : Oper} (ho : ops[i]? = some o) : ∀ e ∈ o.after, e.on < i := by
  have hi := (Array.getElem?_eq_some_iff.1 ho).1
  have h1 := List.all_eq_true.1 h i (List.mem_range.2 hi)
  simp only [ho] at h1
  intro e he
  have := Array.all_eq_true_iff_forall_mem.1 h1 e he
  simpa using this
theorem headG_at {ds : Nat → Nat} {m : Nat} (h : headG ops ds m = true) {i : Nat} (hi : i < m) {o : Oper} (ho : ops[i]? = some o) : o.dst = some (ds i) ∧ ∀ j, j < m → j ≠ i → ds j ≠ ds i := by
  have h1 := List.all_eq_true.1 h i (List.mem_range.2 hi)
  simp only [ho, Bool.and_eq_true] at h1
  obtain ⟨h1, _, h4⟩ := h1
  refine ⟨by simpa using h1, fun j hj hne e => ?_⟩
  have h5 := List.all_eq_true.1 h4 j (List.mem_range.2 hj)
  rw [e] at h5
  simp at h5
  exact hne h5.symm
/-- What is listed has all listed that it stands behind. -/
def Closed (md : Region.Mode) (ops : Array Oper) (listed : Array Bool) : Prop := ∀ k o, ops[k]? = some o → listed.getD k true = true → ∀ e ∈ o.after, Region.binds md e = true → listed.getD e.on true = true
theorem behind_all {j : Nat} (h : allBehind md ops j = true) {listed : Array Bool} (hC : Closed md ops listed) {o : Oper} (ho : ops[j]? = some o) (hr : ∀ e ∈ o.after, Region.binds md e = true → listed.getD e.on true = true) : ∀ i, i < j → listed.getD i true = true := by
  have key : ∀ d i, i + d = j → 0 < d → listed.getD i true = true := by
    intro d
    induction d using Nat.strongRecOn with
    | ind d ih =>
      intro i hd h0
      have h1 := List.all_eq_true.1 h i (List.mem_range.2 (by omega))
      obtain ⟨k, hk, h2⟩ := List.any_eq_true.1 h1
      have hk' := List.mem_range.1 hk
      simp only [Bool.and_eq_true, decide_eq_true_eq] at h2
      obtain ⟨hik, h3⟩ := h2
      cases hok : ops[k]? with
      | none => rw [hok] at h3; cases h3
      | some q =>
        rw [hok] at h3
        obtain ⟨x, hx, h4⟩ := Array.any_eq_true.1 h3
        simp only [Bool.and_eq_true, beq_iff_eq] at h4
        obtain ⟨hb, hon⟩ := h4
        by_cases e : k = j
        · subst e
          rw [ho] at hok
          injection hok with hok
          subst hok
          have := hr _ (Array.getElem_mem hx) hb
          rw [hon] at this; exact this
        · have hk2 := ih (j - k) (by omega) k (by omega) (by omega)
          have := hC k q hok hk2 _ (Array.getElem_mem hx) hb
          rw [hon] at this; exact this
  intro i hi
  exact key (j - i) i (by omega) (by omega)
theorem getD_set_self {listed : Array Bool} {i : Nat} (h : i < listed.size) : (listed.setIfInBounds i true).getD i true = true := by simp [h]
theorem getD_set_up {listed : Array Bool} {i n : Nat} (h : listed.getD n true = true) : (listed.setIfInBounds i true).getD n true = true := by
  by_cases e : i = n
  · subst e
    by_cases h5 : i < listed.size
    · simp [h5]
    · simp [h5]
  · rw [getD_set_ne true e]; exact h
theorem closed_set {listed : Array Bool} (hC : Closed md ops listed) {i : Nat} {o : Oper} (ho : ops[i]? = some o) (hr : ∀ e ∈ o.after, Region.binds md e = true → listed.getD e.on true = true) : Closed md ops (listed.setIfInBounds i true) := by
  intro k q hq hl e he hb
  by_cases ek : k = i
  · subst ek
    rw [ho] at hq
    injection hq with hq
    subst hq
    exact getD_set_up (hr e he hb)
  · rw [getD_set_ne true (Ne.symm ek)] at hl
    exact getD_set_up (hC k q hq hl e he hb)
theorem ready_getD {listed : Array Bool} (hB : onlyB ops = true) (hs : listed.size = ops.size) {i : Nat} {o : Oper} (ho : ops[i]? = some o) (hall : ∀ e ∈ o.after, Region.binds md e = true → listed.getD e.on false = true) : ∀ e ∈ o.after, Region.binds md e = true → listed.getD e.on true = true := by
  intro e he hb
  have h2 := hall e he hb
  have h3 := onlyB_at hB ho e he
  have h5 := (Array.getElem?_eq_some_iff.1 ho).1
  have h4 : e.on < listed.size := by omega
  simpa [h4] using h2

/-- The last ones, in their order. -/
theorem wpAny_chain {Q : Exit → Act → World → Prop} {m : Nat} (hB : onlyB ops = true) (hT : tailG md ops m = true) : ∀ (fuel j : Nat) (listed : Array Bool) (a : Act) (w : World), m ≤ j → listed.size = ops.size → ops.size ≤ j + fuel → Closed md ops listed →
    (∀ i, i < j → listed.getD i true = true) → (∀ i, j ≤ i → i < ops.size → listed.getD i true = false) → wpList P ops Q (ops.toList.drop j) a w → wpAny P md ops Q fuel listed a w := by
  intro fuel
  induction fuel with
  | zero =>
    intro j listed a w hm hs hf hC h1 h2 h
    rw [List.drop_eq_nil_of_le (by simpa using hf)] at h
    refine ⟨?_, h⟩
    rw [List.eq_nil_iff_forall_not_mem]
    intro i hi
    obtain ⟨hl, o, ho, _⟩ := mem_ready.1 hi
    rw [h1 i (by have := (Array.getElem?_eq_some_iff.1 ho).1; omega)] at hl; cases hl
  | succ fuel ih =>
    intro j listed a w hm hs hf hC h1 h2 h
    refine ⟨fun h0 => ?_, fun i hi => ?_⟩
    · by_cases hj : j < ops.size
      · have ho : ops[j]? = some ops[j] := Array.getElem?_eq_getElem hj
        have : j ∈ Region.ready md ops listed := mem_ready.2 ⟨h2 j (Nat.le_refl _) hj, ops[j], ho, fun e he _ => by
          have h3 := onlyB_at hB ho e he
          have h4 := h1 e.on h3
          have h5 : e.on < listed.size := by omega
          simpa [h5] using h4⟩
        rw [h0] at this; cases this
      · rw [List.drop_eq_nil_of_le (by simpa using hj)] at h
        exact h
    · obtain ⟨hl, o, ho, hall⟩ := mem_ready.1 hi
      have hi' := (Array.getElem?_eq_some_iff.1 ho).1
      have hr := ready_getD (listed := listed) hB hs ho (fun e he hb => hall e he hb)
      have hji : j ≤ i := by
        rcases Nat.lt_or_ge i j with h5 | h5
        · rw [h1 i h5] at hl; cases hl
        · exact h5
      have hb := List.all_eq_true.1 hT i (List.mem_range.2 hi')
      simp only [Bool.or_eq_true, decide_eq_true_eq] at hb
      have hb : allBehind md ops i = true := hb.resolve_left (by omega)
      have hlt := behind_all hb hC ho hr
      obtain rfl : i = j := by
        rcases Nat.lt_or_eq_of_le hji with h5 | h5
        · have := hlt j h5
          rw [h2 j (Nat.le_refl _) (by omega)] at this; cases this
        · exact h5.symm
      have hd : ops.toList.drop i = o :: ops.toList.drop (i + 1) := by
        have hi2 : i < ops.toList.length := by simpa using hi'
        rw [List.drop_eq_getElem_cons hi2]
        congr 1
        have := (Array.getElem?_eq_some_iff.1 ho).2
        simpa using this
      rw [hd] at h
      have hK : ∀ (a' : Act) (w' : World), wpList P ops Q (ops.toList.drop (i + 1)) a' w' → wpAny P md ops Q fuel (listed.setIfInBounds i true) a' w' := fun a' w' h' =>
        ih (i + 1) _ a' w' (by omega) (by simpa using hs) (by omega) (closed_set hC ho hr) (fun k hk => by
          rcases Nat.lt_succ_iff_lt_or_eq.1 hk with h5 | rfl
          · exact getD_set_up (h1 k h5)
          · exact getD_set_self (by omega)) (fun k hk1 hk2 => by rw [getD_set_ne true (by omega)]; exact h2 k (by omega) hk2) h'
      unfold wpOp
      simp only [ho]
      unfold wpList at h
      split
      · rename_i hw
        rw [if_pos hw] at h
        rcases h with h | h
        · exact .inl (Oper.wp_mono hK h)
        · exact .inr h
      · rename_i hw
        rw [if_neg hw] at h
        exact hK _ _ h

theorem wpAny_tail {Q : Exit → Act → World → Prop} (ds : Nat → Nat) (m : Nat) (hm : m ≤ ops.size) (hO : onlyB ops = true) (hB : headG ops ds m = true) (hT : tailG md ops m = true) (S : Nat → Value → World → Prop) (hS : ∀ i v w w', S i v w → Keep NoB w w' → S i v w') (w0 : World) (a0 : Act) (hsz : fitsD ops ds a0.tmps.size = true)
    (hstep : ∀ i o (a : Act) (w : World), ops[i]? = some o → i < m → FrameD a0 ds m a → Keep NoB w0 w → (∀ e ∈ o.after, Region.binds md e = true → S e.on (a.tmps.getD (ds e.on) undef) w) → Does P ops o a w fun u w' => S i u w' ∧ Keep NoB w w')
    (hend : ∀ (a : Act) (w : World), FrameD a0 ds m a → Keep NoB w0 w → (∀ i, i < m → S i (a.tmps.getD (ds i) undef) w) → wpList P ops Q (ops.toList.drop m) a w) :
    ∀ (fuel : Nat) (listed : Array Bool) (a : Act) (w : World), listed.size = ops.size → (∃ L : List Nat, L.length + (ops.size - m) ≤ fuel ∧ ∀ i, i < m → listed.getD i true = false → i ∈ L) → Closed md ops listed → (∀ i, m ≤ i → i < ops.size → listed.getD i true = false) → FrameD a0 ds m a → Keep NoB w0 w →
      (∀ i, i < m → listed.getD i true = true → S i (a.tmps.getD (ds i) undef) w) → wpAny P md ops Q fuel listed a w := by
  intro fuel
  induction fuel with
  | zero =>
    intro listed a w hs ⟨L, hL, hin⟩ hC hN hF hK hA
    have hall : ∀ i, i < m → listed.getD i true = true := fun i hi => by
      cases h : listed.getD i true
      · have := hin i hi h
        rw [List.length_eq_zero_iff.1 (by omega : L.length = 0)] at this; cases this
      · rfl
    exact wpAny_chain hO hT 0 m listed a w (Nat.le_refl _) hs (by omega) hC hall hN (hend a w hF hK fun i hi => hA i hi (hall i hi))
  | succ fuel ih =>
    intro listed a w hs ⟨L, hL, hin⟩ hC hN hF hK hA
    by_cases hdone : ∀ i, i < m → listed.getD i true = true
    · exact wpAny_chain hO hT (fuel + 1) m listed a w (Nat.le_refl _) hs (by omega) hC hdone hN (hend a w hF hK fun i hi => hA i hi (hdone i hi))
    refine ⟨fun h0 => ?_, fun i hi => ?_⟩
    · refine absurd (fun i => ?_) hdone
      induction i using Nat.strongRecOn with
      | ind i ih2 =>
        intro hi
        cases hl : listed.getD i true
        · have hio : i < ops.size := by omega
          have ho : ops[i]? = some ops[i] := Array.getElem?_eq_getElem hio
          have : i ∈ Region.ready md ops listed := mem_ready.2 ⟨hl, ops[i], ho, fun e he _ => by
            have h3 := onlyB_at hO ho e he
            have h4 := ih2 e.on h3 (by omega)
            have h5 : e.on < listed.size := by omega
            simpa [h5] using h4⟩
          rw [h0] at this; cases this
        · rfl
    · obtain ⟨h1, o, ho, hall⟩ := mem_ready.1 hi
      have hi' := (Array.getElem?_eq_some_iff.1 ho).1
      have hr := ready_getD (listed := listed) hO hs ho (fun e he hb => hall e he hb)
      have him : i < m := by
        rcases Nat.lt_or_ge i m with h5 | h5
        · exact h5
        · have hb := List.all_eq_true.1 hT i (List.mem_range.2 hi')
          simp only [Bool.or_eq_true, decide_eq_true_eq] at hb
          have hb : allBehind md ops i = true := hb.resolve_left (by omega)
          exact absurd (fun k hk => behind_all hb hC ho hr k (by omega)) hdone
      obtain ⟨hd, hdis⟩ := headG_at hB him ho
      have hdoes := hstep i o a w ho him hF hK fun e he hb => hA e.on (by have := onlyB_at hO ho e he; omega) (hr e he hb)
      have hnext : ∀ u w', S i u w' → Keep NoB w w' → wpAny P md ops Q fuel (listed.setIfInBounds i true) (a.put o.dst u) w' := by
        intro u w' hSu hk
        rw [hd]
        have hds : ds i < a.tmps.size := by rw [hF.2.1]; exact fitsD_at hsz ho hd
        have hget : ∀ s, (a.put (some (ds i)) u).tmps.getD s undef = if s = ds i then u else a.tmps.getD s undef := fun s => by
          unfold Act.put
          by_cases e : s = ds i
          · subst e; simp [hds]
          · rw [if_neg e]
            simp only [Array.getD_eq_getD_getElem?, Array.getElem?_setIfInBounds]
            rw [if_neg (fun h => e h.symm)]
        refine ih (listed.setIfInBounds i true) _ w' (by simpa using hs) ⟨L.erase i, ?_, fun k hk' hl => ?_⟩ (closed_set hC ho hr) (fun k hk1 hk2 => by rw [getD_set_ne true (by omega)]; exact hN k hk1 hk2) ⟨hF.1, by unfold Act.put; simpa using hF.2.1, fun s hs' => by rw [hget, if_neg (hs' i him)]; exact hF.2.2 s hs'⟩ (keepN hK hk) fun k hk' hl => ?_
        · have hmem := hin i him h1
          have hpos := List.length_pos_of_mem hmem
          rw [List.length_erase_of_mem hmem]; omega
        · have hki : k ≠ i := by
            rintro rfl
            rw [getD_set_self (by omega)] at hl; cases hl
          rw [getD_set_ne true (Ne.symm hki)] at hl
          exact (List.mem_erase_of_ne hki).2 (hin k hk' hl)
        · by_cases e : k = i
          · subst e
            rw [hget, if_pos rfl]; exact hSu
          · rw [hget, if_neg (hdis k hk' e)]
            exact hS k _ _ _ (hA k hk' (by rw [getD_set_ne true (Ne.symm e)] at hl; exact hl)) hk
      unfold wpOp
      simp only [ho]
      rcases hdoes with ⟨hw, hy⟩ | ⟨hw, h2, h3⟩
      · rw [if_pos hw]
        exact .inl (Oper.wp_of_yields hy fun u w' ⟨h2, h3⟩ => hnext u w' h2 h3)
      · rw [if_neg (by rw [hw]; decide)]
        exact hnext undef w h2 h3
theorem wp_region_tail {id : Nat} {Q : Exit → Act → World → Prop} {a0 : Act} {w : World} (ds : Nat → Nat) (m : Nat) (hf : P.follows .mixedOrders = true) (hm : decide (m ≤ ops.size) = true) (hO : onlyB ops = true) (hB : headG ops ds m = true) (hT : tailG .any ops m = true) (S : Nat → Value → World → Prop) (hS : ∀ i v w1 w', S i v w1 → Keep NoB w1 w' → S i v w') (hsz : fitsD ops ds a0.tmps.size = true)
    (hstep : ∀ i o (a : Act) (w' : World), ops[i]? = some o → i < m → FrameD a0 ds m a → Keep NoB w w' → (∀ e ∈ o.after, Region.binds .any e = true → S e.on (a.tmps.getD (ds e.on) undef) w') → Does P ops o a w' fun u w'' => S i u w'' ∧ Keep NoB w' w'')
    (hend : ∀ (a : Act) (w' : World), FrameD a0 ds m a → Keep NoB w w' → (∀ i, i < m → S i (a.tmps.getD (ds i) undef) w') → wpList P ops Q (ops.toList.drop m) a w') : (Code.region id ops true).wp P Q a0 w :=
  have hm := of_decide_eq_true hm
  wp_region_any hf (wpAny_tail ds m hm hO hB hT S hS w a0 hsz hstep hend _ _ a0 w.drew (by simp) ⟨List.range m, by simp; omega, fun i hi _ => List.mem_range.2 hi⟩ (fun k o hk hl => by
    have := (Array.getElem?_eq_some_iff.1 hk).1
    simp [this] at hl) (fun i _ hi => by simp [hi]) ⟨rfl, rfl, fun _ _ => rfl⟩ (Keep.refl NoB w).drew fun i hi hl => by
    have : i < ops.size := by omega
    simp [this] at hl)
end
end Go.Proofs.YtgifflfjhockaaaGreatDoor

namespace Go.Proofs.YtgifflfjhockaaaGreatDoor
open Go.RowKit
section
variable {P : Program} {md : Region.Mode} {ops : Array Oper}

/-- Number i writes the slot ds i (number c may write none), and stands behind earlier ones alone; no two slots are one. -/
def propsD6 (md : Region.Mode) (ops : Array Oper) (ds : Nat → Nat) (c : Nat) : Bool := (List.range ops.size).all fun i => match ops[i]? with
  | none => false
  | some o => (match o.dst with
    | none => i == c
    | some d => d == ds i) && ((o.after.all fun e => !Region.binds md e || decide (e.on < i)) && (List.range ops.size).all fun j => i == j || !(ds i == ds j))
theorem propsD6_at {ds : Nat → Nat} {c : Nat} (h : propsD6 md ops ds c = true) {i : Nat} {o : Oper} (ho : ops[i]? = some o) : (o.dst = some (ds i) ∨ (o.dst = none ∧ i = c)) ∧ (∀ e ∈ o.after, Region.binds md e = true → e.on < i) ∧ ∀ j, j < ops.size → j ≠ i → ds j ≠ ds i := by
  have hi := (Array.getElem?_eq_some_iff.1 ho).1
  have h1 := List.all_eq_true.1 h i (List.mem_range.2 hi)
  simp only [ho, Bool.and_eq_true] at h1
  obtain ⟨h1, h3, h4⟩ := h1
  refine ⟨?_, fun e he hb => ?_, fun j hj hne e => ?_⟩
  · cases hd : o.dst with
    | none => rw [hd] at h1; exact .inr ⟨rfl, by simpa using h1⟩
    | some d => rw [hd] at h1; exact .inl (by simpa using h1)
  · have := Array.all_eq_true_iff_forall_mem.1 h3 e he
    simpa [hb] using this
  · have h5 := List.all_eq_true.1 h4 j (List.mem_range.2 hj)
    rw [e] at h5
    simp at h5
    exact hne h5.symm
theorem no_readyD6 {ds : Nat → Nat} {c : Nat} (hB : propsD6 md ops ds c = true) {listed : Array Bool} (hs : listed.size = ops.size) (hr : Region.ready md ops listed = []) : ∀ i, i < ops.size → listed.getD i true = true := by
  intro i
  induction i using Nat.strongRecOn with
  | ind i ih =>
    intro hi
    cases hl : listed.getD i true
    · have ho : ops[i]? = some ops[i] := Array.getElem?_eq_getElem hi
      have : i ∈ Region.ready md ops listed := mem_ready.2 ⟨hl, ops[i], ho, fun e he hb => by
        have he2 := (propsD6_at hB ho).2.1 e he hb
        have h1 := ih e.on he2 (by omega)
        have h2 : e.on < listed.size := by omega
        simpa [h2] using h1⟩
      rw [hr] at this; cases this
    · rfl
theorem wpAny_props6 {Q : Exit → Act → World → Prop} (ds : Nat → Nat) (c : Nat) (O : Nat → Prop) (late : Nat → Bool) (hB : propsD6 md ops ds c = true) (hLt : lateG md ops c late = true) (S : Nat → Value → World → Prop) (w0 : World) (a0 : Act) (hS1 : ∀ i v w w', i ≠ c → late i = false → Keep O w0 w → S i v w → Keep O w w' → S i v w') (hS2 : ∀ i v w w', Keep O w0 w → S i v w → Keep NoB w w' → S i v w') (hsz : fitsD ops ds a0.tmps.size = true)
    (hstep : ∀ i o (a : Act) (w : World), ops[i]? = some o → i ≠ c → FrameD a0 ds ops.size a → Keep O w0 w → (∀ e ∈ o.after, Region.binds md e = true → S e.on (a.tmps.getD (ds e.on) undef) w) → Does P ops o a w fun u w' => S i u w' ∧ Keep NoB w w')
    (hspec : ∀ o (a : Act) (w : World), ops[c]? = some o → FrameD a0 ds ops.size a → Keep NoB w0 w → (∀ e ∈ o.after, Region.binds md e = true → S e.on (a.tmps.getD (ds e.on) undef) w) → Does P ops o a w fun u w' => (∀ v, (o.dst.isSome = true → v = u) → S c v w') ∧ Keep O w w')
    (hend : ∀ (a : Act) (w : World), FrameD a0 ds ops.size a → Keep O w0 w → (∀ i, i < ops.size → S i (a.tmps.getD (ds i) undef) w) → Q .normal a w) :
    ∀ (fuel : Nat) (listed : Array Bool) (a : Act) (w : World), listed.size = ops.size → (∃ L : List Nat, L.length ≤ fuel ∧ ∀ i, i < ops.size → listed.getD i true = false → i ∈ L) → FrameD a0 ds ops.size a → Keep O w0 w → (listed.getD c true = false → Keep NoB w0 w) → (∀ i, i < ops.size → late i = true → listed.getD i true = true → listed.getD c true = true) →
      (∀ i, i < ops.size → listed.getD i true = true → S i (a.tmps.getD (ds i) undef) w) → wpAny P md ops Q fuel listed a w := by
  have hNO : ∀ {X Y : World}, Keep NoB X Y → Keep O X Y := fun h => h.mono (fun _ hf _ => hf.elim)
  intro fuel
  induction fuel with
  | zero =>
    intro listed a w hs ⟨L, hL, hin⟩ hF hK hC hLa hA
    obtain rfl : L = [] := List.length_eq_zero_iff.1 (by omega)
    have hall : ∀ i, i < ops.size → listed.getD i true = true := fun i hi => by
      cases h : listed.getD i true
      · cases hin i hi h
      · rfl
    refine ⟨?_, hend a w hF hK fun i hi => hA i hi (hall i hi)⟩
    rw [List.eq_nil_iff_forall_not_mem]
    intro i hi
    obtain ⟨h1, o, ho, _⟩ := mem_ready.1 hi
    rw [hall i (Array.getElem?_eq_some_iff.1 ho).1] at h1; cases h1
  | succ fuel ih =>
    intro listed a w hs ⟨L, hL, hin⟩ hF hK hC hLa hA
    refine ⟨fun h0 => hend a w hF hK fun i hi => hA i hi (no_readyD6 hB hs h0 i hi), fun i hi => ?_⟩
    obtain ⟨h1, o, ho, hall⟩ := mem_ready.1 hi
    have hi' := (Array.getElem?_eq_some_iff.1 ho).1
    obtain ⟨hd, hlt, hdis⟩ := propsD6_at hB ho
    have hdeps : ∀ e ∈ o.after, Region.binds md e = true → S e.on (a.tmps.getD (ds e.on) undef) w := fun e he hb => by
      have h2 := hall e he hb
      have h3 := hlt e he hb
      refine hA e.on (by omega) ?_
      have h4 : e.on < listed.size := by omega
      simpa [h4] using h2
    have hKO : (if i = c then Keep NoB w0 w else True) := by
      split
      · rename_i e; subst e; exact hC h1
      · trivial
    have hdoes : Does P ops o a w fun u w' => (∀ v, (o.dst.isSome = true → v = u) → S i v w') ∧ Keep O w w' ∧ (i ≠ c → Keep NoB w w') := by
      by_cases e : i = c
      · subst e
        rw [if_pos rfl] at hKO
        rcases hspec o a w ho hF hKO hdeps with ⟨hw, hy⟩ | ⟨hw, h2, h3⟩
        · refine .inl ⟨hw, ?_⟩
          unfold yieldsK at hy ⊢
          exact yieldsR_mono (fun u w' ⟨h2, h3⟩ => ⟨h2, h3, fun h => absurd rfl h⟩) _ _ hy
        · exact .inr ⟨hw, h2, h3, fun h => absurd rfl h⟩
      · have hsome : o.dst.isSome = true := by
          rcases hd with h | ⟨_, h⟩
          · rw [h]; rfl
          · exact absurd h e
        rcases hstep i o a w ho e hF hK hdeps with ⟨hw, hy⟩ | ⟨hw, h2, h3⟩
        · refine .inl ⟨hw, ?_⟩
          unfold yieldsK at hy ⊢
          exact yieldsR_mono (fun u w' ⟨h2, h3⟩ => ⟨fun v hv => by rw [hv hsome]; exact h2, hNO h3, fun _ => h3⟩) _ _ hy
        · exact .inr ⟨hw, fun v hv => by rw [hv hsome]; exact h2, hNO h3, fun _ => h3⟩
    have hnext : ∀ u w', (∀ v, (o.dst.isSome = true → v = u) → S i v w') → Keep O w w' → (i ≠ c → Keep NoB w w') → wpAny P md ops Q fuel (listed.setIfInBounds i true) (a.put o.dst u) w' := by
      intro u w' hSu hk hkn
      have hfr : FrameD a0 ds ops.size (a.put o.dst u) ∧ (∀ k, k < ops.size → k ≠ i → (a.put o.dst u).tmps.getD (ds k) undef = a.tmps.getD (ds k) undef) ∧ (o.dst.isSome = true → (a.put o.dst u).tmps.getD (ds i) undef = u) := by
        rcases hd with hd | ⟨hd, _⟩
        · rw [hd]
          have hds : ds i < a.tmps.size := by rw [hF.2.1]; exact fitsD_at hsz ho hd
          have hget : ∀ s, (a.put (some (ds i)) u).tmps.getD s undef = if s = ds i then u else a.tmps.getD s undef := fun s => by
            unfold Act.put
            by_cases e : s = ds i
            · subst e; simp [hds]
            · rw [if_neg e]
              simp only [Array.getD_eq_getD_getElem?, Array.getElem?_setIfInBounds]
              rw [if_neg (fun h => e h.symm)]
          refine ⟨⟨hF.1, by unfold Act.put; simpa using hF.2.1, fun s hs' => ?_⟩, fun k hk' hki => ?_, fun _ => ?_⟩
          · rw [hget, if_neg (hs' i hi')]; exact hF.2.2 s hs'
          · rw [hget, if_neg (hdis k hk' hki)]
          · rw [hget, if_pos rfl]
        · rw [hd]
          exact ⟨hF, fun _ _ _ => rfl, fun h => by cases h⟩
      obtain ⟨hF', hother, hself⟩ := hfr
      refine ih (listed.setIfInBounds i true) _ w' (by simpa using hs) ⟨L.erase i, ?_, fun k hk' hl => ?_⟩ hF' (hK.trans hk (fun _ h _ => h)) (fun hl => ?_) (fun k hk' hlk hl => ?_) fun k hk' hl => ?_
      · rw [List.length_erase_of_mem (hin i hi' h1)]; omega
      · have hki : k ≠ i := by
          rintro rfl
          have : k < listed.size := by omega
          simp [this] at hl
        have hl2 : listed.getD k true = false := by rw [getD_set_ne true (Ne.symm hki)] at hl; exact hl
        exact (List.mem_erase_of_ne hki).2 (hin k hk' hl2)
      · have hci : c ≠ i := by
          rintro rfl
          have : c < listed.size := by omega
          simp [this] at hl
        rw [getD_set_ne true (Ne.symm hci)] at hl
        exact keepN (hC hl) (hkn (Ne.symm hci))
      · have hcl : ∀ n, listed.getD n true = true → (listed.setIfInBounds i true).getD n true = true := fun n hn => by
          by_cases e : i = n
          · subst e
            have h5 : i < listed.size := by omega
            simp [h5]
          · rw [getD_set_ne true e]; exact hn
        by_cases e : k = i
        · subst e
          by_cases ec : k = c
          · rw [← ec]; exact hl
          · obtain ⟨x, hx, hb, h6⟩ := lateG_at hLt ho hlk ec
            have h7 := hall x hx hb
            have h8 := hlt x hx hb
            have h9 : x.on < listed.size := by omega
            have h10 : listed.getD x.on true = true := by simpa [h9] using h7
            refine hcl c ?_
            rcases h6 with h6 | h6
            · rw [← h6]; exact h10
            · exact hLa x.on (by omega) h6 h10
        · rw [getD_set_ne true (Ne.symm e)] at hl
          exact hcl c (hLa k hk' hlk hl)
      · by_cases e : k = i
        · subst e
          exact hSu _ hself
        · rw [hother k hk' e]
          rw [getD_set_ne true (Ne.symm e)] at hl
          by_cases ec : i = c
          · subst ec
            by_cases hlk : late k = true
            · have := hLa k hk' hlk hl
              rw [h1] at this; cases this
            · exact hS1 k _ _ _ e (by simpa using hlk) hK (hA k hk' hl) hk
          · exact hS2 k _ _ _ hK (hA k hk' hl) (hkn ec)
    unfold wpOp
    simp only [ho]
    rcases hdoes with ⟨hw, hy⟩ | ⟨hw, h2, h3, h4⟩
    · rw [if_pos hw]
      exact .inl (Oper.wp_of_yields hy fun u w' ⟨h2, h3, h4⟩ => hnext u w' h2 h3 h4)
    · rw [if_neg (by rw [hw]; decide)]
      exact hnext undef w h2 h3 h4
theorem wp_region_props6 {id : Nat} {Q : Exit → Act → World → Prop} {a0 : Act} {w : World} (ds : Nat → Nat) (c : Nat) (O : Nat → Prop) (late : Nat → Bool) (hm : P.follows .mixedOrders = true) (hB : propsD6 .any ops ds c = true) (hLt : lateG .any ops c late = true) (S : Nat → Value → World → Prop) (hS1 : ∀ i v w1 w', i ≠ c → late i = false → Keep O w w1 → S i v w1 → Keep O w1 w' → S i v w') (hS2 : ∀ i v w1 w', Keep O w w1 → S i v w1 → Keep NoB w1 w' → S i v w') (hsz : fitsD ops ds a0.tmps.size = true)
    (hstep : ∀ i o (a : Act) (w' : World), ops[i]? = some o → i ≠ c → FrameD a0 ds ops.size a → Keep O w w' → (∀ e ∈ o.after, Region.binds .any e = true → S e.on (a.tmps.getD (ds e.on) undef) w') → Does P ops o a w' fun u w'' => S i u w'' ∧ Keep NoB w' w'')
    (hspec : ∀ o (a : Act) (w' : World), ops[c]? = some o → FrameD a0 ds ops.size a → Keep NoB w w' → (∀ e ∈ o.after, Region.binds .any e = true → S e.on (a.tmps.getD (ds e.on) undef) w') → Does P ops o a w' fun u w'' => (∀ v, (o.dst.isSome = true → v = u) → S c v w'') ∧ Keep O w' w'')
    (hend : ∀ (a : Act) (w' : World), FrameD a0 ds ops.size a → Keep O w w' → (∀ i, i < ops.size → S i (a.tmps.getD (ds i) undef) w') → Q .normal a w') : (Code.region id ops true).wp P Q a0 w :=
  wp_region_any hm (wpAny_props6 ds c O late hB hLt S w a0 hS1 hS2 hsz hstep hspec hend _ _ a0 w.drew (by simp) ⟨List.range ops.size, by simp, fun i hi _ => List.mem_range.2 hi⟩ ⟨rfl, rfl, fun _ _ => rfl⟩ (Keep.refl O w).drew (fun _ => (Keep.refl NoB w).drew) (fun i hi _ hl => by simp [hi] at hl) fun i hi hl => by
    simp [hi] at hl)
end
end Go.Proofs.YtgifflfjhockaaaGreatDoor

namespace Go.Proofs.YtgifflfjhockaaaGreatDoor
open Go.RowKit
section
variable {P : Program} {md : Region.Mode} {ops : Array Oper}

/-- No operation defers a call. -/
def noDefer (ops : Array Oper) : Bool := ops.all fun o => match o.op with
  | .defer _ => false
  | _ => true
theorem noDefer_at (h : noDefer ops = true) {i : Nat} {o : Oper} (ho : ops[i]? = some o) : ∀ c, o.op ≠ .defer c := by
  intro c e
  obtain ⟨hi, rfl⟩ := Array.getElem?_eq_some_iff.1 ho
  have := Array.all_eq_true.1 h i hi
  rw [e] at this
  cases this
theorem Oper.wpIn_of_yields {l n : Nat} {o : Oper} {a : Act} {w : World} {K' : Act → World → Prop} {Q' : Exit → Act → World → Prop} {R : Value → World → Prop} (hd : ∀ c, o.op ≠ .defer c) (h : yieldsK P o a w R) (hK : ∀ u w', R u w' → K' (a.put o.dst u) w') : o.wpIn (Fence.wide.inRound l) n P a w K' Q' := by
  refine ⟨fun _ _ => trivial, ?_⟩
  rw [Oper.semAt_eq _ _ _ hd]
  unfold yieldsK at h
  generalize (execOp a.eval o).run P w = r at *
  cases r with
  | ok n w' =>
    cases n <;> simp only [yieldsR] at h <;> simp only [Oper.uponIn]
    case value u => exact hK _ _ h
    case skip => exact hK _ _ h
    case enter f args => exact ⟨(fun hx => nomatch hx), CallsIn.inRound l (callsIn_wide.2 (h.mono fun e w'' ⟨u, he, hr⟩ => (by subst he; exact hK _ _ hr)))⟩
  | halt x w' => simp only [yieldsR] at h
end
end Go.Proofs.YtgifflfjhockaaaGreatDoor

namespace Go.Proofs.YtgifflfjhockaaaGreatDoor
open Go.RowKit
section
variable {P : Program} {md : Region.Mode} {ops : Array Oper}

/-- The last ones, in their order. -/
theorem wpAnyIn_chain {l n : Nat} {Q : Exit → Act → World → Prop} {m : Nat} (hB : onlyB ops = true) (hT : tailG md ops m = true) : ∀ (fuel j : Nat) (listed : Array Bool) (a : Act) (w : World), m ≤ j → listed.size = ops.size → ops.size ≤ j + fuel → Closed md ops listed →
    (∀ i, i < j → listed.getD i true = true) → (∀ i, j ≤ i → i < ops.size → listed.getD i true = false) → wpListIn (Fence.wide.inRound l) n P ops Q (ops.toList.drop j) a w → wpAnyIn (Fence.wide.inRound l) n P md ops Q fuel listed a w := by
  intro fuel
  induction fuel with
  | zero =>
    intro j listed a w hm hs hf hC h1 h2 h
    rw [List.drop_eq_nil_of_le (by simpa using hf)] at h
    refine ⟨?_, h⟩
    rw [List.eq_nil_iff_forall_not_mem]
    intro i hi
    obtain ⟨hl, o, ho, _⟩ := mem_ready.1 hi
    rw [h1 i (by have := (Array.getElem?_eq_some_iff.1 ho).1; omega)] at hl; cases hl
  | succ fuel ih =>
    intro j listed a w hm hs hf hC h1 h2 h
    refine ⟨fun h0 => ?_, fun i hi => ?_⟩
    · by_cases hj : j < ops.size
      · have ho : ops[j]? = some ops[j] := Array.getElem?_eq_getElem hj
        have : j ∈ Region.ready md ops listed := mem_ready.2 ⟨h2 j (Nat.le_refl _) hj, ops[j], ho, fun e he _ => by
          have h3 := onlyB_at hB ho e he
          have h4 := h1 e.on h3
          have h5 : e.on < listed.size := by omega
          simpa [h5] using h4⟩
        rw [h0] at this; cases this
      · rw [List.drop_eq_nil_of_le (by simpa using hj)] at h
        exact h
    · obtain ⟨hl, o, ho, hall⟩ := mem_ready.1 hi
      have hi' := (Array.getElem?_eq_some_iff.1 ho).1
      have hr := ready_getD (listed := listed) hB hs ho (fun e he hb => hall e he hb)
      have hji : j ≤ i := by
        rcases Nat.lt_or_ge i j with h5 | h5
        · rw [h1 i h5] at hl; cases hl
        · exact h5
      have hb := List.all_eq_true.1 hT i (List.mem_range.2 hi')
      simp only [Bool.or_eq_true, decide_eq_true_eq] at hb
      have hb : allBehind md ops i = true := hb.resolve_left (by omega)
      have hlt := behind_all hb hC ho hr
      obtain rfl : i = j := by
        rcases Nat.lt_or_eq_of_le hji with h5 | h5
        · have := hlt j h5
          rw [h2 j (Nat.le_refl _) (by omega)] at this; cases this
        · exact h5.symm
      have hd : ops.toList.drop i = o :: ops.toList.drop (i + 1) := by
        have hi2 : i < ops.toList.length := by simpa using hi'
        rw [List.drop_eq_getElem_cons hi2]
        congr 1
        have := (Array.getElem?_eq_some_iff.1 ho).2
        simpa using this
      rw [hd] at h
      have hK : ∀ (a' : Act) (w' : World), wpListIn (Fence.wide.inRound l) n P ops Q (ops.toList.drop (i + 1)) a' w' → wpAnyIn (Fence.wide.inRound l) n P md ops Q fuel (listed.setIfInBounds i true) a' w' := fun a' w' h' =>
        ih (i + 1) _ a' w' (by omega) (by simpa using hs) (by omega) (closed_set hC ho hr) (fun k hk => by
          rcases Nat.lt_succ_iff_lt_or_eq.1 hk with h5 | rfl
          · exact getD_set_up (h1 k h5)
          · exact getD_set_self (by omega)) (fun k hk1 hk2 => by rw [getD_set_ne true (by omega)]; exact h2 k (by omega) hk2) h'
      unfold wpOpIn
      simp only [ho]
      unfold wpListIn at h
      split
      · rename_i hw
        rw [if_pos hw] at h
        exact Oper.wpIn_mono hK h
      · rename_i hw
        rw [if_neg hw] at h
        exact ⟨h.1, hK _ _ h.2⟩

theorem wpAnyIn_tail {l n : Nat} (hnd : noDefer ops = true) {Q : Exit → Act → World → Prop} (ds : Nat → Nat) (m : Nat) (hm : m ≤ ops.size) (hO : onlyB ops = true) (hB : headG ops ds m = true) (hT : tailG md ops m = true) (S : Nat → Value → World → Prop) (hS : ∀ i v w w', S i v w → Keep NoB w w' → S i v w') (w0 : World) (a0 : Act) (hsz : fitsD ops ds a0.tmps.size = true)
    (hstep : ∀ i o (a : Act) (w : World), ops[i]? = some o → i < m → FrameD a0 ds m a → Keep NoB w0 w → (∀ e ∈ o.after, Region.binds md e = true → S e.on (a.tmps.getD (ds e.on) undef) w) → Does P ops o a w fun u w' => S i u w' ∧ Keep NoB w w')
    (hend : ∀ (a : Act) (w : World), FrameD a0 ds m a → Keep NoB w0 w → (∀ i, i < m → S i (a.tmps.getD (ds i) undef) w) → wpListIn (Fence.wide.inRound l) n P ops Q (ops.toList.drop m) a w) :
    ∀ (fuel : Nat) (listed : Array Bool) (a : Act) (w : World), listed.size = ops.size → (∃ L : List Nat, L.length + (ops.size - m) ≤ fuel ∧ ∀ i, i < m → listed.getD i true = false → i ∈ L) → Closed md ops listed → (∀ i, m ≤ i → i < ops.size → listed.getD i true = false) → FrameD a0 ds m a → Keep NoB w0 w →
      (∀ i, i < m → listed.getD i true = true → S i (a.tmps.getD (ds i) undef) w) → wpAnyIn (Fence.wide.inRound l) n P md ops Q fuel listed a w := by
  intro fuel
  induction fuel with
  | zero =>
    intro listed a w hs ⟨L, hL, hin⟩ hC hN hF hK hA
    have hall : ∀ i, i < m → listed.getD i true = true := fun i hi => by
      cases h : listed.getD i true
      · have := hin i hi h
        rw [List.length_eq_zero_iff.1 (by omega : L.length = 0)] at this; cases this
      · rfl
    exact wpAnyIn_chain hO hT 0 m listed a w (Nat.le_refl _) hs (by omega) hC hall hN (hend a w hF hK fun i hi => hA i hi (hall i hi))
  | succ fuel ih =>
    intro listed a w hs ⟨L, hL, hin⟩ hC hN hF hK hA
    by_cases hdone : ∀ i, i < m → listed.getD i true = true
    · exact wpAnyIn_chain hO hT (fuel + 1) m listed a w (Nat.le_refl _) hs (by omega) hC hdone hN (hend a w hF hK fun i hi => hA i hi (hdone i hi))
    refine ⟨fun h0 => ?_, fun i hi => ?_⟩
    · refine absurd (fun i => ?_) hdone
      induction i using Nat.strongRecOn with
      | ind i ih2 =>
        intro hi
        cases hl : listed.getD i true
        · have hio : i < ops.size := by omega
          have ho : ops[i]? = some ops[i] := Array.getElem?_eq_getElem hio
          have : i ∈ Region.ready md ops listed := mem_ready.2 ⟨hl, ops[i], ho, fun e he _ => by
            have h3 := onlyB_at hO ho e he
            have h4 := ih2 e.on h3 (by omega)
            have h5 : e.on < listed.size := by omega
            simpa [h5] using h4⟩
          rw [h0] at this; cases this
        · rfl
    · obtain ⟨h1, o, ho, hall⟩ := mem_ready.1 hi
      have hi' := (Array.getElem?_eq_some_iff.1 ho).1
      have hr := ready_getD (listed := listed) hO hs ho (fun e he hb => hall e he hb)
      have him : i < m := by
        rcases Nat.lt_or_ge i m with h5 | h5
        · exact h5
        · have hb := List.all_eq_true.1 hT i (List.mem_range.2 hi')
          simp only [Bool.or_eq_true, decide_eq_true_eq] at hb
          have hb : allBehind md ops i = true := hb.resolve_left (by omega)
          exact absurd (fun k hk => behind_all hb hC ho hr k (by omega)) hdone
      obtain ⟨hd, hdis⟩ := headG_at hB him ho
      have hdoes := hstep i o a w ho him hF hK fun e he hb => hA e.on (by have := onlyB_at hO ho e he; omega) (hr e he hb)
      have hnext : ∀ u w', S i u w' → Keep NoB w w' → wpAnyIn (Fence.wide.inRound l) n P md ops Q fuel (listed.setIfInBounds i true) (a.put o.dst u) w' := by
        intro u w' hSu hk
        rw [hd]
        have hds : ds i < a.tmps.size := by rw [hF.2.1]; exact fitsD_at hsz ho hd
        have hget : ∀ s, (a.put (some (ds i)) u).tmps.getD s undef = if s = ds i then u else a.tmps.getD s undef := fun s => by
          unfold Act.put
          by_cases e : s = ds i
          · subst e; simp [hds]
          · rw [if_neg e]
            simp only [Array.getD_eq_getD_getElem?, Array.getElem?_setIfInBounds]
            rw [if_neg (fun h => e h.symm)]
        refine ih (listed.setIfInBounds i true) _ w' (by simpa using hs) ⟨L.erase i, ?_, fun k hk' hl => ?_⟩ (closed_set hC ho hr) (fun k hk1 hk2 => by rw [getD_set_ne true (by omega)]; exact hN k hk1 hk2) ⟨hF.1, by unfold Act.put; simpa using hF.2.1, fun s hs' => by rw [hget, if_neg (hs' i him)]; exact hF.2.2 s hs'⟩ (keepN hK hk) fun k hk' hl => ?_
        · have hmem := hin i him h1
          have hpos := List.length_pos_of_mem hmem
          rw [List.length_erase_of_mem hmem]; omega
        · have hki : k ≠ i := by
            rintro rfl
            rw [getD_set_self (by omega)] at hl; cases hl
          rw [getD_set_ne true (Ne.symm hki)] at hl
          exact (List.mem_erase_of_ne hki).2 (hin k hk' hl)
        · by_cases e : k = i
          · subst e
            rw [hget, if_pos rfl]; exact hSu
          · rw [hget, if_neg (hdis k hk' e)]
            exact hS k _ _ _ (hA k hk' (by rw [getD_set_ne true (Ne.symm e)] at hl; exact hl)) hk
      unfold wpOpIn
      simp only [ho]
      rcases hdoes with ⟨hw, hy⟩ | ⟨hw, h2, h3⟩
      · rw [if_pos hw]
        exact Oper.wpIn_of_yields (noDefer_at hnd ho) hy fun u w' ⟨h2, h3⟩ => hnext u w' h2 h3
      · rw [if_neg (by rw [hw]; decide)]
        exact ⟨fun _ _ => trivial, hnext undef w h2 h3⟩
theorem wpIn_region_tail {id l n : Nat} {Q : Exit → Act → World → Prop} {a0 : Act} {w : World} (ds : Nat → Nat) (m : Nat) (hf : P.follows .mixedOrders = true) (hm : decide (m ≤ ops.size) = true) (hO : onlyB ops = true) (hB0 : (headG ops ds m && noDefer ops) = true) (hT : tailG .any ops m = true) (S : Nat → Value → World → Prop) (hS : ∀ i v w1 w', S i v w1 → Keep NoB w1 w' → S i v w') (hsz : fitsD ops ds a0.tmps.size = true)
    (hstep : ∀ i o (a : Act) (w' : World), ops[i]? = some o → i < m → FrameD a0 ds m a → Keep NoB w w' → (∀ e ∈ o.after, Region.binds .any e = true → S e.on (a.tmps.getD (ds e.on) undef) w') → Does P ops o a w' fun u w'' => S i u w'' ∧ Keep NoB w' w'')
    (hend : ∀ (a : Act) (w' : World), FrameD a0 ds m a → Keep NoB w w' → (∀ i, i < m → S i (a.tmps.getD (ds i) undef) w') → wpListIn (Fence.wide.inRound l) n P ops Q (ops.toList.drop m) a w') : (Code.region id ops true).wpIn (Fence.wide.inRound l) n P Q a0 w := by
  have hm := of_decide_eq_true hm
  rw [Bool.and_eq_true] at hB0
  obtain ⟨hB, hnd⟩ := hB0
  exact wpIn_region_any hf (wpAnyIn_tail hnd ds m hm hO hB hT S hS w a0 hsz hstep hend _ _ a0 w.drew (by simp) ⟨List.range m, by simp; omega, fun i hi _ => List.mem_range.2 hi⟩ (fun k o hk hl => by
    have := (Array.getElem?_eq_some_iff.1 hk).1
    simp [this] at hl) (fun i _ hi => by simp [hi]) ⟨rfl, rfl, fun _ _ => rfl⟩ (Keep.refl NoB w).drew fun i hi hl => by
    have : i < ops.size := by omega
    simp [this] at hl)
end
end Go.Proofs.YtgifflfjhockaaaGreatDoor

namespace Go.Proofs.YtgifflfjhockaaaGreatDoor
open Go.RowKit

/-- slices.Clone of a list. -/
theorem clone_own {w W : World} {E size n : Nat} {A' : Option Addr} {c' : Nat} {xs : List Value} (hrow : W.ownsRow 0 E size (.slice A' n c') n xs) (hg : (w.alloc (.cells #[] E)).grownBy W (some w.heap.size)) (hat : (Value.slice A' n c').ownBlock = some w.heap.size ∨ (Value.slice A' n c').ownBlock = some (w.alloc (.cells #[] E)).heap.size) :
    Own W E size (Fresh w) (.slice A' n c') n xs ∧ Keep NoB w W := by
  refine ⟨⟨hrow, fun g e => ?_⟩, ((Keep.refl NoB w).alloc _).grown hg (fun g e hlt => by cases e; omega)⟩
  rcases hat with h | h <;> rw [h] at e <;> cases e <;> simp [Fresh]

set_option maxHeartbeats 800000 in
theorem cloneInts_any (w : World) (A : Option Addr) (xs : List Value) (n c : Nat) (hr : Rd w A xs) (hl : xs.length = n * 1) (h1 : ∀ u ∈ xs, u.oneCell' = true) (hb : n ≤ 1000) :
    Calls Tryz.prog 58 #[.slice A n c] w fun e w' => ∃ v, e = .returned v ∧ Own w' 3 1 (Fresh w) v n xs ∧ Keep NoB w w' := by
  obtain ⟨i0, hi, hz0, hz1, hz2⟩ := info_parts int_info
  have qT : ∀ (w : World) (a : Option Addr) (n c n' c' : Nat), (binOp .eql 55 (.slice a n c) (.slice none n' c')).run Tryz.prog w = .ok (.bool a.isNone) w := fun w a n c n' c' => Lib.run_eql_slice_nil w _ _ a n c n' c' Tryz.underlying55
  rcases A with _ | ad
  · have hx : xs = [] := by
      rcases Nat.eq_zero_or_pos xs.length with h0 | h0
      · exact List.length_eq_zero_iff.1 h0
      · obtain ⟨g, off, e, _⟩ := hr h0; cases e
    subst hx
    obtain rfl : n = 0 := by simp at hl; omega
    go_enter Tryz.func58, Tryz.ntmps58
    go_wp2
    go_ret
    exact ⟨_, rfl, Own.nil _ _ _ _, Keep.refl _ _⟩
  · have hm := World.ownsRow_made (e := 3) (size := 1) (base := 0) w #[] 0 (Nat.zero_le _) (Nat.zero_le _) rfl
    have hr' := hr.keepN ((Keep.refl NoB w).alloc (.cells #[] 3))
    have HL := Lib.hid hl
    have HO := Lib.hid h1
    have HR := Lib.hid hr'
    clear hr hr' hl h1
    go_enter Tryz.func58, Tryz.ntmps58
    go_wp2_with (at_builtin; refine wpList_append_rd _ rfl (.tmp 5) (.tmp 6) _ rfl 3 1 8 i0 _ Tryz.underlying55 hi hz0 hz1 hz2 rfl (by decide) (.slice (some ⟨w.heap.size, 0, none⟩) 0 0) 0 [] (some ad) n c xs rfl hm rfl HR.out HL.out HO.out (by unfold maxLen; omega) (by omega) ?_; intro A5 c5 w5 hrow5 hg5 hv5; rw [Nat.zero_add] at hrow5 hv5 ⊢; rw [List.nil_append] at hrow5; obtain ⟨hO5, hK5⟩ := clone_own hrow5 hg5 hv5)
    go_ret
    exact ⟨_, rfl, hO5, hK5⟩

end Go.Proofs.YtgifflfjhockaaaGreatDoor

namespace Go.Proofs.YtgifflfjhockaaaGreatDoor.F
open Go.RowKit W

theorem sig_infoC : (Tryz.prog.info? 57).map (fun i => (i.zero, i.size, i.bytes)) = some (some (.agg #[.slice none 0 0, .slice none 0 0]), 2, 48) := by kernel_rfl
end Go.Proofs.YtgifflfjhockaaaGreatDoor.F

namespace Go.Proofs.YtgifflfjhockaaaGreatDoor.I
open Go.RowKit Go.Shelf W
attribute [local go_sem] Oper.semAt_some

/-- A signature in memory: its lists, and what they hold. -/
abbrev GE := (SV × List Int) × (SV × List Int)
def gvs (gs : List GE) : List Value := gs.flatMap fun e => [e.1.1.val, e.2.1.val]
def gsg (e : GE) : List Int × List Int := (e.1.2, e.2.2)
structure OwnGE (W : World) (P : Nat → Prop) (e : GE) : Prop where
  a : Own W 3 1 P (.slice e.1.1.A e.1.1.n e.1.1.c) e.1.1.n (ivs e.1.2)
  b : Own W 3 1 P (.slice e.2.1.A e.2.1.n e.2.1.c) e.2.1.n (ivs e.2.2)
/-- The types of a number's function. -/
def sgx (fs : List FE) (x : Nat) : List Int × List Int := ((fnI fs x).2.ar, (fnI fs x).2.rs)
theorem gvs_snoc (gs : List GE) (e : GE) : gvs (gs ++ [e]) = gvs gs ++ [e.1.1.val, e.2.1.val] := by simp [gvs]
/-- A row of another type stays as it was. -/
theorem own_other {W W' : World} {O P : Nat → Prop} {E sz n : Nat} {v : Value} {xs : List Value} (h : Own W E sz P v n xs) (hk : Keep O W W') (hO : ∀ k, O k → ∀ cs f, W.heap[k]? ≠ some (.cells cs E f)) : Own W' E sz P v n xs := by
  refine ⟨⟨h.1.1, ?_⟩, h.2⟩
  rcases h.1.2 with h2 | ⟨g, cap, cur, rfl, hb, hh, r⟩
  · exact .inl h2
  · exact .inr ⟨g, cap, cur, rfl, hb, (hk.block g (Array.getElem?_eq_some_iff.1 hh).1 (fun ho => hO g ho _ _ hh)).trans hh, r⟩
theorem OwnGE.other {W W' : World} {O P : Nat → Prop} {e : GE} (h : OwnGE W P e) (hk : Keep O W W') (hO : ∀ k, O k → ∀ cs f, W.heap[k]? ≠ some (.cells cs 3 f)) : OwnGE W' P e := ⟨own_other h.a hk hO, own_other h.b hk hO⟩
theorem OwnGE.keepN {W W' : World} {P : Nat → Prop} {e : GE} (h : OwnGE W P e) (hk : Keep NoB W W') : OwnGE W' P e := ⟨h.a.keepN hk, h.b.keepN hk⟩
theorem own_grownR {X Y : World} {row : Option Nat} {P : Nat → Prop} {E sz n : Nat} {v : Value} {xs : List Value} (h : Own X E sz P v n xs) (hg : X.grownBy Y row) (hr : ∀ r, row = some r → ∃ o : Obj, X.heap[r]? = some o ∧ o.isCells = false) : Own Y E sz P v n xs := by
  refine ⟨⟨h.1.1, ?_⟩, h.2⟩
  rcases h.1.2 with h2 | ⟨g, cap, cur, rfl, hb, hh, r⟩
  · exact .inl h2
  · refine .inr ⟨g, cap, cur, rfl, hb, (hg.block g (Array.getElem?_eq_some_iff.1 hh).1 (fun e => ?_)).trans hh, r⟩
    obtain ⟨o, ho, hc⟩ := hr g e.symm
    rw [hh] at ho; cases ho; cases hc
theorem own_putObj {W : World} {P : Nat → Prop} {E sz n D : Nat} {v : Value} {xs : List Value} {o : Obj} (o' : Obj) (h : Own W E sz P v n xs) (hl : W.heap[D]? = some o) (ho : o.isCells = false) : Own (W.putObj D o') E sz P v n xs :=
  own_grownR h (grownBy_putObj' W D o') (fun r e => by cases e; exact ⟨o, hl, ho⟩)
theorem keepsFrom_of {B : Nat} {O : Nat → Prop} {W W' : World} (hk : Keep O W W') (hO : ∀ k, O k → ∃ cs t f, W.heap[k]? = some (.cells cs t f)) : KeepsFrom B W W' :=
  ⟨hk.size, fun k o _ h hc => (hk.block k (Array.getElem?_eq_some_iff.1 h).1 (fun ho => by
    obtain ⟨cs, t, f, h2⟩ := hO k ho
    rw [h] at h2; cases h2; cases hc)).trans h⟩
theorem rd_keepO {A : Option Addr} {xs : List Value} {B : Nat} {O : Nat → Prop} {W W' : World} (hA : ∀ ad, A = some ad → 0 < xs.length → ad.block < B) (hk : Keep O W W') (hO : ∀ k, O k → B ≤ k) (hr : Rd W A xs) : Rd W' A xs := fun h0 => by
  obtain ⟨g, off, e, hc⟩ := hr h0
  have hb : g < B := hA ⟨g, off, none⟩ e h0
  exact ⟨g, off, e, fun j u hu => hk.cell (hc j u hu) (fun ho => by have := hO _ ho; simp at this; omega)⟩
/-- A slice in a box that gets longer. -/
theorem box_append {W w1 : World} {b bx : Nat} {T E : TypeId} {sz k m : Nat} {u u' : Value} {xs ys : List Value} (hv : Boxed W bx T u) (hte : T ≠ E) (hrow : W.ownsRow b E sz u k xs) (hown' : w1.ownsRow b E sz u' m ys) (hgrow : W.grownBy w1 u.ownBlock) :
    Boxed w1 bx T u ∧ Boxed (w1.setCell ⟨bx, 0, none⟩ u') bx T u' ∧ (w1.setCell ⟨bx, 0, none⟩ u').ownsRow b E sz u' m ys ∧ Keep (fun j => j = bx ∨ u.ownBlock = some j) W (w1.setCell ⟨bx, 0, none⟩ u') := by
  have hv1 : Boxed w1 bx T u := hv.kept hgrow (hv.not_row hte hrow)
  exact ⟨hv1, hv1.set u', hown'.kept (grownBy_setCell' w1 bx u') (.inr (hv1.not_row hte hown').symm), ((Keep.refl _ W).grown hgrow (fun g e _ => .inr e)).setCell (fun _ => .inl rfl) _⟩
/-- What the loop keeps. -/
def CxI (w : World) (v : IV) (fs : List FE) (pre : List Nat) (W : World) : Prop :=
  ∃ (u : Value) (gs : List GE), Boxed W (w.heap.size + 1 + 1 + 1) 50 u ∧ W.ownsRow w.heap.size 57 2 u gs.length (gvs gs) ∧ (∀ e ∈ gs, OwnGE W (Fresh w) e) ∧ gs.map gsg = pre.map (sgx fs) ∧ Keep NoB w W ∧
    Blk W w.heap.size 25 v.cells ∧ Blk W (w.heap.size + 1) 52 #[.slice none 0 0, .int .i64 0]
theorem cxI_own {w : World} {v : IV} {fs : List FE} {B : Nat} (hB : w.heap.size ≤ B) : OwnFrom B (CxI w v fs) := by
  intro s X Y row ⟨u, gs, h1, h2, h3, h4, h5, h6, h7⟩ hg hrow
  have hr : ∀ r, row = some r → ∃ o : Obj, X.heap[r]? = some o ∧ o.isCells = false := fun r e => (hrow r e).2
  have h2' : Y.ownsRow w.heap.size 57 2 u gs.length (gvs gs) := by
    refine ⟨h2.1, ?_⟩
    rcases h2.2 with h | ⟨g, cap, cur, rfl, hb, hh, r⟩
    · exact .inl h
    · refine .inr ⟨g, cap, cur, rfl, hb, (hg.block g (Array.getElem?_eq_some_iff.1 hh).1 (fun e => ?_)).trans hh, r⟩
      obtain ⟨o, ho, hc⟩ := hr g e.symm
      rw [hh] at ho; cases ho; cases hc
  exact ⟨u, gs, O.blk_own (β := Unit) _ _ _ (fun _ => _) () _ _ _ (show Blk X _ 50 #[u] from h1) hg hrow, h2', fun e he => ⟨own_grownR (h3 e he).a hg hr, own_grownR (h3 e he).b hg hr⟩, h4, O.keep_own (β := Unit) _ hB () _ _ _ h5 hg hrow, O.blk_own (β := Unit) _ _ _ (fun _ => _) () _ _ _ h6 hg hrow, O.blk_own (β := Unit) _ _ _ (fun _ => _) () _ _ _ h7 hg hrow⟩
/-- The activation at the head of the loop's body. -/
def CxA (v : IV) (fs : List FE) (b : Nat) (x : Nat) (Bo : Nat) : Act :=
  { tmps := #[v.val, .pointer (some ⟨b, 0, none⟩), .pointer (some ⟨b + 1, 0, none⟩), .pointer (some ⟨b + 1 + 1 + 1, 0, none⟩), undef, .pointer (some ⟨Bo, 0, none⟩), .pointer (some ⟨b, 1, none⟩), .slice v.Y v.ny v.cy, .int .i64 (v.ny : Int), .slice (some ⟨b + 1 + 1, 0, none⟩) 0 v.ny, v.val, .func (.func 104) #[] #[.pointer (some ⟨b + 1 + 1 + 1 + 1, 0, none⟩)], .int .i64 (x : Int), (fnI fs x).1.val, undef, undef, undef, undef, undef, undef, undef, undef, undef, undef, undef, undef, undef, undef, undef, undef, undef], defers := [] }
theorem ctx_size : (Tryz.prog.info? 52).map (·.size) = some 2 := by kernel_rfl
theorem run_ctx {w : World} {g : Nat} {x y : Value} (h : Blk w g 52 #[x, y]) : (loadVar 52 ⟨g, 0, none⟩).run Tryz.prog w = .ok (.agg #[x, y]) w :=
  run_loadVar_row w g 52 52 #[x, y] (0, 0) _ h Tryz.underlying52 rfl ctx_size
theorem sgx_range {fs : List FE} {n : Nat} (hn : fs.length = n) : (List.range n).map (sgx fs) = fs.map fun e => (e.2.ar, e.2.rs) := by
  apply List.ext_getElem?
  intro i
  unfold sgx
  by_cases h : i < fs.length
  · rw [List.getElem?_map, List.getElem?_range (by omega)]
    simp [fnI_at h, h]
  · rw [List.getElem?_eq_none (by simp; omega), List.getElem?_eq_none (by simp; omega)]
/-- What the values are that the region of a round yields. -/
def SCx (w : World) (u0 : Value) (Bo : Nat) (A : Option Addr) (na ca : Nat) (B : Option Addr) (nb cb : Nat) (a r : List Int) : Nat → Value → World → Prop
  | 0 => fun u _ => u = u0
  | 1 => fun u _ => u = .pointer (some ⟨Bo, 1, none⟩)
  | 2 => fun u _ => u = .pointer (some ⟨Bo, 1, none⟩)
  | 3 => fun u _ => u = .slice A na ca
  | 4 => fun u W => ∃ A1 c1, u = .slice A1 na c1 ∧ Own W 3 1 (Fresh w) (.slice A1 na c1) na (ivs a)
  | 5 => fun u _ => u = .pointer (some ⟨Bo, 1, none⟩)
  | 6 => fun u _ => u = .pointer (some ⟨Bo, 2, none⟩)
  | 7 => fun u _ => u = .slice B nb cb
  | 8 => fun u W => ∃ A1 c1, u = .slice A1 nb c1 ∧ Own W 3 1 (Fresh w) (.slice A1 nb c1) nb (ivs r)
  | 9 => fun u W => ∃ A1 c1 A2 c2, u = .agg #[.slice A1 na c1, .slice A2 nb c2] ∧ Own W 3 1 (Fresh w) (.slice A1 na c1) na (ivs a) ∧ Own W 3 1 (Fresh w) (.slice A2 nb c2) nb (ivs r)
  | 10 => fun u W => ∃ g A1 c1 A2 c2, u = .slice (some ⟨g, 0, none⟩) 1 1 ∧ Blk W g 57 #[.slice A1 na c1, .slice A2 nb c2] ∧ Own W 3 1 (Fresh w) (.slice A1 na c1) na (ivs a) ∧ Own W 3 1 (Fresh w) (.slice A2 nb c2) nb (ivs r)
  | _ => fun _ _ => True
theorem SCx_stable (w : World) (u0 : Value) (Bo : Nat) (A : Option Addr) (na ca : Nat) (B : Option Addr) (nb cb : Nat) (a r : List Int) : ∀ i u W W', SCx w u0 Bo A na ca B nb cb a r i u W → Keep NoB W W' → SCx w u0 Bo A na ca B nb cb a r i u W'
  | 0, _, _, _, h, _ | 1, _, _, _, h, _ | 2, _, _, _, h, _ | 3, _, _, _, h, _ => h
  | 4, _, _, _, ⟨A1, c1, e, h⟩, hk => ⟨A1, c1, e, h.keepN hk⟩
  | 5, _, _, _, h, _ | 6, _, _, _, h, _ | 7, _, _, _, h, _ => h
  | 8, _, _, _, ⟨A1, c1, e, h⟩, hk => ⟨A1, c1, e, h.keepN hk⟩
  | 9, _, _, _, ⟨A1, c1, A2, c2, e, h, h2⟩, hk => ⟨A1, c1, A2, c2, e, h.keepN hk, h2.keepN hk⟩
  | 10, _, _, _, ⟨g, A1, c1, A2, c2, e, hb, h, h2⟩, hk => ⟨g, A1, c1, A2, c2, e, hb.keep hk id, h.keepN hk, h2.keepN hk⟩
  | _ + 11, _, _, _, h, _ => h
theorem rd_blk2 {w : World} {g : Nat} {t : TypeId} {x y : Value} (h : Blk w g t #[x, y]) : ∀ (j : Nat) u, [x, y][j]? = some u → w.cell? ((⟨g, 0, none⟩ : Addr).add j) = some u := fun j u hu => by
  have ea : (⟨g, 0, none⟩ : Addr).add j = ⟨g, j, none⟩ := by unfold Addr.add; by_cases hj : j = 0 <;> simp [hj]
  rw [ea, h.cell j]; simpa using hu

/-- What is changed, where a slice in a box gets longer. -/
theorem box_at {W : World} {b bx : Nat} {T E : TypeId} {sz k : Nat} {u : Value} {xs : List Value} (hv : Boxed W bx T u) (hrow : W.ownsRow b E sz u k xs) (hb : b ≤ bx) : ∀ j, (j = bx ∨ u.ownBlock = some j) → b ≤ j ∧ ∃ cs t f, W.heap[j]? = some (.cells cs t f) ∧ (t = T ∨ t = E) := by
  rintro j (rfl | e)
  · exact ⟨hb, _, _, _, hv, .inl rfl⟩
  · rcases hrow.2 with ⟨rfl, _⟩ | ⟨g, cap, cur, rfl, hg, hh, _⟩
    · simp [Value.ownBlock] at e
    · obtain rfl : g = j := by simpa [Value.ownBlock] using e
      exact ⟨hg, _, _, _, hh, .inr rfl⟩
theorem blk_other {W W' : World} {O : Nat → Prop} {g : Nat} {t : TypeId} {cs : Array Value} (h : Blk W g t cs) (hk : Keep O W W') (hO : ∀ k, O k → ∀ cs f, W.heap[k]? ≠ some (.cells cs t f)) : Blk W' g t cs := h.keep hk (fun ho => hO g ho _ _ h)
theorem one_ivs (l : List Int) : ∀ u ∈ ivs l, u.oneCell' = true := fun u hu => by
  obtain ⟨z, _, rfl⟩ := List.mem_map.1 hu; rfl

set_option maxRecDepth 100000 in
set_option maxHeartbeats 4000000 in
theorem context_any (v : IV) (es : List SE) (fs : List FE) (w : World) (h : ImAt w v es fs) (hs : ∀ e ∈ fs, F.SmF e.1) (hn : v.ny ≤ 1000) :
    Calls Tryz.prog 24 #[v.val] w fun e w' => ∃ X cx gs, e = .returned (.agg #[.slice X v.ny cx, .int .i64 (v.nx : Int)]) ∧ Own w' 57 2 (Fresh w) (.slice X v.ny cx) v.ny (gvs gs) ∧ (∀ e ∈ gs, OwnGE w' (Fresh w) e) ∧ gs.map gsg = (fs.map fun e => (e.2.ar, e.2.rs)) ∧ Keep NoB w w' := by
  obtain ⟨i0, hi, hz0, hz1, hz2⟩ := info_parts F.sig_infoC
  have hly := h.ly
  have HB := Lib.hid (fun (ad : Addr) (e : v.Y = some ad) (h0 : 0 < (fvs fs).length) => rd_lt h.ry e h0)
  have HR := Lib.hid (fun W (hk : Keep NoB w W) => h.ry.keepN hk)
  have HF : Hid (∀ x W, Keep NoB w W → F.FnAt W (fnI fs x).1 (fnI fs x).2 ∧ F.SmF (fnI fs x).1) := fun x W hk => by
    by_cases hx : x < fs.length
    · rw [fnI_at hx]
      exact ⟨(h.hf _ (List.getElem_mem _)).keepN hk, hs _ (List.getElem_mem _)⟩
    · unfold fnI
      rw [List.getElem?_eq_none (by omega)]
      exact ⟨⟨rfl, Rd.none_ _ _, Rd.none_ _ _, Rd.none_ _ _, Rd.none_ _ _, rfl, rfl, rfl, rfl, fun x hx => nomatch hx⟩, ⟨Nat.zero_le _, Nat.zero_le _, Nat.zero_le _, Nat.zero_le _, Nat.zero_le _⟩⟩
  have HN := Lib.hid (sgx_range hly)
  clear h hs
  refine (callsIn_wide (n := 4)).1 ?_
  refine callsIn_of_wp_marks Tryz.func24 rfl trivial ?_ rfl
  have hst := Lib.hid (fun m hm b w hx hr => each_stops m hm b v fs hly hn w hx hr)
  have he1 := Lib.hid (fun m w => each_any m v w)
  have hmk0 := fun W => run_make (P := Tryz.prog) W 50 57 i0 (.agg #[.slice none 0 0, .slice none 0 0]) Tryz.underlying50 hi hz0 .i64 .i64 0 (v.ny : Int) (Int.le_refl _) (by omega) (by rw [hz2]; omega) (by omega)
  have hmk : ∀ W, (Instr.makeSlice 50 (.int .i64 0) (.int .i64 (v.ny : Int))).run Tryz.prog W = .ok (.slice (some ⟨W.heap.size, 0, none⟩) 0 v.ny) (W.alloc (.cells (madeCells #[.slice none 0 0, .slice none 0 0] (v.ny * 2)) 57)) := fun W => by
    rw [hmk0 W, hz1]; rfl
  clear hmk0
  obtain ⟨mc, hmc⟩ : ∃ mc, madeCells #[.slice none 0 0, .slice none 0 0] (v.ny * 2) = mc := ⟨_, rfl⟩
  have hmcs : mc.size = v.ny * 2 := by rw [← hmc]; simp [madeCells]
  rw [hmc] at hmk
  clear hmc
  have k1 := (Keep.refl NoB w).alloc (.cells v.cells 25)
  have k2 := k1.alloc (.cells #[.slice none 0 0, .int .i64 0] 52)
  have k3 := k2.alloc (.cells mc 57)
  have k4 := k3.alloc (.cells #[.slice (some ⟨w.heap.size + 1 + 1, 0, none⟩) 0 v.ny] 50)
  have hK := k4.alloc (.cells v.cells 25)
  have b0 := (((Blk.new w 25 v.cells).alloc (.cells #[.slice none 0 0, .int .i64 0] 52)).alloc (.cells mc 57)).alloc (.cells #[.slice (some ⟨w.heap.size + 1 + 1, 0, none⟩) 0 v.ny] 50)
  have b1 := ((Blk.new (w.alloc (.cells v.cells 25)) 52 #[.slice none 0 0, .int .i64 0]).alloc (.cells mc 57)).alloc (.cells #[.slice (some ⟨w.heap.size + 1 + 1, 0, none⟩) 0 v.ny] 50)
  have b2 := (Blk.new ((w.alloc (.cells v.cells 25)).alloc (.cells #[.slice none 0 0, .int .i64 0] 52)) 57 mc).alloc (.cells #[.slice (some ⟨w.heap.size + 1 + 1, 0, none⟩) 0 v.ny] 50)
  have b3 := Blk.new (((w.alloc (.cells v.cells 25)).alloc (.cells #[.slice none 0 0, .int .i64 0] 52)).alloc (.cells mc 57)) 50 #[.slice (some ⟨w.heap.size + 1 + 1, 0, none⟩) 0 v.ny]
  have b4 := Blk.new ((((w.alloc (.cells v.cells 25)).alloc (.cells #[.slice none 0 0, .int .i64 0] 52)).alloc (.cells mc 57)).alloc (.cells #[.slice (some ⟨w.heap.size + 1 + 1, 0, none⟩) 0 v.ny] 50)) 25 v.cells
  simp only [World.size_alloc] at b1 b2 b3 b4
  obtain ⟨z0, z1⟩ := blk2 b0
  have hr5 := HR.out _ hK
  have hI0 : CxI w v fs [] _ := ⟨_, [], b3.alloc (.cells v.cells 25), ⟨rfl, .inr ⟨w.heap.size + 1 + 1, v.ny, mc, rfl, by omega, b2.alloc (.cells v.cells 25), Nat.zero_le _, by unfold maxLen; omega, hmcs, by simp [gvs]⟩⟩, (fun _ h => nomatch h), rfl, hK, b0.alloc _, b1.alloc _⟩
  have HI0 := Lib.hid hI0
  have HX5 := Lib.hid b4
  have HR5 := Lib.hid hr5
  clear b1 b2 b3 b4 k1 k2 k3 k4 hK hr5 hI0 hmcs b0
  obtain ⟨X, nx, cx, Y, ny, cy⟩ := v
  dsimp only [IV.val, IV.cells] at *
  simp only [Tryz.ntmps24, List.size_toArray, List.length_cons, List.length_nil, Nat.reduceAdd, Nat.reduceSub, Array.replicate_succ, Array.replicate_zero, List.push_toArray, List.append_toArray, List.nil_append, List.cons_append]
  gi_wp2_with (refine ⟨trivial, ?_⟩; gi_at_call 57; refine (he1.out _ _).mono ?_; rintro e w1 ⟨rfl, rfl⟩)
  refine wpIn_rangeFunc_ownH rfl (by omega) (gf := 104) (lb := #[.pointer (some ⟨w.heap.size + 1 + 1 + 1 + 1, 0, none⟩)]) rfl trivial (enters_of Tryz.func104 (by kernel_rfl) rfl)
    (hst.out _ (by omega) _ _ HX5.out HR5.out) FsK.trans (fun W l o o' _ hl ho _ => FsK.putObj W l o o' hl ho) (Below.refl _ _) (fun _ => rfl)
    (CxI w ⟨X, nx, cx, Y, ny, cy⟩ fs) (fun _ _ _ => False) (cxI_own (by simp; omega)) (fun c => fun _ _ _ _ hf _ _ => hf) HI0.out
    (fun x a' W => ∃ Bo, Blk W Bo 61 (fnI fs x).1.cells ∧ a' = CxA ⟨X, nx, cx, Y, ny, cy⟩ fs w.heap.size x Bo) ?hax ?assign ?body ?done ?stop
  case hax =>
    rintro x a' s X Y row ⟨Bo, h1, h2⟩ hg hrow
    exact ⟨Bo, O.blk_own (β := Unit) _ _ _ (fun _ => _) () _ _ _ h1 hg hrow, h2⟩
  case assign =>
    intro l pre x W K hi hK
    have HI := Lib.hid (fun W' hk => cxI_own (w := w) (v := ⟨X, nx, cx, Y, ny, cy⟩) (fs := fs) (B := w.heap.size) (Nat.le_refl _) pre W W' none hi (Keep.grows hk) (fun r e => by cases e))
    have HB1 := Lib.hid (Blk.new W 61 (fnI fs x).1.cells)
    have HK2 := Lib.hid (fun a' W' h1 h2 h3 h4 => hK a' W' h1 h2 h3 h4)
    unfold CxA at HK2
    dsimp only [eaA]
    clear hi
    generalize fnI fs x = e at *
    obtain ⟨⟨S1, A1, na1, ca1, B1, nb1, cb1, L1, nl1, cl1, D1, nd1, cd1⟩, f⟩ := e
    dsimp only [F.FV.val, F.FV.cells, IV.val, IV.cells] at *
    clear hK
    gi_wp2
    exact HK2.out _ _ (keepsFrom_keep ((Keep.refl NoB W).alloc _)) (fun h => h.keepN ((Keep.refl NoB W).alloc _)) (HI.out _ ((Keep.refl NoB W).alloc _)) ⟨_, HB1.out, rfl⟩
  case body =>
    rintro l pre x a' W hl _ ⟨u0, gs, hv, hrow, hgs, hmap, hK, hb0, hb1⟩ ⟨Bo, hb, rfl⟩ hlt
    obtain ⟨hf, hsm⟩ := HF.out x W hK
    have HSG : Hid (sgx fs x = ((fnI fs x).2.ar, (fnI fs x).2.rs)) := rfl
    have cu := hv.cell
    have c1 : W.cell? ⟨Bo, 1, none⟩ = some (.slice (fnI fs x).1.A (fnI fs x).1.na (fnI fs x).1.ca) := hb.cell 1
    have c2 : W.cell? ⟨Bo, 2, none⟩ = some (.slice (fnI fs x).1.B (fnI fs x).1.nb (fnI fs x).1.cb) := hb.cell 2
    have HV := Lib.hid (And.intro hv (And.intro hrow (And.intro hgs (And.intro hmap (And.intro hK (And.intro hb0 hb1))))))
    have hgl : gs.length = pre.length := by have := congrArg List.length hmap; simpa using this
    have hgn : gs.length ≤ 1000 := by omega
    clear hv hrow hgs hmap hK hb0 hb1 hb hgl
    dsimp only [CxA, IV.val]
    generalize fnI fs x = e at *
    obtain ⟨⟨S1, A1, na1, ca1, B1, nb1, cb1, L1, nl1, cl1, D1, nd1, cd1⟩, f⟩ := e
    dsimp only [F.FV.val, F.FV.cells] at *
    have HC1 := Lib.hid (fun W' (hk : Keep NoB W W') => cloneInts_any W' A1 (ivs f.ar) na1 ca1 (hf.ra.keepN hk) (by have := hf.la; simp; omega) (one_ivs _) (by have := hsm.na; dsimp only at this; omega))
    have HC2 := Lib.hid (fun W' (hk : Keep NoB W W') => cloneInts_any W' B1 (ivs f.rs) nb1 cb1 (hf.rb.keepN hk) (by have := hf.lb; simp; omega) (one_ivs _) (by have := hsm.nb; dsimp only at this; omega))
    have HSZ := Lib.hid HV.out.2.2.2.2.1.size
    clear hf hsm
    gi_wp2_with fail
    refine wpIn_region_tail (fun i => [14, 15, 16, 17, 18, 19, 20, 21, 22, 23, 24].getD i 0) 11 (by kernel_rfl) (by kernel_rfl) (by kernel_rfl) (by kernel_rfl) (by kernel_rfl) (SCx w u0 Bo A1 na1 ca1 B1 nb1 cb1 f.ar f.rs) (fun i u x y h hk => SCx_stable _ _ _ _ _ _ _ _ _ _ _ i u x y h hk) rfl ?step ?fin
    case step =>
      intro i o a w' hoo hi hF hK hA
      by_cases h0 : i = 0
      · subst h0
        simp only [List.getElem?_toArray, List.getElem?_cons_zero, Option.some.injEq] at hoo
        subst hoo
        have e3 : a.tmps.getD 3 undef = .pointer (some ⟨w.heap.size + 1 + 1 + 1, 0, none⟩) := hF.2.2 3 (by decide)
        have q0 := Keep.cell hK cu id
        refine Does.plain rfl ?_
        unfold yieldsK
        go_simp
        exact ⟨rfl, Keep.refl _ _⟩
      by_cases h1 : i = 1
      · subst h1
        simp only [List.getElem?_toArray, List.getElem?_cons_zero, List.getElem?_cons_succ, Option.some.injEq] at hoo
        subst hoo
        have e5 : a.tmps.getD 5 undef = .pointer (some ⟨Bo, 0, none⟩) := hF.2.2 5 (by decide)
        refine Does.plain rfl ?_
        unfold yieldsK
        go_simp
        exact ⟨rfl, Keep.refl _ _⟩
      by_cases h2 : i = 2
      · subst h2
        simp only [List.getElem?_toArray, List.getElem?_cons_zero, List.getElem?_cons_succ, Option.some.injEq] at hoo
        subst hoo
        have e15 : a.tmps.getD 15 undef = .pointer (some ⟨Bo, 1, none⟩) := hA ⟨1, .data⟩ (by simp) rfl
        refine Does.plain rfl ?_
        unfold yieldsK
        go_simp
        exact ⟨rfl, Keep.refl _ _⟩
      by_cases h3 : i = 3
      · subst h3
        simp only [List.getElem?_toArray, List.getElem?_cons_zero, List.getElem?_cons_succ, Option.some.injEq] at hoo
        subst hoo
        have e16 : a.tmps.getD 16 undef = .pointer (some ⟨Bo, 1, none⟩) := hA ⟨2, .data⟩ (by simp) rfl
        have q0 := Keep.cell hK c1 id
        refine Does.plain rfl ?_
        unfold yieldsK
        go_simp
        exact ⟨rfl, Keep.refl _ _⟩
      by_cases h4 : i = 4
      · subst h4
        simp only [List.getElem?_toArray, List.getElem?_cons_zero, List.getElem?_cons_succ, Option.some.injEq] at hoo
        subst hoo
        have e17 : a.tmps.getD 17 undef = .slice A1 na1 ca1 := hA ⟨3, .data⟩ (by simp) rfl
        refine Does.plain rfl ?_
        unfold yieldsK
        go_simp
        refine (HC1.out w' hK).mono ?_
        rintro e w5 ⟨u5, rfl, h2, h3⟩
        obtain ⟨A5, c5, rfl, hc5, hr5, had5⟩ := h2.form
        exact ⟨_, rfl, ⟨A5, c5, rfl, h2.mono (fun k (hk : Fresh w' k) _ => (Nat.le_trans HSZ.out (Nat.le_trans hK.size hk) : w.heap.size ≤ k))⟩, h3⟩
      by_cases h5 : i = 5
      · subst h5
        simp only [List.getElem?_toArray, List.getElem?_cons_zero, List.getElem?_cons_succ, Option.some.injEq] at hoo
        subst hoo
        have e5 : a.tmps.getD 5 undef = .pointer (some ⟨Bo, 0, none⟩) := hF.2.2 5 (by decide)
        refine Does.plain rfl ?_
        unfold yieldsK
        go_simp
        exact ⟨rfl, Keep.refl _ _⟩
      by_cases h6 : i = 6
      · subst h6
        simp only [List.getElem?_toArray, List.getElem?_cons_zero, List.getElem?_cons_succ, Option.some.injEq] at hoo
        subst hoo
        have e19 : a.tmps.getD 19 undef = .pointer (some ⟨Bo, 1, none⟩) := hA ⟨5, .data⟩ (by simp) rfl
        refine Does.plain rfl ?_
        unfold yieldsK
        go_simp
        exact ⟨rfl, Keep.refl _ _⟩
      by_cases h7 : i = 7
      · subst h7
        simp only [List.getElem?_toArray, List.getElem?_cons_zero, List.getElem?_cons_succ, Option.some.injEq] at hoo
        subst hoo
        have e20 : a.tmps.getD 20 undef = .pointer (some ⟨Bo, 2, none⟩) := hA ⟨6, .data⟩ (by simp) rfl
        have q0 := Keep.cell hK c2 id
        refine Does.plain rfl ?_
        unfold yieldsK
        go_simp
        exact ⟨rfl, Keep.refl _ _⟩
      by_cases h8 : i = 8
      · subst h8
        simp only [List.getElem?_toArray, List.getElem?_cons_zero, List.getElem?_cons_succ, Option.some.injEq] at hoo
        subst hoo
        have e21 : a.tmps.getD 21 undef = .slice B1 nb1 cb1 := hA ⟨7, .data⟩ (by simp) rfl
        refine Does.plain rfl ?_
        unfold yieldsK
        go_simp
        refine (HC2.out w' hK).mono ?_
        rintro e w5 ⟨u5, rfl, h2, h3⟩
        obtain ⟨A5, c5, rfl, hc5, hr5, had5⟩ := h2.form
        exact ⟨_, rfl, ⟨A5, c5, rfl, h2.mono (fun k (hk : Fresh w' k) _ => (Nat.le_trans HSZ.out (Nat.le_trans hK.size hk) : w.heap.size ≤ k))⟩, h3⟩
      by_cases h9 : i = 9
      · subst h9
        simp only [List.getElem?_toArray, List.getElem?_cons_zero, List.getElem?_cons_succ, Option.some.injEq] at hoo
        subst hoo
        obtain ⟨A5, c5, e18, h5⟩ := hA ⟨4, .data⟩ (by simp) rfl
        have e18 : a.tmps.getD 18 undef = .slice A5 na1 c5 := e18
        obtain ⟨A6, c6, e22, h6⟩ := hA ⟨8, .data⟩ (by simp) rfl
        have e22 : a.tmps.getD 22 undef = .slice A6 nb1 c6 := e22
        refine Does.plain rfl ?_
        unfold yieldsK
        simp only [Array.getD_eq_getD_getElem?] at e18 e22
        go_simp
        exact ⟨⟨A5, c5, A6, c6, rfl, h5, h6⟩, Keep.refl _ _⟩
      by_cases h10 : i = 10
      · subst h10
        simp only [List.getElem?_toArray, List.getElem?_cons_zero, List.getElem?_cons_succ, Option.some.injEq] at hoo
        subst hoo
        obtain ⟨A5, c5, A6, c6, e23, h5, h6⟩ := hA ⟨9, .data⟩ (by simp) rfl
        have e23 : a.tmps.getD 23 undef = .agg #[.slice A5 na1 c5, .slice A6 nb1 c6] := e23
        refine Does.plain rfl ?_
        unfold yieldsK
        simp only [Array.getD_eq_getD_getElem?] at e23
        go_simp
        exact ⟨⟨w'.heap.size, A5, c5, A6, c6, rfl, Blk.new _ _ _, h5.keepN ((Keep.refl _ _).alloc _), h6.keepN ((Keep.refl _ _).alloc _)⟩, (Keep.refl _ _).alloc _⟩
      omega
    case fin =>
      intro a w' hF gK hA
      have e14 : a.tmps.getD 14 undef = u0 := hA 0 (by decide)
      obtain ⟨g, A5, c5, A6, c6, e24, hb2, ho5, ho6⟩ := hA 10 (by decide)
      have e24 : a.tmps.getD 24 undef = .slice (some ⟨g, 0, none⟩) 1 1 := e24
      have ha := frameD_list (l := [14, 15, 16, 17, 18, 19, 20, 21, 22, 23, 24]) rfl hF
      rw [ha]
      simp only [List.map_cons, List.map_nil, e14, e24]
      generalize a.tmps.getD 15 undef = u1
      generalize a.tmps.getD 16 undef = u2
      generalize a.tmps.getD 17 undef = u3
      generalize a.tmps.getD 18 undef = u4
      generalize a.tmps.getD 19 undef = u5
      generalize a.tmps.getD 20 undef = u6
      generalize a.tmps.getD 21 undef = u7
      generalize a.tmps.getD 22 undef = u8
      generalize a.tmps.getD 23 undef = u9
      simp only [fillD, List.setIfInBounds_toArray, List.set_cons_zero, List.set_cons_succ]
      obtain ⟨hv, hrow, hgs, hmap, hK, hb0, hb1⟩ := HV.out
      have hv2 : Boxed w' (w.heap.size + 1 + 1 + 1) 50 u0 := (show Blk w' _ _ _ from (show Blk W _ 50 #[u0] from hv).keep gK id)
      have hrow2 := ownsRow_keep hrow gK (fun _ _ => id)
      have HFIN : Hid (∀ u' w2, w2.ownsRow w.heap.size 57 2 u' (gs.length + 1) (gvs gs ++ [.slice A5 na1 c5, .slice A6 nb1 c6]) → w'.grownBy w2 u0.ownBlock →
          KeepsFrom (w.heap.size + 1 + 1 + 1 + 1 + 1) W (w2.setCell ⟨w.heap.size + 1 + 1 + 1, 0, none⟩ u') ∧ FsK Y fs W (w2.setCell ⟨w.heap.size + 1 + 1 + 1, 0, none⟩ u') ∧ CxI w ⟨X, nx, cx, Y, ny, cy⟩ fs (pre ++ [x]) (w2.setCell ⟨w.heap.size + 1 + 1 + 1, 0, none⟩ u')) := fun u' w2 hown' hgrow => by
        obtain ⟨_, hv3, hr3, hk3⟩ := box_append hv2 (by decide) hrow2 hown' hgrow
        have hat := box_at hv2 hrow2 (by omega)
        have hty : ∀ E : TypeId, E ≠ 50 → E ≠ 57 → ∀ k, (k = w.heap.size + 1 + 1 + 1 ∨ u0.ownBlock = some k) → ∀ cs f, w'.heap[k]? ≠ some (.cells cs E f) := fun E h1 h2 k hk cs f h3 => by
          obtain ⟨_, cs2, t, f2, h4, h5⟩ := hat k hk
          rw [h4] at h3
          cases h3
          exact h5.elim h1 h2
        refine ⟨(keepsFrom_keep gK).trans (keepsFrom_of hk3 (fun k hk => by
          obtain ⟨_, cs2, t, f2, h4, _⟩ := hat k hk
          exact ⟨cs2, t, f2, h4⟩)), fun hr => rd_keepO HB.out hk3 (fun k hk => (hat k hk).1) (hr.keepN gK), u', gs ++ [((⟨A5, na1, c5⟩, f.ar), (⟨A6, nb1, c6⟩, f.rs))], hv3, ?_, ?_, ?_, ?_, ?_, ?_⟩
        · rw [List.length_append, gvs_snoc]; exact hr3
        · intro e he
          rcases List.mem_append.1 he with h | h
          · exact ((hgs e h).keepN gK).other hk3 (hty _ (by decide) (by decide))
          · obtain rfl := List.mem_singleton.1 h
            exact ⟨own_other ho5 hk3 (hty _ (by decide) (by decide)), own_other ho6 hk3 (hty _ (by decide) (by decide))⟩
        · rw [List.map_append, List.map_append, hmap]
          congr 1
          exact congrArg (fun z => [z]) HSG.out.symm
        · exact (keepN hK gK).trans hk3 (fun k hk hl => by have := (hat k hk).1; omega)
        · exact blk_other (hb0.keep gK id) hk3 (hty _ (by decide) (by decide))
        · exact blk_other (hb1.keep gK id) hk3 (hty _ (by decide) (by decide))
      have hsz2 : w.heap.size ≤ w'.heap.size := Nat.le_trans hK.size gK.size
      clear HV hv hrow hgs hmap hK hb0 hb1 ho5 ho6 HC1 HC2 cu c1 c2 hA hF ha e14 e24
      simp only [List.drop_succ_cons, List.drop_zero]
      generalize gvs gs = xs at *
      gi_wp2_with (gi_at_builtin; refine wpListIn_append_own _ rfl _ _ 50 rfl w.heap.size 57 i0 _ 2 48 Tryz.underlying50 hi hz0 hz1 hz2 rfl (by decide) u0 gs.length xs rfl hrow2 ⟨g, 0, none⟩ 1 1 [.slice A5 na1 c5, .slice A6 nb1 c6] rfl rfl (rd_blk2 hb2) (by simp [Value.oneCell']) (by unfold maxLen; omega) (by omega) hsz2 ?_; intro u' w2 hown' hgrow _; obtain ⟨A9, c9, rfl⟩ := own_form hown'; have hfin := Lib.hid (HFIN.out _ _ hown' hgrow); have hv3 := hv2.kept hgrow (hv2.not_row (by decide) hrow2); have hc1 := hv3.cell; have hf1 := hv3.frozen)
      exact ⟨by simpa using hfin.out.1, hfin.out.2⟩
  case done =>
    rintro D ys W hD rfl ⟨u0, gs, hv, hrow, hgs, hmap, hK, hb0, hb1⟩ hDf
    rw [HN.out] at hmap
    have hgl : gs.length = ny := by have := congrArg List.length hmap; simpa [hly] using this
    rw [hgl] at hrow
    obtain ⟨A0, c0, rfl⟩ := own_form hrow
    have cv := hv.cell
    obtain ⟨z0, z1⟩ := blk2 hb0
    dsimp only at z0 z1
    have f3 := fun i => hb1.frozen i
    have q0 := hb1.cell 0
    have q1 := hb1.cell 1
    simp only [List.getElem?_toArray, List.getElem?_cons_zero, List.getElem?_cons_succ] at q0 q1
    have hlt := hb1.lt
    have HP : Hid (Blk ((W.setCell ⟨w.heap.size + 1, 0, none⟩ (.slice A0 ny c0)).setCell ⟨w.heap.size + 1, 1, none⟩ (.int .i64 (nx : Int))) (w.heap.size + 1) 52 #[.slice A0 ny c0, .int .i64 (nx : Int)]) := by
      have := (hb1.put 0 (.slice A0 ny c0)).put 1 (.int .i64 (nx : Int))
      show Blk _ _ _ _
      simpa using this
    have kq : Keep (fun k => k = w.heap.size + 1) W ((W.setCell ⟨w.heap.size + 1, 0, none⟩ (.slice A0 ny c0)).setCell ⟨w.heap.size + 1, 1, none⟩ (.int .i64 (nx : Int))) := ((Keep.refl (fun k => k = w.heap.size + 1) W).setCell (p := ⟨w.heap.size + 1, 0, none⟩) (fun _ => rfl) _).setCell (p := ⟨w.heap.size + 1, 1, none⟩) (fun _ => rfl) _
    have hot : ∀ (E : TypeId), E ≠ 52 → ∀ k, k = w.heap.size + 1 → ∀ cs f, W.heap[k]? ≠ some (.cells cs E f) := fun E hE k hk cs f h2 => by
      subst hk
      rw [show W.heap[w.heap.size + 1]? = _ from hb1] at h2
      cases h2; exact hE rfl
    have HO := Lib.hid (own_other (Own.of_row (O := Fresh w) hrow (fun k hk => hk)) kq (hot _ (by decide)))
    have HG := Lib.hid (fun e he => OwnGE.other (hgs e he) kq (hot _ (by decide)))
    have HK := Lib.hid (hK.trans kq (fun k e hl => by omega))
    have HDf : Hid (((W.setCell ⟨w.heap.size + 1, 0, none⟩ (.slice A0 ny c0)).setCell ⟨w.heap.size + 1, 1, none⟩ (.int .i64 (nx : Int))).heap[D]? = some (.deferred (some []))) := (Below.heap_setCell _ _ _ _ (by show D ≠ w.heap.size + 1; simp at hD; omega)).trans ((Below.heap_setCell _ _ _ _ (by show D ≠ w.heap.size + 1; simp at hD; omega)).trans hDf)
    have HMP := Lib.hid hmap
    clear hb1 hv hrow hgs hb0 hmap kq hot hK
    gi_wp2
    refine ⟨by simp, .inl ⟨_, _, rfl, run_takeDeferred HDf.out, ?_⟩⟩
    refine ⟨_, O.results_cell rfl rfl (run_ctx (blk_putObj HP.out HDf.out rfl)), A0, c0, gs, rfl, own_putObj _ HO.out HDf.out rfl, fun e he => ⟨own_putObj _ (HG.out e he).a HDf.out rfl, own_putObj _ (HG.out e he).b HDf.out rfl⟩, HMP.out, O.Keep_putObj HK.out (by simp at hD; omega)⟩
  case stop =>
    rintro D c pre W _ _ hf _
    exact hf.elim

end Go.Proofs.YtgifflfjhockaaaGreatDoor.I
