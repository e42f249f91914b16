/-
  Part 12 of the proofs of LBackRow, LLabelsRow: what is laid, and what the functions that the law runs answer. Conditions: each theorem names its own.
-/
import Derived.Lib.Fields
import Derived.Test.YtgnooffedmeenaaGreatDoorQB11
namespace Go.Proofs.YtgnooffedmeenaaGreatDoor.M
open Go.RowKit Go.Shelf W
attribute [local go_sem] Oper.semAt_some

end Go.Proofs.YtgnooffedmeenaaGreatDoor.M

namespace Go.Proofs.YtgnooffedmeenaaGreatDoor
open Go.RowKit
section
variable {P : Program} {md : Region.Mode} {ops : Array Oper}

def lateG (md : Region.Mode) (ops : Array Oper) (c : Nat) (late : Nat → Bool) : Bool := (List.range ops.size).all fun i => match ops[i]? with
 | none => false
 | some o => !late i || (i == c || o.after.any fun e => Region.binds md e && (e.on == c || late e.on))
theorem lateG_at {c : Nat} {late : Nat → Bool} (h : lateG md ops c late = true) {i : Nat} {o : Oper} (ho : ops[i]? = some o) (hl : late i = true) (hc : i ≠ c) : ∃ e ∈ o.after, Region.binds md e = true ∧ (e.on = c ∨ late e.on = true) := by
 have hi := (Array.getElem?_eq_some_iff.1 ho).1
 have h1 := List.all_eq_true.1 h i (List.mem_range.2 hi)
 simp only [ho, hl, Bool.not_true, Bool.false_or, Bool.or_eq_true, beq_iff_eq] at h1
 rcases h1 with h1 | h1
 ·exact absurd h1 hc
 ·obtain ⟨j, hj, h2⟩ := Array.any_eq_true.1 h1
  simp only [Bool.and_eq_true, Bool.or_eq_true, beq_iff_eq] at h2
  exact ⟨o.after[j], Array.getElem_mem hj, h2.1, h2.2⟩

end
end Go.Proofs.YtgnooffedmeenaaGreatDoor

namespace Go.Proofs.YtgnooffedmeenaaGreatDoor
open Go.RowKit
section
variable {P : Program} {md : Region.Mode} {ops : Array Oper}

def FrameD (a0 : Act) (ds : Nat → Nat) (n : Nat) (a : Act) : Prop := a.defers = a0.defers ∧ a.tmps.size = a0.tmps.size ∧ ∀ s, (∀ i, i < n → s ≠ ds i) → a.tmps.getD s undef = a0.tmps.getD s undef
def fitsD (ops : Array Oper) (ds : Nat → Nat) (n : Nat) : Bool := (List.range ops.size).all fun i => ((ops[i]?).bind (·.dst)).isNone || decide (ds i < n)
theorem fitsD_at {ds : Nat → Nat} {n : Nat} (h : fitsD ops ds n = true) {i : Nat} {o : Oper} (ho : ops[i]? = some o) {d : Nat} (hd : o.dst = some d) : ds i < n := by
 have hi := (Array.getElem?_eq_some_iff.1 ho).1
 have h1 := List.all_eq_true.1 h i (List.mem_range.2 hi)
 simpa [ho, hd] using h1
def fillD (t : Array Value) : List (Nat × Value) → Array Value
 | [] => t
 | x :: vs => fillD (t.setIfInBounds x.1 x.2) vs
theorem fillD_size : ∀ (vs : List (Nat × Value)) (t : Array Value), (fillD t vs).size = t.size
 | [], _ => rfl
 | x :: vs, t => by rw [fillD, fillD_size vs]; simp
theorem fillD_get : ∀ (vs : List (Nat × Value)) (t u : Array Value) (s : Nat), t.size = u.size → (∀ x ∈ vs, x.2 = u.getD x.1 undef) → ((∃ x ∈ vs, x.1 = s) ∨ t.getD s undef = u.getD s undef) → (fillD t vs).getD s undef = u.getD s undef
 | [], _, _, _, _, _, h => by
  rcases h with ⟨x, hx, _⟩ | h
  ·cases hx
  ·exact h
 | x :: vs, t, u, s, hz, hv, h => by
  rw [fillD]
  refine fillD_get vs _ u s (by simpa using hz) (fun y hy => hv y (List.mem_cons_of_mem _ hy)) ?_
  by_cases e : x.1 = s
  ·refine .inr ?_
   have h1 := hv x List.mem_cons_self
   by_cases hs : s < t.size
   ·rw [h1, e]
    have hs2 : s < u.size := by omega
    simp [hs]
   ·have hs2 : ¬ s < u.size := by omega
    simp [hs, hs2]
  ·rcases h with ⟨y, hy, hye⟩ | h
   ·rcases List.mem_cons.1 hy with rfl | hy
    ·exact absurd hye e
    ·exact .inl ⟨y, hy, hye⟩
   ·refine .inr ?_
    simp only [Array.getD_eq_getD_getElem?, Array.getElem?_setIfInBounds] at h ⊢
    rw [if_neg e]; exact h
theorem frameD_fill {a0 a : Act} {ds : Nat → Nat} {n : Nat} (h : FrameD a0 ds n a) : a = { tmps := fillD a0.tmps ((List.range n).map fun i => (ds i, a.tmps.getD (ds i) undef)), defers := a0.defers } := by
 obtain ⟨h1, h2, h3⟩ := h
 have e : a.tmps = fillD a0.tmps ((List.range n).map fun i => (ds i, a.tmps.getD (ds i) undef)) := by
  apply Array.ext
  ·rw [fillD_size, h2]
  ·intro s hs1 hs2
   have := fillD_get ((List.range n).map fun i => (ds i, a.tmps.getD (ds i) undef)) a0.tmps a.tmps s h2.symm (fun x hx => by
    obtain ⟨i, _, rfl⟩ := List.mem_map.1 hx; rfl) (by
    by_cases hc : ∃ i, i < n ∧ ds i = s
    ·obtain ⟨i, hi, hie⟩ := hc
     exact .inl ⟨_, List.mem_map.2 ⟨i, List.mem_range.2 hi, rfl⟩, hie⟩
    ·exact .inr (h3 s (fun i hi e => hc ⟨i, hi, e.symm⟩)).symm)
   rw [Array.getD_eq_getD_getElem?, Array.getD_eq_getD_getElem?, Array.getElem?_eq_getElem hs2, Array.getElem?_eq_getElem hs1] at this
   simpa using this.symm
 cases a
 simp only at h1 e
 rw [h1, ← e]

theorem frameD_list {a0 a : Act} {l : List Nat} {n : Nat} (hn : n = l.length) (h : FrameD a0 (fun i => l.getD i 0) n a) : a = { tmps := fillD a0.tmps (l.map fun d => (d, a.tmps.getD d undef)), defers := a0.defers } := by
 subst hn
 have h1 := frameD_fill h
 have e : ((List.range l.length).map fun i => (l.getD i 0, a.tmps.getD (l.getD i 0) undef)) = l.map fun d => (d, a.tmps.getD d undef) := by
  apply List.ext_getElem?
  intro i
  by_cases hi : i < l.length
  ·rw [List.getElem?_map, List.getElem?_range hi, List.getElem?_map, List.getElem?_eq_getElem hi]
   simp [List.getD, List.getElem?_eq_getElem hi]
  ·rw [List.getElem?_eq_none (by simp; omega), List.getElem?_eq_none (by simp; omega)]
 rw [e] at h1
 exact h1

end
end Go.Proofs.YtgnooffedmeenaaGreatDoor

namespace Go.Proofs.YtgnooffedmeenaaGreatDoor
open Go.RowKit
section
variable {P : Program} {md : Region.Mode} {ops : Array Oper}

def allBehind (md : Region.Mode) (ops : Array Oper) (j : Nat) : Bool := (List.range j).all fun i => (List.range (j + 1)).any fun k => decide (i < k) && match ops[k]? with
 | none => false
 | some o => o.after.any fun e => Region.binds md e && e.on == i
def tailG (md : Region.Mode) (ops : Array Oper) (m : Nat) : Bool := (List.range ops.size).all fun j => decide (j < m) || allBehind md ops j
def headG (ops : Array Oper) (ds : Nat → Nat) (m : Nat) : Bool := (List.range m).all fun i => match ops[i]? with
 | none => false
 | some o => o.dst == some (ds i) && ((o.after.all fun e => decide (e.on < i)) && (List.range m).all fun j => i == j || !(ds i == ds j))
def onlyB (ops : Array Oper) : Bool := (List.range ops.size).all fun i => match ops[i]? with
 | none => false
 | some o => o.after.all fun e => decide (e.on < i)
theorem onlyB_at (h : onlyB ops = true) {i : Nat} {o : Oper} (ho : ops[i]? = some o) : ∀ e ∈ o.after, e.on < i := by
 have hi := (Array.getElem?_eq_some_iff.1 ho).1
 have h1 := List.all_eq_true.1 h i (List.mem_range.2 hi)
 simp only [ho] at h1
 intro e he
 have := Array.all_eq_true_iff_forall_mem.1 h1 e he
 simpa using this
theorem headG_at {ds : Nat → Nat} {m : Nat} (h : headG ops ds m = true) {i : Nat} (hi : i < m) {o : Oper} (ho : ops[i]? = some o) : o.dst = some (ds i) ∧ ∀ j, j < m → j ≠ i → ds j ≠ ds i := by
 have h1 := List.all_eq_true.1 h i (List.mem_range.2 hi)
 simp only [ho, Bool.and_eq_true] at h1
 obtain ⟨h1, _, h4⟩ := h1
 refine ⟨by simpa using h1, fun j hj hne e => ?_⟩
 have h5 := List.all_eq_true.1 h4 j (List.mem_range.2 hj)
 rw [e] at h5
 simp at h5
 exact hne h5.symm
def Closed (md : Region.Mode) (ops : Array Oper) (listed : Array Bool) : Prop := ∀ k o, ops[k]? = some o → listed.getD k true = true → ∀ e ∈ o.after, Region.binds md e = true → listed.getD e.on true = true
theorem behind_all {j : Nat} (h : allBehind md ops j = true) {listed : Array Bool} (hC : Closed md ops listed) {o : Oper} (ho : ops[j]? = some o) (hr : ∀ e ∈ o.after, Region.binds md e = true → listed.getD e.on true = true) : ∀ i, i < j → listed.getD i true = true := by
 have key : ∀ d i, i + d = j → 0 < d → listed.getD i true = true := by
  intro d
  induction d using Nat.strongRecOn with
  | ind d ih =>
   intro i hd h0
   have h1 := List.all_eq_true.1 h i (List.mem_range.2 (by omega))
   obtain ⟨k, hk, h2⟩ := List.any_eq_true.1 h1
   have hk' := List.mem_range.1 hk
   simp only [Bool.and_eq_true, decide_eq_true_eq] at h2
   obtain ⟨hik, h3⟩ := h2
   cases hok : ops[k]? with
   | none => rw [hok] at h3; cases h3
   | some q =>
    rw [hok] at h3
    obtain ⟨x, hx, h4⟩ := Array.any_eq_true.1 h3
    simp only [Bool.and_eq_true, beq_iff_eq] at h4
    obtain ⟨hb, hon⟩ := h4
    by_cases e : k = j
    ·subst e
     rw [ho] at hok
     injection hok with hok
     subst hok
     have := hr _ (Array.getElem_mem hx) hb
     rw [hon] at this; exact this
    ·have hk2 := ih (j - k) (by omega) k (by omega) (by omega)
     have := hC k q hok hk2 _ (Array.getElem_mem hx) hb
     rw [hon] at this; exact this
 intro i hi
 exact key (j - i) i (by omega) (by omega)
theorem getD_set_self {listed : Array Bool} {i : Nat} (h : i < listed.size) : (listed.setIfInBounds i true).getD i true = true := by simp [h]
theorem getD_set_up {listed : Array Bool} {i n : Nat} (h : listed.getD n true = true) : (listed.setIfInBounds i true).getD n true = true := by
 by_cases e : i = n
 ·subst e
  by_cases h5 : i < listed.size
  ·simp [h5]
  ·simp [h5]
 ·rw [getD_set_ne true e]; exact h
theorem closed_set {listed : Array Bool} (hC : Closed md ops listed) {i : Nat} {o : Oper} (ho : ops[i]? = some o) (hr : ∀ e ∈ o.after, Region.binds md e = true → listed.getD e.on true = true) : Closed md ops (listed.setIfInBounds i true) := by
 intro k q hq hl e he hb
 by_cases ek : k = i
 ·subst ek
  rw [ho] at hq
  injection hq with hq
  subst hq
  exact getD_set_up (hr e he hb)
 ·rw [getD_set_ne true (Ne.symm ek)] at hl
  exact getD_set_up (hC k q hq hl e he hb)
theorem ready_getD {listed : Array Bool} (hB : onlyB ops = true) (hs : listed.size = ops.size) {i : Nat} {o : Oper} (ho : ops[i]? = some o) (hall : ∀ e ∈ o.after, Region.binds md e = true → listed.getD e.on false = true) : ∀ e ∈ o.after, Region.binds md e = true → listed.getD e.on true = true := by
 intro e he hb
 have h2 := hall e he hb
 have h3 := onlyB_at hB ho e he
 have h5 := (Array.getElem?_eq_some_iff.1 ho).1
 have h4 : e.on < listed.size := by omega
 simpa [h4] using h2

theorem wpAny_chain {Q : Exit → Act → World → Prop} {m : Nat} (hB : onlyB ops = true) (hT : tailG md ops m = true) : ∀ (fuel j : Nat) (listed : Array Bool) (a : Act) (w : World), m ≤ j → listed.size = ops.size → ops.size ≤ j + fuel → Closed md ops listed →
  (∀ i, i < j → listed.getD i true = true) → (∀ i, j ≤ i → i < ops.size → listed.getD i true = false) → wpList P ops Q (ops.toList.drop j) a w → wpAny P md ops Q fuel listed a w := by
 intro fuel
 induction fuel with
 | zero =>
  intro j listed a w hm hs hf hC h1 h2 h
  rw [List.drop_eq_nil_of_le (by simpa using hf)] at h
  refine ⟨?_, h⟩
  rw [List.eq_nil_iff_forall_not_mem]
  intro i hi
  obtain ⟨hl, o, ho, _⟩ := mem_ready.1 hi
  rw [h1 i (by have := (Array.getElem?_eq_some_iff.1 ho).1; omega)] at hl; cases hl
 | succ fuel ih =>
  intro j listed a w hm hs hf hC h1 h2 h
  refine ⟨fun h0 => ?_, fun i hi => ?_⟩
  ·by_cases hj : j < ops.size
   ·have ho : ops[j]? = some ops[j] := Array.getElem?_eq_getElem hj
    have : j ∈ Region.ready md ops listed := mem_ready.2 ⟨h2 j (Nat.le_refl _) hj, ops[j], ho, fun e he _ => by
     have h3 := onlyB_at hB ho e he
     have h4 := h1 e.on h3
     have h5 : e.on < listed.size := by omega
     simpa [h5] using h4⟩
    rw [h0] at this; cases this
   ·rw [List.drop_eq_nil_of_le (by simpa using hj)] at h
    exact h
  ·obtain ⟨hl, o, ho, hall⟩ := mem_ready.1 hi
   have hi' := (Array.getElem?_eq_some_iff.1 ho).1
   have hr := ready_getD (listed := listed) hB hs ho (fun e he hb => hall e he hb)
   have hji : j ≤ i := by
    rcases Nat.lt_or_ge i j with h5 | h5
    ·rw [h1 i h5] at hl; cases hl
    ·exact h5
   have hb := List.all_eq_true.1 hT i (List.mem_range.2 hi')
   simp only [Bool.or_eq_true, decide_eq_true_eq] at hb
   have hb : allBehind md ops i = true := hb.resolve_left (by omega)
   have hlt := behind_all hb hC ho hr
   obtain rfl : i = j := by
    rcases Nat.lt_or_eq_of_le hji with h5 | h5
    ·have := hlt j h5
     rw [h2 j (Nat.le_refl _) (by omega)] at this; cases this
    ·exact h5.symm
   have hd : ops.toList.drop i = o :: ops.toList.drop (i + 1) := by
    have hi2 : i < ops.toList.length := by simpa using hi'
    rw [List.drop_eq_getElem_cons hi2]
    congr 1
    have := (Array.getElem?_eq_some_iff.1 ho).2
    simpa using this
   rw [hd] at h
   have hK : ∀ (a' : Act) (w' : World), wpList P ops Q (ops.toList.drop (i + 1)) a' w' → wpAny P md ops Q fuel (listed.setIfInBounds i true) a' w' := fun a' w' h' =>
    ih (i + 1) _ a' w' (by omega) (by simpa using hs) (by omega) (closed_set hC ho hr) (fun k hk => by
     rcases Nat.lt_succ_iff_lt_or_eq.1 hk with h5 | rfl
     ·exact getD_set_up (h1 k h5)
     ·exact getD_set_self (by omega)) (fun k hk1 hk2 => by rw [getD_set_ne true (by omega)]; exact h2 k (by omega) hk2) h'
   unfold wpOp
   simp only [ho]
   unfold wpList at h
   split
   ·rename_i hw
    rw [if_pos hw] at h
    rcases h with h | h
    ·exact .inl (Oper.wp_mono hK h)
    ·exact .inr h
   ·rename_i hw
    rw [if_neg hw] at h
    exact hK _ _ h

theorem wpAny_tail {Q : Exit → Act → World → Prop} (ds : Nat → Nat) (m : Nat) (hm : m ≤ ops.size) (hO : onlyB ops = true) (hB : headG ops ds m = true) (hT : tailG md ops m = true) (S : Nat → Value → World → Prop) (hS : ∀ i v w w', S i v w → Keep NoB w w' → S i v w') (w0 : World) (a0 : Act) (hsz : fitsD ops ds a0.tmps.size = true)
  (hstep : ∀ i o (a : Act) (w : World), ops[i]? = some o → i < m → FrameD a0 ds m a → Keep NoB w0 w → (∀ e ∈ o.after, Region.binds md e = true → S e.on (a.tmps.getD (ds e.on) undef) w) → Does P ops o a w fun u w' => S i u w' ∧ Keep NoB w w')
  (hend : ∀ (a : Act) (w : World), FrameD a0 ds m a → Keep NoB w0 w → (∀ i, i < m → S i (a.tmps.getD (ds i) undef) w) → wpList P ops Q (ops.toList.drop m) a w) :
  ∀ (fuel : Nat) (listed : Array Bool) (a : Act) (w : World), listed.size = ops.size → (∃ L : List Nat, L.length + (ops.size - m) ≤ fuel ∧ ∀ i, i < m → listed.getD i true = false → i ∈ L) → Closed md ops listed → (∀ i, m ≤ i → i < ops.size → listed.getD i true = false) → FrameD a0 ds m a → Keep NoB w0 w →
   (∀ i, i < m → listed.getD i true = true → S i (a.tmps.getD (ds i) undef) w) → wpAny P md ops Q fuel listed a w := by
 intro fuel
 induction fuel with
 | zero =>
  intro listed a w hs ⟨L, hL, hin⟩ hC hN hF hK hA
  have hall : ∀ i, i < m → listed.getD i true = true := fun i hi => by
   cases h : listed.getD i true
   ·have := hin i hi h
    rw [List.length_eq_zero_iff.1 (by omega : L.length = 0)] at this; cases this
   ·rfl
  exact wpAny_chain hO hT 0 m listed a w (Nat.le_refl _) hs (by omega) hC hall hN (hend a w hF hK fun i hi => hA i hi (hall i hi))
 | succ fuel ih =>
  intro listed a w hs ⟨L, hL, hin⟩ hC hN hF hK hA
  by_cases hdone : ∀ i, i < m → listed.getD i true = true
  ·exact wpAny_chain hO hT (fuel + 1) m listed a w (Nat.le_refl _) hs (by omega) hC hdone hN (hend a w hF hK fun i hi => hA i hi (hdone i hi))
  refine ⟨fun h0 => ?_, fun i hi => ?_⟩
  ·refine absurd (fun i => ?_) hdone
   induction i using Nat.strongRecOn with
   | ind i ih2 =>
    intro hi
    cases hl : listed.getD i true
    ·have hio : i < ops.size := by omega
     have ho : ops[i]? = some ops[i] := Array.getElem?_eq_getElem hio
     have : i ∈ Region.ready md ops listed := mem_ready.2 ⟨hl, ops[i], ho, fun e he _ => by
      have h3 := onlyB_at hO ho e he
      have h4 := ih2 e.on h3 (by omega)
      have h5 : e.on < listed.size := by omega
      simpa [h5] using h4⟩
     rw [h0] at this; cases this
    ·rfl
  ·obtain ⟨h1, o, ho, hall⟩ := mem_ready.1 hi
   have hi' := (Array.getElem?_eq_some_iff.1 ho).1
   have hr := ready_getD (listed := listed) hO hs ho (fun e he hb => hall e he hb)
   have him : i < m := by
    rcases Nat.lt_or_ge i m with h5 | h5
    ·exact h5
    ·have hb := List.all_eq_true.1 hT i (List.mem_range.2 hi')
     simp only [Bool.or_eq_true, decide_eq_true_eq] at hb
     have hb : allBehind md ops i = true := hb.resolve_left (by omega)
     exact absurd (fun k hk => behind_all hb hC ho hr k (by omega)) hdone
   obtain ⟨hd, hdis⟩ := headG_at hB him ho
   have hdoes := hstep i o a w ho him hF hK fun e he hb => hA e.on (by have := onlyB_at hO ho e he; omega) (hr e he hb)
   have hnext : ∀ u w', S i u w' → Keep NoB w w' → wpAny P md ops Q fuel (listed.setIfInBounds i true) (a.put o.dst u) w' := by
    intro u w' hSu hk
    rw [hd]
    have hds : ds i < a.tmps.size := by rw [hF.2.1]; exact fitsD_at hsz ho hd
    have hget : ∀ s, (a.put (some (ds i)) u).tmps.getD s undef = if s = ds i then u else a.tmps.getD s undef := fun s => by
     unfold Act.put
     by_cases e : s = ds i
     ·subst e; simp [hds]
     ·rw [if_neg e]
      simp only [Array.getD_eq_getD_getElem?, Array.getElem?_setIfInBounds]
      rw [if_neg (fun h => e h.symm)]
    refine ih (listed.setIfInBounds i true) _ w' (by simpa using hs) ⟨L.erase i, ?_, fun k hk' hl => ?_⟩ (closed_set hC ho hr) (fun k hk1 hk2 => by rw [getD_set_ne true (by omega)]; exact hN k hk1 hk2) ⟨hF.1, by unfold Act.put; simpa using hF.2.1, fun s hs' => by rw [hget, if_neg (hs' i him)]; exact hF.2.2 s hs'⟩ (keepN hK hk) fun k hk' hl => ?_
    ·have hmem := hin i him h1
     have hpos := List.length_pos_of_mem hmem
     rw [List.length_erase_of_mem hmem]; omega
    ·have hki : k ≠ i := by
      rintro rfl
      rw [getD_set_self (by omega)] at hl; cases hl
     rw [getD_set_ne true (Ne.symm hki)] at hl
     exact (List.mem_erase_of_ne hki).2 (hin k hk' hl)
    ·by_cases e : k = i
     ·subst e
      rw [hget, if_pos rfl]; exact hSu
     ·rw [hget, if_neg (hdis k hk' e)]
      exact hS k _ _ _ (hA k hk' (by rw [getD_set_ne true (Ne.symm e)] at hl; exact hl)) hk
   unfold wpOp
   simp only [ho]
   rcases hdoes with ⟨hw, hy⟩ | ⟨hw, h2, h3⟩
   ·rw [if_pos hw]
    exact .inl (Oper.wp_of_yields hy fun u w' ⟨h2, h3⟩ => hnext u w' h2 h3)
   ·rw [if_neg (by rw [hw]; decide)]
    exact hnext undef w h2 h3
theorem wp_region_tail {id : Nat} {Q : Exit → Act → World → Prop} {a0 : Act} {w : World} (ds : Nat → Nat) (m : Nat) (hf : P.follows .mixedOrders = true) (hm : decide (m ≤ ops.size) = true) (hO : onlyB ops = true) (hB : headG ops ds m = true) (hT : tailG .any ops m = true) (S : Nat → Value → World → Prop) (hS : ∀ i v w1 w', S i v w1 → Keep NoB w1 w' → S i v w') (hsz : fitsD ops ds a0.tmps.size = true)
  (hstep : ∀ i o (a : Act) (w' : World), ops[i]? = some o → i < m → FrameD a0 ds m a → Keep NoB w w' → (∀ e ∈ o.after, Region.binds .any e = true → S e.on (a.tmps.getD (ds e.on) undef) w') → Does P ops o a w' fun u w'' => S i u w'' ∧ Keep NoB w' w'')
  (hend : ∀ (a : Act) (w' : World), FrameD a0 ds m a → Keep NoB w w' → (∀ i, i < m → S i (a.tmps.getD (ds i) undef) w') → wpList P ops Q (ops.toList.drop m) a w') : (Code.region id ops true).wp P Q a0 w :=
 have hm := of_decide_eq_true hm
 wp_region_any hf (wpAny_tail ds m hm hO hB hT S hS w a0 hsz hstep hend _ _ a0 w.drew (by simp) ⟨List.range m, by simp; omega, fun i hi _ => List.mem_range.2 hi⟩ (fun k o hk hl => by
  have := (Array.getElem?_eq_some_iff.1 hk).1
  simp [this] at hl) (fun i _ hi => by simp [hi]) ⟨rfl, rfl, fun _ _ => rfl⟩ (Keep.refl NoB w).drew fun i hi hl => by
  have : i < ops.size := by omega
  simp [this] at hl)
end
end Go.Proofs.YtgnooffedmeenaaGreatDoor

namespace Go.Proofs.YtgnooffedmeenaaGreatDoor.M
open Go.RowKit W I

/-! ### How long it is -/

/-! ### The walk -/

end Go.Proofs.YtgnooffedmeenaaGreatDoor.M

namespace Go.Proofs.YtgnooffedmeenaaGreatDoor.M
open Go.RowKit W I

/-! ### What is written -/

end Go.Proofs.YtgnooffedmeenaaGreatDoor.M

namespace Go.Proofs.YtgnooffedmeenaaGreatDoor.M
open Go.RowKit W I

theorem itoa_any (n : Int) (w : World) (h0 : -9223372036854775808 ≤ n) (h1 : n ≤ 9223372036854775807) (h : W.Laid w) :
  Calls Tryz.prog 92 #[.int .i64 n] w fun e w' => e = .returned (.string (str (Lib.itoa n))) ∧ Keep NoB w w' := by
 refine (Tryz.strconv_Itoa n h0 h1 w h.pow).mono ?_
 rintro e w' ⟨rfl, k, os, rfl⟩
 exact ⟨rfl, Keep.of_below (Go.Lib.below_grow _ w (Nat.le_refl _) k os)⟩
end Go.Proofs.YtgnooffedmeenaaGreatDoor.M

namespace Go.Proofs.YtgnooffedmeenaaGreatDoor.M.L
open Go.RowKit W

theorem str_app (a b : Bs) : str a ++ str b = str (a ++ b) := by
 apply ByteArray.ext
 simp [ByteArray.data_append]
theorem lit_app (a : Array UInt8) (b : Bs) : (⟨a⟩ : ByteArray) ++ str b = str (a.toList ++ b) := by
 apply ByteArray.ext
 simp [ByteArray.data_append]
theorem app_lit (a : Bs) (b : Array UInt8) : str a ++ (⟨b⟩ : ByteArray) = str (a ++ b.toList) := by
 apply ByteArray.ext
 simp [ByteArray.data_append]
theorem str_size (a : Bs) : (str a).size = a.length := size_of (by simp)

set_option maxHeartbeats 1000000 in
theorem label_any (n : Nat) (w : World) (hn : n ≤ 100000) (h : W.Laid w) :
  Calls Tryz.prog 79 #[.int .i64 (n : Int)] w fun e w' => e = .returned (.string (str (lbl ((n : Nat) : Int)))) ∧ Keep NoB w w' := by
 have HI := Lib.hid (fun W (hk : Keep NoB w W) => itoa_any (n : Int) W (by omega) (by omega) (h.keep hk))
 have hl := Lib.itoa_length_le (n : Int) (by omega) (by omega)
 have hz := str_size (Lib.itoa (n : Int))
 have HX : Hid ((⟨#[76]⟩ : ByteArray) ++ str (Lib.itoa (n : Int)) = str (lbl ((n : Nat) : Int))) := lit_app #[76] _
 clear h
 rw [← HX.out]
 generalize str (Lib.itoa (n : Int)) = S at *
 have hb : S.size ≤ 21 := by omega
 clear hl hz
 go_enter Tryz.func79, Tryz.ntmps79
 go_wp2_with (go_at_call 92; refine (HI.out _ (Keep.refl _ _)).mono ?_; rintro e w1 ⟨rfl, k1⟩)
 go_ret
 exact ⟨rfl, k1⟩
theorem plain1_any (k op a b : Int) (w : World) : Calls Tryz.prog 89 #[.int .i64 k, O.instV op a b] w fun e w' => e = .returned (.tuple #[.string ⟨#[]⟩, .bool false]) ∧ Keep NoB w w' := by
 go_enter Tryz.func89, Tryz.ntmps89
 go_wp2
 go_ret2
 exact ⟨rfl, (Keep.refl NoB w).alloc _⟩
theorem plain2_any (k : Int) (w : World) : Calls Tryz.prog 90 #[.int .i64 k] w fun e w' => e = .returned (.string ⟨#[]⟩) ∧ Keep NoB w w' := by
 go_enter Tryz.func90, Tryz.ntmps90
 go_wp2
 go_ret
 exact ⟨rfl, Keep.refl NoB w⟩
set_option maxHeartbeats 1000000 in
theorem numbered1_any (n : Nat) (w : World) (hn : n ≤ 100000) (h : W.Laid w) :
  Calls Tryz.prog 91 #[.int .i64 (n : Int)] w fun e w' => e = .returned (.string (str (noteB n))) ∧ Keep NoB w w' := by
 have HI := Lib.hid (fun W (hk : Keep NoB w W) => itoa_any (n : Int) W (by omega) (by omega) (h.keep hk))
 have hl := Lib.itoa_length_le (n : Int) (by omega) (by omega)
 have hz := str_size (Lib.itoa (n : Int))
 have HX : Hid ((⟨#[32, 59, 32]⟩ : ByteArray) ++ str (Lib.itoa (n : Int)) = str (noteB n)) := lit_app #[32, 59, 32] _
 clear h
 rw [← HX.out]
 generalize str (Lib.itoa (n : Int)) = S at *
 have hb : S.size ≤ 21 := by omega
 clear hl hz
 go_enter Tryz.func91, Tryz.ntmps91
 go_wp2_with (go_at_call 92; refine (HI.out _ (Keep.refl _ _)).mono ?_; rintro e w1 ⟨rfl, k1⟩)
 go_ret
 exact ⟨rfl, k1⟩

end Go.Proofs.YtgnooffedmeenaaGreatDoor.M.L

namespace Go.Proofs.YtgnooffedmeenaaGreatDoor.I
open Go.RowKit W

set_option maxRecDepth 100000 in
set_option maxHeartbeats 4000000 in
theorem indexS_any (A : Option Addr) (es : List SE) (n c k b : Nat) (w : World) (hcf : ∀ args w, (callFunc k args).run Tryz.prog w = .ok (.enter k args) w) (hr : Hid (∀ W, Keep NoB w W → Rd W A (svs es))) (hn : Hid (es.length = n)) (hm : n ≤ 1000) (bs : Nat → Bool)
  (hq : Hid (∀ i (h : i < es.length) W, Keep NoB w W → Calls Tryz.prog k #[es[i].1.val, .pointer (some ⟨b, 0, none⟩)] W fun e W' => e = .returned (.bool (bs i)) ∧ Keep NoB W W')) :
  Calls Tryz.prog 173 #[.slice A n c, .func (.func k) #[] #[.pointer (some ⟨b, 0, none⟩)]] w fun e w' => ∃ R : Int, e = .returned (.int .i64 R) ∧ ((0 ≤ R ∧ ∃ i, i < n ∧ bs i = true) ∨ (R = -1 ∧ ∀ i, i < n → bs i = false)) ∧ Keep NoB w w' := by
 go_enter Tryz.func173, Tryz.ntmps173
 go_wp2
 go_loopw [8] (fun i wr => ∃ j : Nat, j ≤ n ∧ i = .int .i64 j ∧ Hid (∀ t, t < j → bs t = false) ∧ Keep NoB w wr) (fun i _ => n - (intOf i).toNat)
 case atStart => exact ⟨0, Nat.zero_le _, rfl, fun t h => absurd h (by omega), Keep.refl _ _⟩
 case round =>
  obtain ⟨j, hj, rfl, hB, hK⟩ := hrel
  by_cases hlt : j < n
  ·have hje : j < es.length := by rw [hn.out]; exact hlt
   obtain ⟨g, off, rfl, c0⟩ := shape_at (hr.out _ hK) hje
   have HQ := Lib.hid (hq.out j hje _ hK)
   generalize es[j] = e at c0 HQ
   obtain ⟨⟨A1, n1, d1⟩, l⟩ := e
   dsimp only [SV.val] at c0 HQ
   obtain ⟨bj, hbj⟩ : ∃ x, bs j = x := ⟨_, rfl⟩
   rw [hbj] at HQ
   have HBJ := Lib.hid hbj
   clear hbj
   go_wp2_with fail
   refine HQ.out.mono ?_
   rintro e w1 ⟨rfl, k1⟩
   replace hK := keepN hK k1
   cases bj
   ·go_wp2
    go_roundw
    case rel => exact ⟨j + 1, by omega, by go_num, fun t ht => (by
     rcases Nat.lt_succ_iff_lt_or_eq.1 ht with h | rfl
     ·exact hB.out t h
     ·exact HBJ.out), hK⟩
    case measure => simp [intOf]; omega
   ·go_wp2
    go_ret
    exact ⟨_, rfl, .inl ⟨by omega, j, hlt, HBJ.out⟩, hK⟩
  ·obtain rfl : j = n := by omega
   go_wp2
   go_ret
   exact ⟨_, rfl, .inr ⟨rfl, hB.out⟩, hK⟩

set_option maxRecDepth 100000 in
set_option maxHeartbeats 2000000 in
theorem containsS_any (A : Option Addr) (es : List SE) (n c k b : Nat) (w : World) (hcf : ∀ args w, (callFunc k args).run Tryz.prog w = .ok (.enter k args) w) (hr : Hid (∀ W, Keep NoB w W → Rd W A (svs es))) (hn : Hid (es.length = n)) (hm : n ≤ 1000) (bs : Nat → Bool)
  (hq : Hid (∀ i (h : i < es.length) W, Keep NoB w W → Calls Tryz.prog k #[es[i].1.val, .pointer (some ⟨b, 0, none⟩)] W fun e W' => e = .returned (.bool (bs i)) ∧ Keep NoB W W'))
  (B : Bool) (h1 : Hid ((∃ i, i < n ∧ bs i = true) → B = true)) (h0 : Hid ((∀ i, i < n → bs i = false) → B = false)) :
  Calls Tryz.prog 115 #[.slice A n c, .func (.func k) #[] #[.pointer (some ⟨b, 0, none⟩)]] w fun e w' => e = .returned (.bool B) ∧ Keep NoB w w' := by
 have HI := Lib.hid (indexS_any A es n c k b w hcf hr hn hm bs hq)
 clear hq hr hcf
 go_enter Tryz.func115, Tryz.ntmps115
 go_wp2_with fail
 refine HI.out.mono ?_
 rintro e w1 ⟨R, rfl, hR, k1⟩
 rcases hR with ⟨h2, h3⟩ | ⟨rfl, h3⟩
 ·obtain rfl : B = true := h1.out h3
  have hd : decide ((0 : Int) ≤ R) = true := decide_eq_true h2
  clear h3 h1 h0
  go_wp2
  go_ret
  exact ⟨rfl, k1⟩
 ·obtain rfl : B = false := h0.out h3
  clear h3 h1 h0
  go_wp2
  go_ret
  exact ⟨rfl, k1⟩

set_option maxRecDepth 100000 in
set_option maxHeartbeats 2000000 in
theorem asksS_any (k : Nat) (hcf : ∀ args w, (callFunc k args).run Tryz.prog w = .ok (.enter k args) w) (v : SV) (b : Nat) (w : World) (u0 u1 u3 u4 u5 : Value) (hb : Blk w b 100 #[u0, u1, F.fnV k, u3, u4, u5]) (R : Int) (B : Bool) (hB : (R != 0) = B)
  (HG : Hid (∀ W, Keep NoB w W → Calls Tryz.prog k #[v.val] W fun e w' => e = .returned (.int .i64 R) ∧ Keep NoB W w')) :
  Calls Tryz.prog 116 #[v.val, .pointer (some ⟨b, 0, none⟩)] w fun e w' => e = .returned (.bool B) ∧ Keep NoB w w' := by
 have c2 := hb.cell 2
 unfold F.fnV at c2
 simp only [List.getElem?_toArray, List.getElem?_cons_zero, List.getElem?_cons_succ] at c2
 clear hb
 dsimp only [SV.val] at HG ⊢
 go_enter Tryz.func116, Tryz.ntmps116
 go_wp2_with fail
 refine (HG.out _ (Keep.refl _ _)).mono ?_
 rintro e w1 ⟨rfl, k1⟩
 go_wp2
 go_ret
 exact ⟨rfl, k1⟩

def partS : Value := .agg #[.int .i64 0, .int .i64 64, F.fnV 117, F.fnV 118, F.fnV 119, F.fnV 120]
theorem partS_size : (Tryz.prog.info? 100).map (·.size) = some 6 := by kernel_rfl
set_option maxRecDepth 100000 in
set_option maxHeartbeats 2000000 in
theorem partsS_any (w : World) : Calls Tryz.prog 55 #[] w fun e w' => e = .returned partS ∧ Keep NoB w w' := by
 have bz := Blk.new w 100 #[.int .i64 0, .int .i64 64, F.fnV 117, F.fnV 118, F.fnV 119, F.fnV 120]
 have k0 := (Keep.refl NoB w).alloc (.cells #[.int .i64 0, .int .i64 64, F.fnV 117, F.fnV 118, F.fnV 119, F.fnV 120] 100)
 have HB := Lib.hid bz
 have HK := Lib.hid k0
 unfold partS F.fnV at *
 clear bz k0
 go_enter Tryz.func55, Tryz.ntmps55
 go_wp2
 refine bodyPost_ret (results_cell_row rfl _ _ w.heap.size 100 _ (0, 0) _ rfl HB.out Tryz.underlying100 rfl partS_size) rfl ?_
 exact ⟨rfl, HK.out⟩

def mayS (l : List SE) : Bool := decide (0 ≤ l.length ∧ l.length ≤ 64) && l.all fun e => S.okS e.2
set_option maxRecDepth 100000 in
set_option maxHeartbeats 4000000 in
theorem mayS_any (A : Option Addr) (es : List SE) (n c : Nat) (w : World) (hr : Hid (∀ W, Keep NoB w W → Rd W A (svs es))) (hn : Hid (es.length = n)) (hm : n ≤ 9223372036854775807) (he : Hid (∀ e ∈ es, ∀ W, Keep NoB w W → Calls Tryz.prog 117 #[e.1.val] W fun r W' => r = .returned (.int .i64 (S.chkS e.2)) ∧ Keep NoB W W')) :
  Calls Tryz.prog 54 #[.slice A n c, partS] w fun r w' => r = .returned (.bool (mayS es)) ∧ Keep NoB w w' := by
 have bz := Blk.new w 100 #[.int .i64 0, .int .i64 64, F.fnV 117, F.fnV 118, F.fnV 119, F.fnV 120]
 have k0 := (Keep.refl NoB w).alloc (.cells #[.int .i64 0, .int .i64 64, F.fnV 117, F.fnV 118, F.fnV 119, F.fnV 120] 100)
 have hmf : ∀ (fn : Go.Fn) (first cap : Array Value) (w : World), (Instr.makeFunc fn first cap).run Tryz.prog w = .ok (.func fn first cap) w := fun _ _ _ _ => rfl
 have q0 := bz.cell 0
 have q1 := bz.cell 1
 simp only [List.getElem?_toArray, List.getElem?_cons_zero, List.getElem?_cons_succ] at q0 q1
 have HZ := Lib.hid bz
 obtain ⟨M, hM⟩ : ∃ M, mayS es = M := ⟨_, rfl⟩
 rw [hM]
 have HM := Lib.hid hM
 clear hM bz
 unfold partS F.fnV at *
 by_cases h64 : n ≤ 64
 ·have HC := Lib.hid (fun W (hk : Keep NoB (w.alloc (.cells #[.int .i64 0, .int .i64 64, F.fnV 117, F.fnV 118, F.fnV 119, F.fnV 120] 100)) W) => containsS_any A es n c 116 w.heap.size W (enters_of Tryz.func116 (by kernel_rfl) rfl) (fun W' hk' => hr.out W' (keepN (keepN k0 hk) hk')) hn (by omega) (fun i => (es[i]?.map fun e => (S.chkS e.2 != 0)).getD false)
   (fun i h W' hk' => asksS_any 117 (enters_of Tryz.func117 (by kernel_rfl) rfl) es[i].1 w.heap.size W' _ _ _ _ _ (HZ.out.keep (keepN hk hk') id) (S.chkS es[i].2) _ (by simp [h]) (fun W2 hk2 => he.out _ (List.getElem_mem h) W2 (keepN (keepN (keepN k0 hk) hk') hk2)))
   (!(es.all fun e => S.okS e.2))
   (by
    rintro ⟨i, hi, hb⟩
    have hi2 : i < es.length := by rw [hn.out]; exact hi
    simp only [List.getElem?_eq_getElem hi2, Option.map_some, Option.getD_some] at hb
    rw [Bool.not_eq_true', ← Bool.not_eq_true]
    intro hall
    have := List.all_eq_true.1 hall _ (List.getElem_mem hi2)
    rw [S.chkS_ok this] at hb
    exact absurd hb (by decide))
   (by
    intro hb
    rw [Bool.not_eq_false']
    refine List.all_eq_true.2 fun e hm => ?_
    obtain ⟨i, hi, rfl⟩ := List.getElem_of_mem hm
    have := hb i (by rw [← hn.out]; exact hi)
    simp only [List.getElem?_eq_getElem hi, Option.map_some, Option.getD_some] at this
    cases ho : S.okS es[i].2
    ·rw [S.chkS_no ho] at this; exact absurd this (by decide)
    ·rfl))
  unfold F.fnV at HC
  obtain ⟨al, hal⟩ : ∃ al, (es.all fun e => S.okS e.2) = al := ⟨_, rfl⟩
  rw [hal] at HC
  have HV : Hid (al = M) := by
   show _ = _
   rw [← HM.out, ← hal]; unfold mayS; rw [hn.out, decide_eq_true (by omega : 0 ≤ n ∧ n ≤ 64)]; rfl
  clear hal HM he hr HZ
  go_enter Tryz.func54, Tryz.ntmps54
  go_wp2_with fail
  refine (HC.out _ (Keep.refl _ _)).mono ?_
  rintro e w1 ⟨rfl, k1⟩
  go_wp2
  go_ret
  exact ⟨by rw [← HV.out]; cases al <;> rfl, keepN k0 k1⟩
 ·have hd : decide ((n : Int) ≤ 64) = false := by rw [decide_eq_false_iff_not]; omega
  obtain rfl : false = M := by
   rw [← HM.out]; unfold mayS; rw [hn.out, decide_eq_false (by omega : ¬ (0 ≤ n ∧ n ≤ 64))]; rfl
  clear HM he hr HZ
  go_enter Tryz.func54, Tryz.ntmps54
  go_wp2
  go_ret
  exact ⟨rfl, k0⟩

set_option maxRecDepth 100000 in
set_option maxHeartbeats 4000000 in
theorem indexF_any (A : Option Addr) (fs : List FE) (n c k b : Nat) (w : World) (hcf : ∀ args w, (callFunc k args).run Tryz.prog w = .ok (.enter k args) w) (hr : Hid (∀ W, Keep NoB w W → Rd W A (fvs fs))) (hn : Hid (fs.length = n)) (hm : n ≤ 1000) (bs : Nat → Bool)
  (hq : Hid (∀ i (h : i < fs.length) W, Keep NoB w W → Calls Tryz.prog k #[fs[i].1.val, .pointer (some ⟨b, 0, none⟩)] W fun e W' => e = .returned (.bool (bs i)) ∧ Keep NoB W W')) :
  Calls Tryz.prog 178 #[.slice A n c, .func (.func k) #[] #[.pointer (some ⟨b, 0, none⟩)]] w fun e w' => ∃ R : Int, e = .returned (.int .i64 R) ∧ ((0 ≤ R ∧ ∃ i, i < n ∧ bs i = true) ∨ (R = -1 ∧ ∀ i, i < n → bs i = false)) ∧ Keep NoB w w' := by
 go_enter Tryz.func178, Tryz.ntmps178
 go_wp2
 go_loopw [8] (fun i wr => ∃ j : Nat, j ≤ n ∧ i = .int .i64 j ∧ Hid (∀ t, t < j → bs t = false) ∧ Keep NoB w wr) (fun i _ => n - (intOf i).toNat)
 case atStart => exact ⟨0, Nat.zero_le _, rfl, fun t h => absurd h (by omega), Keep.refl _ _⟩
 case round =>
  obtain ⟨j, hj, rfl, hB, hK⟩ := hrel
  by_cases hlt : j < n
  ·have hje : j < fs.length := by rw [hn.out]; exact hlt
   obtain ⟨g, off, rfl, c0, c1, c2, c3, c4⟩ := fun_at (hr.out _ hK) hje
   have HQ := Lib.hid (hq.out j hje _ hK)
   generalize fs[j] = e at c0 c1 c2 c3 c4 HQ
   obtain ⟨⟨S1, A1, na1, ca1, B1, nb1, cb1, L1, nl1, cl1, D1, nd1, cd1⟩, l⟩ := e
   dsimp only [F.FV.val, F.FV.cells] at c0 c1 c2 c3 c4 HQ
   obtain ⟨bj, hbj⟩ : ∃ x, bs j = x := ⟨_, rfl⟩
   rw [hbj] at HQ
   have HBJ := Lib.hid hbj
   clear hbj
   go_wp2_with fail
   refine HQ.out.mono ?_
   rintro e w1 ⟨rfl, k1⟩
   replace hK := keepN hK k1
   cases bj
   ·go_wp2
    go_roundw
    case rel => exact ⟨j + 1, by omega, by go_num, fun t ht => (by
     rcases Nat.lt_succ_iff_lt_or_eq.1 ht with h | rfl
     ·exact hB.out t h
     ·exact HBJ.out), hK⟩
    case measure => simp [intOf]; omega
   ·go_wp2
    go_ret
    exact ⟨_, rfl, .inl ⟨by omega, j, hlt, HBJ.out⟩, hK⟩
  ·obtain rfl : j = n := by omega
   go_wp2
   go_ret
   exact ⟨_, rfl, .inr ⟨rfl, hB.out⟩, hK⟩

set_option maxRecDepth 100000 in
set_option maxHeartbeats 2000000 in
theorem containsF_any (A : Option Addr) (fs : List FE) (n c k b : Nat) (w : World) (hcf : ∀ args w, (callFunc k args).run Tryz.prog w = .ok (.enter k args) w) (hr : Hid (∀ W, Keep NoB w W → Rd W A (fvs fs))) (hn : Hid (fs.length = n)) (hm : n ≤ 1000) (bs : Nat → Bool)
  (hq : Hid (∀ i (h : i < fs.length) W, Keep NoB w W → Calls Tryz.prog k #[fs[i].1.val, .pointer (some ⟨b, 0, none⟩)] W fun e W' => e = .returned (.bool (bs i)) ∧ Keep NoB W W'))
  (B : Bool) (h1 : Hid ((∃ i, i < n ∧ bs i = true) → B = true)) (h0 : Hid ((∀ i, i < n → bs i = false) → B = false)) :
  Calls Tryz.prog 121 #[.slice A n c, .func (.func k) #[] #[.pointer (some ⟨b, 0, none⟩)]] w fun e w' => e = .returned (.bool B) ∧ Keep NoB w w' := by
 have HI := Lib.hid (indexF_any A fs n c k b w hcf hr hn hm bs hq)
 clear hq hr hcf
 go_enter Tryz.func121, Tryz.ntmps121
 go_wp2_with fail
 refine HI.out.mono ?_
 rintro e w1 ⟨R, rfl, hR, k1⟩
 rcases hR with ⟨h2, h3⟩ | ⟨rfl, h3⟩
 ·obtain rfl : B = true := h1.out h3
  have hd : decide ((0 : Int) ≤ R) = true := decide_eq_true h2
  clear h3 h1 h0
  go_wp2
  go_ret
  exact ⟨rfl, k1⟩
 ·obtain rfl : B = false := h0.out h3
  clear h3 h1 h0
  go_wp2
  go_ret
  exact ⟨rfl, k1⟩

set_option maxRecDepth 100000 in
set_option maxHeartbeats 2000000 in
theorem asksF_any (k : Nat) (hcf : ∀ args w, (callFunc k args).run Tryz.prog w = .ok (.enter k args) w) (v : F.FV) (b : Nat) (w : World) (u0 u1 u3 u4 u5 : Value) (hb : Blk w b 106 #[u0, u1, F.fnV k, u3, u4, u5]) (R : Int) (B : Bool) (hB : (R != 0) = B)
  (HG : Hid (∀ W, Keep NoB w W → Calls Tryz.prog k #[v.val] W fun e w' => e = .returned (.int .i64 R) ∧ Keep NoB W w')) :
  Calls Tryz.prog 122 #[v.val, .pointer (some ⟨b, 0, none⟩)] w fun e w' => e = .returned (.bool B) ∧ Keep NoB w w' := by
 have k0 := (Keep.refl NoB w).alloc (.cells v.cells 37)
 have bx := Blk.new w 37 v.cells
 replace hb := hb.alloc (.cells v.cells 37)
 have c2 := hb.cell 2
 unfold F.fnV at c2
 simp only [List.getElem?_toArray, List.getElem?_cons_zero, List.getElem?_cons_succ] at c2
 clear hb
 obtain ⟨S1, A1, na1, ca1, B1, nb1, cb1, L1, nl1, cl1, D1, nd1, cd1⟩ := v
 obtain ⟨q0, q1, q2, q3, q4⟩ := F.blk5 bx
 dsimp only [F.FV.val, F.FV.cells] at HG k0 q0 q1 q2 q3 q4 c2 bx ⊢
 clear bx
 go_enter Tryz.func122, Tryz.ntmps122
 go_wp2_with fail
 refine (HG.out _ k0).mono ?_
 rintro e w1 ⟨rfl, k1⟩
 go_wp2
 go_ret
 exact ⟨rfl, keepN k0 k1⟩

def partF : Value := .agg #[.int .i64 1, .int .i64 64, F.fnV 47, F.fnV 123, F.fnV 124, F.fnV 125]
theorem partF_size : (Tryz.prog.info? 106).map (·.size) = some 6 := by kernel_rfl
set_option maxRecDepth 100000 in
set_option maxHeartbeats 2000000 in
theorem partsF_any (w : World) : Calls Tryz.prog 57 #[] w fun e w' => e = .returned partF ∧ Keep NoB w w' := by
 have bz := Blk.new w 106 #[.int .i64 1, .int .i64 64, F.fnV 47, F.fnV 123, F.fnV 124, F.fnV 125]
 have k0 := (Keep.refl NoB w).alloc (.cells #[.int .i64 1, .int .i64 64, F.fnV 47, F.fnV 123, F.fnV 124, F.fnV 125] 106)
 have HB := Lib.hid bz
 have HK := Lib.hid k0
 unfold partF F.fnV at *
 clear bz k0
 go_enter Tryz.func57, Tryz.ntmps57
 go_wp2
 refine bodyPost_ret (results_cell_row rfl _ _ w.heap.size 106 _ (0, 0) _ rfl HB.out Tryz.underlying106 rfl partF_size) rfl ?_
 exact ⟨rfl, HK.out⟩

def mayF (l : List FE) : Bool := decide (1 ≤ l.length ∧ l.length ≤ 64) && l.all fun e => F.okF e.2
set_option maxRecDepth 100000 in
set_option maxHeartbeats 4000000 in
theorem mayF_any (A : Option Addr) (fs : List FE) (n c : Nat) (w : World) (hr : Hid (∀ W, Keep NoB w W → Rd W A (fvs fs))) (hn : Hid (fs.length = n)) (hm : n ≤ 9223372036854775807) (he : Hid (∀ e ∈ fs, ∀ W, Keep NoB w W → Calls Tryz.prog 47 #[e.1.val] W fun r W' => r = .returned (.int .i64 (F.chkF e.2)) ∧ Keep NoB W W')) :
  Calls Tryz.prog 56 #[.slice A n c, partF] w fun r w' => r = .returned (.bool (mayF fs)) ∧ Keep NoB w w' := by
 have bz := Blk.new w 106 #[.int .i64 1, .int .i64 64, F.fnV 47, F.fnV 123, F.fnV 124, F.fnV 125]
 have k0 := (Keep.refl NoB w).alloc (.cells #[.int .i64 1, .int .i64 64, F.fnV 47, F.fnV 123, F.fnV 124, F.fnV 125] 106)
 have hmf : ∀ (fn : Go.Fn) (first cap : Array Value) (w : World), (Instr.makeFunc fn first cap).run Tryz.prog w = .ok (.func fn first cap) w := fun _ _ _ _ => rfl
 have q0 := bz.cell 0
 have q1 := bz.cell 1
 simp only [List.getElem?_toArray, List.getElem?_cons_zero, List.getElem?_cons_succ] at q0 q1
 have HZ := Lib.hid bz
 obtain ⟨M, hM⟩ : ∃ M, mayF fs = M := ⟨_, rfl⟩
 rw [hM]
 have HM := Lib.hid hM
 clear hM bz
 unfold partF F.fnV at *
 by_cases hz : n = 0
 ·subst hz
  obtain rfl : false = M := by
   rw [← HM.out]; unfold mayF; rw [hn.out]; rfl
  clear HM he hr HZ
  go_enter Tryz.func56, Tryz.ntmps56
  go_wp2
  go_ret
  exact ⟨rfl, k0⟩
 have hd1 : decide ((1 : Int) ≤ (n : Int)) = true := by rw [decide_eq_true_iff]; omega
 by_cases h64 : n ≤ 64
 ·have HC := Lib.hid (fun W (hk : Keep NoB (w.alloc (.cells #[.int .i64 1, .int .i64 64, F.fnV 47, F.fnV 123, F.fnV 124, F.fnV 125] 106)) W) => containsF_any A fs n c 122 w.heap.size W (enters_of Tryz.func122 (by kernel_rfl) rfl) (fun W' hk' => hr.out W' (keepN (keepN k0 hk) hk')) hn (by omega) (fun i => (fs[i]?.map fun e => (F.chkF e.2 != 0)).getD false)
   (fun i h W' hk' => asksF_any 47 (enters_of Tryz.func47 (by kernel_rfl) rfl) fs[i].1 w.heap.size W' _ _ _ _ _ (HZ.out.keep (keepN hk hk') id) (F.chkF fs[i].2) _ (by simp [h]) (fun W2 hk2 => he.out _ (List.getElem_mem h) W2 (keepN (keepN (keepN k0 hk) hk') hk2)))
   (!(fs.all fun e => F.okF e.2))
   (by
    rintro ⟨i, hi, hb⟩
    have hi2 : i < fs.length := by rw [hn.out]; exact hi
    simp only [List.getElem?_eq_getElem hi2, Option.map_some, Option.getD_some] at hb
    rw [Bool.not_eq_true', ← Bool.not_eq_true]
    intro hall
    have := List.all_eq_true.1 hall _ (List.getElem_mem hi2)
    rw [F.chkF_ok this] at hb
    exact absurd hb (by decide))
   (by
    intro hb
    rw [Bool.not_eq_false']
    refine List.all_eq_true.2 fun e hm => ?_
    obtain ⟨i, hi, rfl⟩ := List.getElem_of_mem hm
    have := hb i (by rw [← hn.out]; exact hi)
    simp only [List.getElem?_eq_getElem hi, Option.map_some, Option.getD_some] at this
    cases ho : F.okF fs[i].2
    ·rw [F.chkF_no ho] at this; exact absurd this (by decide)
    ·rfl))
  unfold F.fnV at HC
  obtain ⟨al, hal⟩ : ∃ al, (fs.all fun e => F.okF e.2) = al := ⟨_, rfl⟩
  rw [hal] at HC
  have HV : Hid (al = M) := by
   show _ = _
   rw [← HM.out, ← hal]; unfold mayF; rw [hn.out, decide_eq_true (by omega : 1 ≤ n ∧ n ≤ 64)]; rfl
  clear hal HM he hr HZ
  go_enter Tryz.func56, Tryz.ntmps56
  go_wp2_with fail
  refine (HC.out _ (Keep.refl _ _)).mono ?_
  rintro e w1 ⟨rfl, k1⟩
  go_wp2
  go_ret
  exact ⟨by rw [← HV.out]; cases al <;> rfl, keepN k0 k1⟩
 ·have hd : decide ((n : Int) ≤ 64) = false := by rw [decide_eq_false_iff_not]; omega
  obtain rfl : false = M := by
   rw [← HM.out]; unfold mayF; rw [hn.out, decide_eq_false (by omega : ¬ (1 ≤ n ∧ n ≤ 64))]; rfl
  clear HM he hr HZ
  go_enter Tryz.func56, Tryz.ntmps56
  go_wp2
  go_ret
  exact ⟨rfl, k0⟩

end Go.Proofs.YtgnooffedmeenaaGreatDoor.I

namespace Go.Proofs.YtgnooffedmeenaaGreatDoor.I
open Go.RowKit Go.Shelf W
attribute [local go_sem] Oper.semAt_some

def fnI (fs : List FE) (x : Nat) : FE := fs[x]?.getD (F.nilV, F.nilF)
theorem fnI_at {fs : List FE} {x : Nat} (h : x < fs.length) : fnI fs x = fs[x] := by unfold fnI; rw [List.getElem?_eq_getElem h]; rfl
abbrev eaA (fs : List FE) (x : Nat) : Array Value := #[.int .i64 (x : Int), (fnI fs x).1.val]
def FsK (Y : Option Addr) (fs : List FE) (W W' : World) : Prop := Rd W Y (fvs fs) → Rd W' Y (fvs fs)
theorem FsK.trans {Y : Option Addr} {fs : List FE} {A B C : World} (h : FsK Y fs A B) (h' : FsK Y fs B C) : FsK Y fs A C := fun hr => h' (h hr)
theorem rd_putObj {A : Option Addr} {xs : List Value} (W : World) (l : Nat) (o o' : Obj) (hl : W.heap[l]? = some o) (ho : o.isCells = false) (hr : Rd W A xs) : Rd (W.putObj l o') A xs := fun h0 => by
 obtain ⟨g, off, e, hc⟩ := hr h0
 refine ⟨g, off, e, fun j u hu => ?_⟩
 have h1 := hc j u hu
 have hne : g ≠ l := by
  intro e2
  unfold World.cell? at h1
  dsimp only at h1
  rw [e2, hl] at h1
  cases o with
  | cells cs t f => cases ho
  | _ => simp at h1
 exact (World.cell?_of_block (World.putObj_heap_other (show (⟨g, off + j, none⟩ : Addr).block ≠ l from hne))).trans h1
theorem FsK.putObj {Y : Option Addr} {fs : List FE} (W : World) (l : Nat) (o o' : Obj) (hl : W.heap[l]? = some o) (ho : o.isCells = false) : FsK Y fs W (W.putObj l o') := fun h => rd_putObj W l o o' hl ho h
set_option maxRecDepth 100000 in
set_option maxHeartbeats 4000000 in
theorem each1_in (m l : Nat) (hm : 1 ≤ m) (b : Nat) (v : IV) (fs : List FE) (hl : fs.length = v.ny) (hn : v.ny ≤ 1000) (J Jx : List Nat → World → Prop) (hJk : ∀ pre W W', J pre W → Keep NoB W W' → J pre W')
  (hY : ∀ pre x W, J pre W → pre.length < v.ny → YieldAt Fence.wide (m - 1) Tryz.prog l (eaA fs x) W fun e W' =>
   (e = .returned (.bool true) ∧ J (pre ++ [x]) W' ∧ FsK v.Y fs W W') ∨ (e = .returned (.bool false) ∧ Jx (pre ++ [x]) W'))
  (W : World) (hx : Blk W b 25 v.cells) (hr : Rd W v.Y (fvs fs)) (h0 : J [] W) :
  CallsIn Fence.wide m Tryz.prog 195 #[.func (.yield l) #[] #[], .pointer (some ⟨b, 0, none⟩)] W fun e W' => (∃ v, e = .returned v) ∧
   ((∃ ys : List Nat, ys = List.range v.ny ∧ J ys W') ∨ (∃ pre : List Nat, (∃ k, k ≤ v.ny ∧ pre = List.range k) ∧ Jx pre W')) := by
 obtain ⟨q0, q1⟩ := blk2 hx
 obtain ⟨X, nx, cx, Y, ny, cy⟩ := v
 dsimp only at *
 have HR := Lib.hid hr
 clear hr hx
 refine callsIn_of_wp Tryz.func195 rfl trivial ?_ rfl
 simp only [Tryz.ntmps195, List.size_toArray, List.length_cons, List.length_nil, Nat.reduceAdd, Nat.reduceSub, Array.replicate_succ, Array.replicate_zero, List.push_toArray, List.append_toArray, List.nil_append, List.cons_append]
 gi_wp2
 gi_loopw [8] (fun p wr => ∃ j : Nat, j ≤ ny ∧ p = .int .i64 (j : Int) ∧ J (List.range j) wr ∧ Hid (Rd wr Y (fvs fs))) (fun p _ => ny - (intOf p).toNat)
 case atStart => exact ⟨0, by omega, rfl, h0, HR.out⟩
 case round =>
  clear h0 HR q0 q1
  obtain ⟨j, hj, rfl, hJ, hL⟩ := hrel
  by_cases hlt : j < ny
  ·have hje : j < fs.length := by omega
   obtain ⟨g, off, rfl, c0, c1, c2, c3, c4⟩ := fun_at hL.out hje
   have hk0 := (Keep.refl NoB wr).alloc (.cells (fnI fs j).1.cells 37)
   have HY := Lib.hid (hY (List.range j) j _ (hJk _ _ _ hJ hk0) (by simp; omega))
   have HL2 := Lib.hid (hL.out.keepN hk0)
   have HE : Hid (List.range j ++ [j] = List.range (j + 1)) := by show _ = _; rw [List.range_succ]
   have hfi := fnI_at hje
   dsimp only [eaA] at HY
   rw [hfi] at HY HL2
   clear hJ hk0 hfi
   generalize fs[j] = e at c0 c1 c2 c3 c4 HY HL2
   obtain ⟨⟨S1, A1, na1, ca1, B1, nb1, cb1, L1, nl1, cl1, D1, nd1, cd1⟩, f⟩ := e
   dsimp only [F.FV.val, F.FV.cells] at c0 c1 c2 c3 c4 HY HL2
   obtain ⟨fn, tmps, assign, body, hy, hRun⟩ := HY.out
   clear HY hY
   gi_wp2
   refine hRun.mono ?_
   rintro e W3 (⟨rfl, hJ3, hk3⟩ | ⟨rfl, hJx3⟩)
   ·have hL3 := hk3 HL2.out
    rw [HE.out] at hJ3
    gi_wp2
    go_roundw
    case rel => exact ⟨j + 1, by omega, by go_num, hJ3, hL3⟩
    case measure => simp [intOf]; omega
   ·rw [HE.out] at hJx3
    gi_wp2
    refine bodyPost_ret (results_none rfl _ _ _) rfl ?_
    exact ⟨⟨_, rfl⟩, .inr ⟨_, ⟨_, by omega, rfl⟩, hJx3⟩⟩
  ·obtain rfl : j = ny := by omega
   gi_wp2
   go_end0
   exact ⟨⟨_, rfl⟩, .inl ⟨_, rfl, hJ⟩⟩

theorem each_abides {B : Nat} {J : List Nat → World → Prop} (h : AbidesFrom B J) : ∀ pre W W', J pre W → Keep NoB W W' → J pre W' := fun pre W W' hj hk => h pre W W' none hj hk.grows (fun r e => by cases e)
theorem each_stops (m : Nat) (hm : 1 ≤ m) (b : Nat) (v : IV) (fs : List FE) (hl : fs.length = v.ny) (hn : v.ny ≤ 1000) (w : World) (hx : Blk w b 25 v.cells) (hr : Rd w v.Y (fvs fs)) :
  SeqStopsK Fence.wide m Tryz.prog 195 #[.pointer (some ⟨b, 0, none⟩)] (eaA fs) (FsK v.Y fs) (fun ys : List Nat => ys = List.range v.ny) (fun pre : List Nat => ∃ k, k ≤ v.ny ∧ pre = List.range k) v.ny w := fun l J Jx W hb hJ _ hY h0 =>
 each1_in m l hm b v fs hl hn J Jx (each_abides hJ) hY W (Blk.keep hx (Keep.of_below (O := NoB) hb) id) (hr.keepN (Keep.of_below (O := NoB) hb)) h0

set_option maxRecDepth 100000 in
theorem each_any (m : Nat) (v : IV) (w : World) :
  CallsIn Fence.wide m Tryz.prog 126 #[v.val] w fun e w' => e = .returned (.func (.func 195) #[] #[.pointer (some ⟨w.heap.size, 0, none⟩)]) ∧ w' = w.alloc (.cells v.cells 25) := by
 obtain ⟨X, nx, cx, Y, ny, cy⟩ := v
 dsimp only [IV.val, IV.cells]
 refine callsIn_of_wp Tryz.func126 rfl trivial ?_ rfl
 simp only [Tryz.ntmps126, List.size_toArray, List.length_cons, List.length_nil, Nat.reduceAdd, Nat.reduceSub, Array.replicate_succ, Array.replicate_zero, List.push_toArray, List.append_toArray, List.nil_append, List.cons_append]
 gi_wp2
 go_ret
 exact ⟨rfl, rfl⟩

end Go.Proofs.YtgnooffedmeenaaGreatDoor.I

namespace Go.Proofs.YtgnooffedmeenaaGreatDoor
open Go.RowKit Go.Maps

def IMap (P : Program) (k e : TypeId) (b n : Nat) (f : Int → Nat) (w : World) : Prop :=
 ∃ D : DataW Unit, w.ownsMap P k (plainElem P e) b n D ∧ IsMap D ∧ ∀ h : Int, D.atKey (.int .i64 h) (.lit (.int .i64 0)) = .lit (.int .i64 (f h : Int))
section
variable {P : Program} {k e t : TypeId} {b n : Nat} {f : Int → Nat} {w w' : World}
theorem IMap.lt (h : IMap P k e b n f w) : b < w.heap.size := by obtain ⟨_, h, _⟩ := h; exact h.lt
theorem IMap.mono {m : Nat} (h : IMap P k e b n f w) (hm : n ≤ m) : IMap P k e b m f w := by
 obtain ⟨D, h1, h2, h3⟩ := h
 exact ⟨D, h1.mono hm, h2, h3⟩
theorem lit_inj {a b : Int} (h : (DataW.lit (.int .i64 a) : DataW Unit) = .lit (.int .i64 b)) : a = b := by injection h with h; injection h with _ h
end
end Go.Proofs.YtgnooffedmeenaaGreatDoor

namespace Go.Proofs.YtgnooffedmeenaaGreatDoor
open Go.RowKit Go.Maps

def SMap (P : Program) (k e : TypeId) (b n : Nat) (f : List UInt8 → Nat) (w : World) : Prop :=
 ∃ D : DataW Unit, w.ownsMap P k (plainElem P e) b n D ∧ IsMap D ∧ ∀ s : List UInt8, D.atKey (.string s) (.lit (.int .i64 0)) = .lit (.int .i64 (f s : Int))
section
variable {P : Program} {k e t : TypeId} {b n : Nat} {f : List UInt8 → Nat} {w w' : World}
theorem SMap.new (P : Program) (k e : TypeId) (w : World) : SMap P k e w.heap.size 0 (fun _ => 0) (w.alloc (.map #[] 0)) :=
 ⟨.map [], World.ownsMap_made w P k _, isMap_empty, fun _ => rfl⟩
theorem SMap.lt (h : SMap P k e b n f w) : b < w.heap.size := by obtain ⟨_, h, _⟩ := h; exact h.lt
theorem SMap.obj (h : SMap P k e b n f w) : ∃ es c, w.heap[b]? = some (.map es c) := by
 obtain ⟨_, ⟨es, c, hb, _⟩, _⟩ := h
 exact ⟨es, c, hb⟩
theorem SMap.grown {row : Option Nat} (h : SMap P k e b n f w) (hg : w.grownBy w' row) (hne : some b ≠ row) : SMap P k e b n f w' := by
 obtain ⟨D, h1, h2, h3⟩ := h
 exact ⟨D, h1.kept hg hne, h2, h3⟩
theorem SMap.keep {O : Nat → Prop} (h : SMap P k e b n f w) (hk : Keep O w w') (hb : ¬ O b) : SMap P k e b n f w' := by
 obtain ⟨D, ⟨es, c, h0, hr⟩, h2, h3⟩ := h
 exact ⟨D, ⟨es, c, (hk.block b (Array.getElem?_eq_some_iff.1 h0).1 hb).trans h0, hr⟩, h2, h3⟩
theorem SMap.mono {m : Nat} (h : SMap P k e b n f w) (hm : n ≤ m) : SMap P k e b m f w := by
 obtain ⟨D, h1, h2, h3⟩ := h
 exact ⟨D, h1.mono hm, h2, h3⟩
theorem SMap.congr {g : List UInt8 → Nat} (h : SMap P k e b n f w) (hg : ∀ x, g x = f x) : SMap P k e b n g w := by
 obtain ⟨D, h1, h2, h3⟩ := h
 exact ⟨D, h1, h2, fun x => by rw [hg]; exact h3 x⟩
def setS (f : List UInt8 → Nat) (x : List UInt8) (v : Nat) : List UInt8 → Nat := fun y => if y = x then v else f y
theorem isMap_putS {D : DataW Unit} {f : List UInt8 → Nat} {x : List UInt8} {v : Nat} (hD : IsMap D) (h3 : ∀ h : List UInt8, D.atKey (.string h) (.lit (.int .i64 0)) = .lit (.int .i64 (f h : Int))) :
  ∀ h : List UInt8, (D.put (.string x) (.lit (.int .i64 (v : Int)))).atKey (.string h) (.lit (.int .i64 0)) = .lit (.int .i64 (setS f x v h : Int)) := by
 intro h
 unfold setS
 by_cases he : h = x
 ·subst he; rw [if_pos rfl]; exact atKey_put_same hD (by unfold WideAt.IsKeyLit; trivial) _ _
 ·rw [if_neg he, atKey_put_other (by intro e; injection e with e; exact he e)]; exact h3 h
theorem keyOf_str {P : Program} {k : TypeId} (hk : P.underlying k = some .string) {S : ByteArray} (hs : S.size ≤ maxLen) : keyOf P k (.string S) = some (.string S.data.toList) := by
 simp [keyOf, hk, mapKey, hs]
theorem SMap.update (h : SMap P k e b n f w) (ht : P.underlying t = some (.map k e)) (hk : P.underlying k = some .string) (he : P.underlying e = some (.int .i64)) (hn : n < maxLen) (S : ByteArray) (v : Nat) (hx : S.size ≤ maxLen) (hv : (Lit.int .i64 (v : Int)).wf = true) :
  ∃ w', (Instr.mapUpdate t (.map (some b)) (.string S) (.int .i64 (v : Int))).run P w = .ok () w' ∧ SMap P k e b (n + 1) (setS f S.data.toList v) w' ∧ w.grownBy w' (some b) := by
 obtain ⟨D, h1, h2, h3⟩ := h
 obtain ⟨w', hrun, r1, r2⟩ := h1.update (string_keyed hk) ht hn (keyOf_str hk hx) (plainElem_int he hv)
 exact ⟨w', hrun, ⟨_, r1, h2.put _ _, isMap_putS h2 h3⟩, r2⟩
theorem SMap.look (h : SMap P k e b n f w) (ht : P.underlying t = some (.map k e)) (hk : P.underlying k = some .string) (he : P.underlying e = some (.int .i64)) (hz : (zeroValue e).run P w = .ok (.int .i64 0) w) (S : ByteArray) (hx : S.size ≤ maxLen) :
  (Instr.lookup t (.map (some b)) (.string S) false).run P w = .ok (.int .i64 (f S.data.toList : Int)) w := by
 obtain ⟨D, h1, h2, h3⟩ := h
 obtain ⟨c, hrun, hat, _⟩ := h1.lookup_int (string_keyed hk) ht he hz (keyOf_str hk hx)
 rw [h3 S.data.toList] at hat
 rw [lit_inj hat]
 exact hrun
end
end Go.Proofs.YtgnooffedmeenaaGreatDoor

namespace Go.Proofs.YtgnooffedmeenaaGreatDoor.I
open Go.RowKit Go.Shelf W
attribute [local go_sem] Oper.semAt_some

def nmx (fs : List FE) (x : Nat) : List UInt8 := (fnI fs x).1.S.data.toList
def cntF (fs : List FE) (pre : List Nat) (s : List UInt8) : Nat := if s ∈ pre.map (nmx fs) then 1 else 0
theorem cntF_new {fs : List FE} {pre : List Nat} {x : Nat} : ∀ s, cntF fs (pre ++ [x]) s = setS (cntF fs pre) (nmx fs x) 1 s := by
 intro s
 unfold cntF setS
 by_cases e : s = nmx fs x
 ·subst e; simp
 ·rw [if_neg e]; simp [e]
theorem nodup_new {fs : List FE} {pre : List Nat} {x : Nat} (h : nmx fs x ∉ pre.map (nmx fs)) (hp : (pre.map (nmx fs)).Nodup) : ((pre ++ [x]).map (nmx fs)).Nodup := by
 rw [List.map_append, List.nodup_append]
 refine ⟨hp, by simp, ?_⟩
 intro a ha b hb
 simp at hb
 subst hb
 rintro rfl
 exact h ha
theorem names_range {fs : List FE} {n : Nat} (hn : fs.length = n) (hN : ∀ e ∈ fs, e.1.S.data.toList = e.2.nm) : (List.range n).map (nmx fs) = names (imOf [] fs) := by
 apply List.ext_getElem?
 intro i
 unfold names imOf nmx
 by_cases h : i < fs.length
 ·rw [List.getElem?_map, List.getElem?_range (by omega)]
  simp [fnI_at h, h, hN _ (List.getElem_mem h)]
 ·rw [List.getElem?_eq_none (by simp; omega), List.getElem?_eq_none (by simp; omega)]
theorem rd_grown {W W' : World} {A : Option Addr} {xs : List Value} {mb : Nat} {es : Array MapEntry} {c : Nat} (hg : W.grownBy W' (some mb)) (hm : W.heap[mb]? = some (.map es c)) (hr : Rd W A xs) : Rd W' A xs := fun h0 => by
 obtain ⟨g, off, e, hc⟩ := hr h0
 refine ⟨g, off, e, fun j u hu => ?_⟩
 have h1 := hc j u hu
 have hne : g ≠ mb := by
  rintro rfl
  unfold World.cell? at h1
  simp [hm] at h1
 exact (World.cell?_of_block (hg.block g (World.block_lt_of_cell? W _ h1) (by simp [hne]))).trans h1
theorem blk_grown_map {W W' : World} {mb g : Nat} {t : TypeId} {cs : Array Value} {es : Array MapEntry} {c : Nat} (hg : W.grownBy W' (some mb)) (hm : W.heap[mb]? = some (.map es c)) (h : Blk W g t cs) : Blk W' g t cs :=
 h.grown hg (fun e => by
  cases e
  unfold Blk at h
  rw [hm] at h; cases h)
def ApI (w : World) (b : Nat) (fs : List FE) (pre : List Nat) (W : World) : Prop :=
 (Blk W (b + 1) 4 #[.bool false] ∧ Blk W (b + 1 + 1 + 1) 111 #[.map (some (b + 1 + 1))]) ∧ SMap Tryz.prog 9 3 (b + 1 + 1) pre.length (cntF fs pre) W ∧ Keep NoB w W ∧ (pre.map (nmx fs)).Nodup
def ApX (w : World) (b : Nat) (fs : List FE) (c : Code) (pre : List Nat) (W : World) : Prop :=
 c = .ret ∧ Blk W (b + 1) 4 #[.bool false] ∧ Keep NoB w W ∧ ¬ (pre.map (nmx fs)).Nodup
def ApA (v : IV) (fs : List FE) (b : Nat) (x : Nat) (Bo : Nat) : Act :=
 { tmps := #[v.val, .pointer (some ⟨b, 0, none⟩), .pointer (some ⟨b + 1, 0, none⟩), .pointer (some ⟨b + 1 + 1 + 1, 0, none⟩), undef, .pointer (some ⟨Bo, 0, none⟩), .map (some (b + 1 + 1)), v.val, .func (.func 195) #[] #[.pointer (some ⟨b + 1 + 1 + 1 + 1, 0, none⟩)], .int .i64 (x : Int), (fnI fs x).1.val, undef, undef, undef, undef, undef, undef, undef, undef, undef, undef], defers := [] }
theorem apI_own {w : World} {b B : Nat} {fs : List FE} (hb : b + 4 ≤ B) (hB : w.heap.size ≤ B) : OwnFrom B (ApI w b fs) := by
 intro s X Y row ⟨⟨h1, h2⟩, h3, h4, h5⟩ hg hrow
 exact ⟨⟨O.blk_own (β := Unit) _ _ _ (fun _ => _) () _ _ _ h1 hg hrow, O.blk_own (β := Unit) _ _ _ (fun _ => _) () _ _ _ h2 hg hrow⟩, h3.grown hg (fun e => by have := (hrow _ e.symm).1; omega), O.keep_own (β := Unit) _ hB () _ _ _ h4 hg hrow, h5⟩
theorem apX_own {w : World} {b B : Nat} {fs : List FE} (hB : w.heap.size ≤ B) (c : Code) : OwnFrom B (fun (pre : List Nat) W => ApX w b fs c pre W) := by
 intro s X Y row ⟨h0, h1, h4, h5⟩ hg hrow
 exact ⟨h0, O.blk_own (β := Unit) _ _ _ (fun _ => _) () _ _ _ h1 hg hrow, O.keep_own (β := Unit) _ hB () _ _ _ h4 hg hrow, h5⟩
theorem met_zero (w : World) : (zeroValue 3).run Tryz.prog w = .ok (.int .i64 0) w := Tryz.zeroValue3 w
theorem not_nodup_range {fs : List FE} {k n : Nat} (hk : k ≤ n) (h : ¬ ((List.range k).map (nmx fs)).Nodup) : ¬ ((List.range n).map (nmx fs)).Nodup := by
 intro h2
 refine h (List.Nodup.sublist ?_ h2)
 exact (List.range_sublist.2 hk).map _
theorem blk_putObj {W : World} {g D : Nat} {t : TypeId} {cs : Array Value} {o o' : Obj} (h : Blk W g t cs) (hl : W.heap[D]? = some o) (ho : o.isCells = false) : Blk (W.putObj D o') g t cs := by
 have hne : g ≠ D := by
  rintro rfl
  unfold Blk at h
  rw [hl] at h; cases h; cases ho
 exact (World.putObj_heap_other hne).trans h
theorem run_bool {w : World} {g : Nat} {u : Bool} (h : Blk w g 4 #[.bool u]) : (loadVar 4 ⟨g, 0, none⟩).run Tryz.prog w = .ok (.bool u) w := by
 have ha : (isAgg 4).run Tryz.prog w = .ok false w := Tryz.isAgg4 w
 have hc : w.cell? ⟨g, 0, none⟩ = some (.bool u) := h.cell 0
 simp [loadVar, ha, hc]

set_option maxRecDepth 100000 in
set_option maxHeartbeats 4000000 in
theorem apart_any (v : IV) (es : List SE) (fs : List FE) (w : World) (h : ImAt w v es fs) (hn : v.ny ≤ 1000) (hf : ∀ e ∈ fs, e.1.S.size ≤ 140737488355328) (R : Bool) (hR : Hid (decide ((names (imOf [] fs)).Nodup) = R)) :
  Calls Tryz.prog 58 #[v.val] w fun e w' => e = .returned (.bool R) ∧ Keep NoB w w' := by
 have hly := h.ly
 have HR := Lib.hid (fun W (hk : Keep NoB w W) => h.ry.keepN hk)
 have HN := Lib.hid (names_range hly (fun e he => (h.hf e he).nm))
 have HSZ : Hid (∀ x, (fnI fs x).1.S.size ≤ maxLen) := fun x => by
  by_cases hx : x < fs.length
  ·rw [fnI_at hx]; have := hf _ (List.getElem_mem hx); unfold maxLen; omega
  ·unfold fnI; rw [List.getElem?_eq_none (by omega)]; exact Nat.zero_le _
 clear h hf
 refine (callsIn_wide (n := 4)).1 ?_
 refine callsIn_of_wp_marks Tryz.func58 rfl trivial ?_ rfl
 have hmm := @run_makeMap Tryz.prog
 have hst := Lib.hid (fun m hm b w hx hr => each_stops m hm b v fs hly hn w hx hr)
 have he1 := Lib.hid (fun m w => each_any m v w)
 have hkk := ((((Keep.refl NoB w).alloc (.cells v.cells 25)).alloc (.cells #[.bool false] 4)).alloc (.map #[] 0)).alloc (.cells #[.map (some (w.heap.size + 1 + 1))] 111)
 have hs := (((Blk.new (w.alloc (.cells v.cells 25)) 4 #[.bool false]).alloc (.map #[] 0)).alloc (.cells #[.map (some (w.heap.size + 1 + 1))] 111)).alloc (.cells v.cells 25)
 have hm0 := SMap.new Tryz.prog 9 3 ((w.alloc (.cells v.cells 25)).alloc (.cells #[.bool false] 4))
 simp only [World.size_alloc] at hm0
 have hm1 := hm0.keep (O := NoB) (((Keep.refl NoB _).alloc (.cells #[.map (some (w.heap.size + 1 + 1))] 111)).alloc (.cells v.cells 25)) id
 have hb3 := (Blk.new (((w.alloc (.cells v.cells 25)).alloc (.cells #[.bool false] 4)).alloc (.map #[] 0)) 111 #[.map (some (w.heap.size + 1 + 1))]).alloc (.cells v.cells 25)
 have hi5 := Blk.new ((((w.alloc (.cells v.cells 25)).alloc (.cells #[.bool false] 4)).alloc (.map #[] 0)).alloc (.cells #[.map (some (w.heap.size + 1 + 1))] 111)) 25 v.cells
 simp only [World.size_alloc] at hs hb3 hi5
 have hK := hkk.alloc (.cells v.cells 25)
 have hr5 := HR.out _ hK
 have hI0 : ApI w w.heap.size fs [] _ := ⟨⟨hs, hb3⟩, hm1.congr (fun x => by simp [cntF]), hK, by simp⟩
 have HI0 := Lib.hid hI0
 have HX5 := Lib.hid hi5
 have HR5 := Lib.hid hr5
 clear hs hm0 hm1 hb3 hi5 hkk hK hr5 hI0
 obtain ⟨X, nx, cx, Y, ny, cy⟩ := v
 dsimp only [IV.val, IV.cells] at *
 simp only [Tryz.ntmps58, List.size_toArray, List.length_cons, List.length_nil, Nat.reduceAdd, Nat.reduceSub, Array.replicate_succ, Array.replicate_zero, List.push_toArray, List.append_toArray, List.nil_append, List.cons_append]
 gi_wp2_with (refine ⟨trivial, ?_⟩; gi_at_call 126; refine (he1.out _ _).mono ?_; rintro e w1 ⟨rfl, rfl⟩)
 refine wpIn_rangeFunc_ownH rfl (by omega) (gf := 195) (lb := #[.pointer (some ⟨w.heap.size + 1 + 1 + 1 + 1, 0, none⟩)]) rfl trivial (enters_of Tryz.func195 (by kernel_rfl) rfl)
  (hst.out _ (by omega) _ _ HX5.out HR5.out) FsK.trans (fun W l o o' _ hl ho _ => FsK.putObj W l o o' hl ho) (Below.refl _ _) (fun _ => rfl)
  (ApI w w.heap.size fs) (fun c pre W => ApX w w.heap.size fs c pre W) (apI_own (by simp) (by simp; omega)) (fun c => apX_own (by simp; omega) c) HI0.out
  (fun x a' W => ∃ Bo, Blk W Bo 37 (fnI fs x).1.cells ∧ a' = ApA ⟨X, nx, cx, Y, ny, cy⟩ fs w.heap.size x Bo) ?hax ?assign ?body ?done ?stop
 case hax =>
  rintro x a' s X Y row ⟨Bo, h1, h2⟩ hg hrow
  exact ⟨Bo, O.blk_own (β := Unit) _ _ _ (fun _ => _) () _ _ _ h1 hg hrow, h2⟩
 case assign =>
  intro l pre x W K hi hK
  have HI := Lib.hid (fun W' hk => apI_own (w := w) (b := w.heap.size) (fs := fs) (B := w.heap.size + 4) (Nat.le_refl _) (by omega) pre W W' none hi (Keep.grows hk) (fun r e => by cases e))
  have HB1 := Lib.hid (Blk.new W 37 (fnI fs x).1.cells)
  have HK2 := Lib.hid (fun a' W' h1 h2 h3 h4 => hK a' W' h1 h2 h3 h4)
  unfold ApA at HK2
  dsimp only [eaA]
  clear hi
  generalize fnI fs x = e at *
  obtain ⟨⟨S1, A1, na1, ca1, B1, nb1, cb1, L1, nl1, cl1, D1, nd1, cd1⟩, f⟩ := e
  dsimp only [F.FV.val, F.FV.cells, IV.val, IV.cells] at *
  clear hK
  gi_wp2
  exact HK2.out _ _ (keepsFrom_keep ((Keep.refl NoB W).alloc _)) (fun h => h.keepN ((Keep.refl NoB W).alloc _)) (HI.out _ ((Keep.refl NoB W).alloc _)) ⟨_, HB1.out, rfl⟩
 case body =>
  rintro l pre x a' W hl _ ⟨⟨hs, hm3⟩, hM, hK, hnd⟩ ⟨Bo, hb, rfl⟩ hlt
  have cb : W.cell? ⟨Bo, 0, none⟩ = some (.string (fnI fs x).1.S) := hb.cell 0
  have cm : W.cell? ⟨w.heap.size + 1 + 1 + 1, 0, none⟩ = some (.map (some (w.heap.size + 1 + 1))) := hm3.cell 0
  have hsz := HSZ.out x
  obtain ⟨em, cmc, hobj⟩ := hM.obj
  dsimp only [ApA, IV.val, IV.cells]
  have hzs := hs.lt
  by_cases hx : nmx fs x ∈ pre.map (nmx fs)
  ·have e1 : cntF fs pre (fnI fs x).1.S.data.toList = 1 := if_pos hx
   have hlk := hM.look (t := 111) Tryz.underlying111 Tryz.underlying9 Tryz.underlying3 (met_zero _) (fnI fs x).1.S hsz
   obtain ⟨w5, hup, hM5, hg5⟩ := hM.update (t := 111) Tryz.underlying111 Tryz.underlying9 Tryz.underlying3 (by unfold maxLen; omega) (fnI fs x).1.S 2 hsz (by decide)
   have hlk5 := hM5.look (t := 111) Tryz.underlying111 Tryz.underlying9 Tryz.underlying3 (met_zero _) (fnI fs x).1.S hsz
   have e2 : setS (cntF fs pre) (fnI fs x).1.S.data.toList 2 (fnI fs x).1.S.data.toList = 2 := if_pos rfl
   rw [e1, show ((1 : Nat) : Int) = 1 from rfl] at hlk
   rw [e2, show ((2 : Nat) : Int) = 2 from rfl] at hlk5
   rw [show ((2 : Nat) : Int) = 2 from rfl] at hup
   have cb5 := (blk_grown_map hg5 hobj hb).cell 0
   have cm5 := (blk_grown_map hg5 hobj hm3).cell 0
   have hs5 := blk_grown_map hg5 hobj hs
   have hs6 := hs5.put 0 (.bool false)
   have fz := fun i => hs5.frozen i
   have c5 := hs5.cell 0
   have hzs5 := hs5.lt
   have HX : Hid (ApX w w.heap.size fs .ret (pre ++ [x]) (w5.setCell ⟨w.heap.size + 1, 0, none⟩ (.bool false))) :=
    ⟨rfl, hs6, (hK.grown hg5 (fun g e hl => by cases e; omega)).setCell (fun h => absurd h (by simp)) _, fun h => by
     rw [List.map_append, List.nodup_append] at h
     exact h.2.2 _ hx _ (by simp) rfl⟩
   have HKF : Hid (KeepsFrom (w.heap.size + 1 + 1 + 1 + 1 + 1) W (w5.setCell ⟨w.heap.size + 1, 0, none⟩ (.bool false))) :=
    ⟨by have := hg5.size; simpa [World.setCell] using this, fun k o hk1 hk2 hk3 => (Below.heap_setCell _ _ _ _ (by show k ≠ w.heap.size + 1; omega)).trans ((hg5.block k (Array.getElem?_eq_some_iff.1 hk2).1 (by simp; omega)).trans hk2)⟩
   simp only [F.FV.cells, List.getElem?_toArray, List.getElem?_cons_zero] at cb5 cm5 c5
   clear hM hM5 hs hm3 hb hs5 hs6 hK hg5 hobj hnd e1 e2 hx
   generalize fnI fs x = e at *
   obtain ⟨⟨S1, A1, na1, ca1, B1, nb1, cb1, L1, nl1, cl1, D1, nd1, cd1⟩, f⟩ := e
   dsimp only [F.FV.val, F.FV.cells] at *
   gi_wp2
   exact ⟨by simpa using HKF.out, HX.out⟩
  ·have e1 : cntF fs pre (fnI fs x).1.S.data.toList = 0 := if_neg hx
   have hlk := hM.look (t := 111) Tryz.underlying111 Tryz.underlying9 Tryz.underlying3 (met_zero _) (fnI fs x).1.S hsz
   obtain ⟨w5, hup, hM5, hg5⟩ := hM.update (t := 111) Tryz.underlying111 Tryz.underlying9 Tryz.underlying3 (by unfold maxLen; omega) (fnI fs x).1.S 1 hsz (by decide)
   have hlk5 := hM5.look (t := 111) Tryz.underlying111 Tryz.underlying9 Tryz.underlying3 (met_zero _) (fnI fs x).1.S hsz
   have e2 : setS (cntF fs pre) (fnI fs x).1.S.data.toList 1 (fnI fs x).1.S.data.toList = 1 := if_pos rfl
   rw [e1, show ((0 : Nat) : Int) = 0 from rfl] at hlk
   rw [e2, show ((1 : Nat) : Int) = 1 from rfl] at hlk5
   rw [show ((1 : Nat) : Int) = 1 from rfl] at hup
   have cb5 := (blk_grown_map hg5 hobj hb).cell 0
   have cm5 := (blk_grown_map hg5 hobj hm3).cell 0
   have HX : Hid (ApI w w.heap.size fs (pre ++ [x]) w5) :=
    ⟨⟨blk_grown_map hg5 hobj hs, blk_grown_map hg5 hobj hm3⟩, by
     have := hM5.congr (g := cntF fs (pre ++ [x])) cntF_new
     rwa [show pre.length + 1 = (pre ++ [x]).length by simp] at this, hK.grown hg5 (fun g e hl => by cases e; omega), nodup_new hx hnd⟩
   have HKF : Hid (KeepsFrom (w.heap.size + 1 + 1 + 1 + 1 + 1) W w5 ∧ FsK Y fs W w5) :=
    ⟨⟨hg5.size, fun k o hk1 hk2 hk3 => (hg5.block k (Array.getElem?_eq_some_iff.1 hk2).1 (by simp; omega)).trans hk2⟩, fun hr => rd_grown hg5 hobj hr⟩
   simp only [F.FV.cells, List.getElem?_toArray, List.getElem?_cons_zero] at cb5 cm5
   clear hM hM5 hs hm3 hb hK hg5 hobj hnd e1 e2 hx
   generalize fnI fs x = e at *
   obtain ⟨⟨S1, A1, na1, ca1, B1, nb1, cb1, L1, nl1, cl1, D1, nd1, cd1⟩, f⟩ := e
   dsimp only [F.FV.val, F.FV.cells] at *
   gi_wp2
   exact ⟨by simpa using HKF.out.1, HKF.out.2, HX.out⟩
 case done =>
  rintro D ys W hD rfl ⟨⟨hs, hm3⟩, hM, hK, hnd⟩ hDf
  rw [HN.out] at hnd
  obtain rfl : true = R := by rw [← hR.out, decide_eq_true hnd]
  have hs6 := hs.put 0 (.bool true)
  have fz := fun i => hs.frozen i
  have c5 : W.cell? ⟨w.heap.size + 1, 0, none⟩ = some (.bool false) := hs.cell 0
  have hK6 := hK.setCell (p := ⟨w.heap.size + 1, 0, none⟩) (fun h => absurd h (by simp)) (.bool true)
  have hDf6 := (Below.heap_setCell W ⟨w.heap.size + 1, 0, none⟩ (.bool true) D (by show D ≠ w.heap.size + 1; simp at hD; omega)).trans hDf
  have HS6 := Lib.hid hs6
  clear hs hm3 hM hnd hK hs6
  gi_wp2
  refine ⟨by simp, .inl ⟨_, _, rfl, run_takeDeferred hDf6, ?_⟩⟩
  exact ⟨_, O.results_cell rfl rfl (run_bool (blk_putObj HS6.out hDf6 rfl)), rfl, O.Keep_putObj hK6 (by simp at hD; omega)⟩
 case stop =>
  rintro D c pre W hD ⟨k, hk, rfl⟩ ⟨rfl, hs, hK, hnd⟩ hDf
  have hnd2 := not_nodup_range hk hnd
  rw [HN.out] at hnd2
  obtain rfl : false = R := by rw [← hR.out, decide_eq_false hnd2]
  gi_wp2
  refine ⟨by simp, .inl ⟨_, _, rfl, run_takeDeferred hDf, ?_⟩⟩
  exact ⟨_, O.results_cell rfl rfl (run_bool (blk_putObj hs hDf rfl)), rfl, O.Keep_putObj hK (by simp at hD; omega)⟩

end Go.Proofs.YtgnooffedmeenaaGreatDoor.I

namespace Go.Proofs.YtgnooffedmeenaaGreatDoor.I
open Go.RowKit W

theorem okI_parts (es : List SE) (fs : List FE) : okI (imOf es fs) = (mayS es && (mayF fs && decide ((names (imOf [] fs)).Nodup))) := by
 have hn : names (imOf es fs) = names (imOf [] fs) := rfl
 rw [Bool.eq_iff_iff, okI_iff, hn]
 simp only [Bool.and_eq_true, mayS, mayF, decide_eq_true_eq]
 have e1 : (imOf es fs).sh.all S.okS = es.all fun e => S.okS e.2 := by simp [imOf, List.all_map, Function.comp_def]
 have e2 : (imOf es fs).fn.all F.okF = fs.all fun e => F.okF e.2 := by simp [imOf, List.all_map, Function.comp_def]
 have e3 : (imOf es fs).sh.length = es.length := by simp [imOf]
 have e4 : (imOf es fs).fn.length = fs.length := by simp [imOf]
 rw [e1, e2, e3, e4]
 constructor
 ·rintro ⟨⟨a, ⟨b, c⟩, d⟩, e, f⟩
  exact ⟨⟨⟨Nat.zero_le _, a⟩, e⟩, ⟨⟨b, c⟩, f⟩, d⟩
 ·rintro ⟨⟨⟨_, a⟩, e⟩, ⟨⟨b, c⟩, f⟩, d⟩
  exact ⟨⟨a, ⟨b, c⟩, d⟩, e, f⟩

set_option maxRecDepth 100000 in
set_option maxHeartbeats 8000000 in
theorem check_any (v : IV) (es : List SE) (fs : List FE) (w : World) (h : ImAt w v es fs) (hl : LgI v es fs) (R : Int) (hR : Hid (chkI (imOf es fs) = R)) :
  Calls Tryz.prog 30 #[v.val] w fun e w' => e = .returned (.int .i64 R) ∧ Keep NoB w w' := by
 have bx := Blk.new w 25 v.cells
 have k0 := (Keep.refl NoB w).alloc (.cells v.cells 25)
 have hlx := h.lx
 have hly := h.ly
 have HS := Lib.hid (fun W (hk : Keep NoB w W) => mayS_any v.X es v.nx v.cx W (fun W' hk' => (h.keepN (keepN hk hk')).rx) hlx (by have := hl.nx; omega) (fun e he W' hk' => S.chkS_any e.1.A e.2 e.1.n e.1.c W' ((h.keepN (keepN hk hk')).hs e he).1 (h.hs e he).2 (by have := hl.sh e he; omega) _ rfl))
 have HF := Lib.hid (fun W (hk : Keep NoB w W) => mayF_any v.Y fs v.ny v.cy W (fun W' hk' => (h.keepN (keepN hk hk')).ry) hly (by have := hl.ny; omega) (fun e he W' hk' => F.checkL_any e.1 e.2 W' ((h.keepN (keepN hk hk')).hf e he) (hl.fn e he) _ rfl))
 have HA : Hid (mayF fs = true → ∀ W, Keep NoB w W → Calls Tryz.prog 58 #[v.val] W fun e w' => e = .returned (.bool (decide ((names (imOf [] fs)).Nodup))) ∧ Keep NoB W w') := fun hm W hk =>
  apart_any v es fs W (h.keepN hk) (by unfold mayF at hm; rw [Bool.and_eq_true, decide_eq_true_eq] at hm; omega) (fun e he => (hl.fn e he).sz) _ rfl
 have HR : Hid (chkI (imOf es fs) = if (mayS es && (mayF fs && decide ((names (imOf [] fs)).Nodup))) = true then 0 else 80) := by show _ = _; unfold chkI; rw [okI_parts]
 obtain ⟨q0, q1⟩ := blk2 bx
 clear h hl bx hlx hly
 obtain ⟨X, nx, cx, Y, ny, cy⟩ := v
 dsimp only [IV.val, IV.cells] at *
 generalize hw1 : w.alloc (.cells #[.slice X nx cx, .slice Y ny cy] 25) = w1 at k0 q0 q1
 have HP := Lib.hid (fun (n : KW w1) => keepN k0 n.keep)
 have z0 : ∀ n : KW w1, n.w.cell? ⟨w.heap.size, 0, none⟩ = some (.slice X nx cx) := fun n => n.keep.cell q0 id
 have z1 : ∀ n : KW w1, n.w.cell? ⟨w.heap.size, 1, none⟩ = some (.slice Y ny cy) := fun n => n.keep.cell q1 id
 generalize decide ((names (imOf [] fs)).Nodup) = bA at *
 cases hs : mayS es
 ·rw [hs] at HS HR
  obtain rfl : 80 = R := by rw [← hR.out, HR.out]; rfl
  clear hR HR HF HA hs
  go_enter Tryz.func30, Tryz.ntmps30
  go_wp2_with fail
  clear hw1
  refine wp_region_kept w1 (by kernel_rfl) (by kernel_rfl) (Keep.refl NoB w1) ?_
  repeat (go_big_quiet_step (first | (go_at_call 55; exact kept_of (partsS_any _)) | (go_at_call 54; exact kept_of (HS.out _ (HP.out _)))))
  refine wpQuiet_nil ?_
  rintro _ ⟨n9, rfl⟩
  have hk9 := n9.keep
  generalize n9.w = w9 at hk9 ⊢
  have hK9 := keepN k0 hk9
  go_wp2
  go_ret
  exact ⟨rfl, hK9⟩
 ·rw [hs] at HS HR
  cases hf : mayF fs
  ·rw [hf] at HF HR
   obtain rfl : 80 = R := by rw [← hR.out, HR.out]; rfl
   clear hR HR HA hs hf
   go_enter Tryz.func30, Tryz.ntmps30
   go_wp2_with fail
   clear hw1
   refine wp_region_kept w1 (by kernel_rfl) (by kernel_rfl) (Keep.refl NoB w1) ?_
   repeat (go_big_quiet_step (first | (go_at_call 55; exact kept_of (partsS_any _)) | (go_at_call 54; exact kept_of (HS.out _ (HP.out _))) | (go_at_call 57; exact kept_of (partsF_any _)) | (go_at_call 56; exact kept_of (HF.out _ (HP.out _)))))
   refine wpQuiet_nil ?_
   rintro _ ⟨n9, rfl⟩
   have hk9 := n9.keep
   generalize n9.w = w9 at hk9 ⊢
   have hK9 := keepN k0 hk9
   go_wp2
   go_ret
   exact ⟨rfl, hK9⟩
  ·have HA2 := Lib.hid (HA.out hf)
   rw [hf] at HF HR
   cases bA
   ·obtain rfl : 80 = R := by rw [← hR.out, HR.out]; rfl
    clear hR HR HA hs hf
    go_enter Tryz.func30, Tryz.ntmps30
    go_wp2_with fail
    clear hw1
    refine wp_region_kept w1 (by kernel_rfl) (by kernel_rfl) (Keep.refl NoB w1) ?_
    repeat (go_big_quiet_step (first | (go_at_call 55; exact kept_of (partsS_any _)) | (go_at_call 54; exact kept_of (HS.out _ (HP.out _))) | (go_at_call 57; exact kept_of (partsF_any _)) | (go_at_call 56; exact kept_of (HF.out _ (HP.out _))) | (go_at_call 58; exact kept_of (HA2.out _ (HP.out _)))))
    refine wpQuiet_nil ?_
    rintro _ ⟨n9, rfl⟩
    have hk9 := n9.keep
    generalize n9.w = w9 at hk9 ⊢
    have hK9 := keepN k0 hk9
    go_wp2
    go_ret
    exact ⟨rfl, hK9⟩
   ·obtain rfl : 0 = R := by rw [← hR.out, HR.out]; rfl
    clear hR HR HA hs hf
    go_enter Tryz.func30, Tryz.ntmps30
    go_wp2_with fail
    clear hw1
    refine wp_region_kept w1 (by kernel_rfl) (by kernel_rfl) (Keep.refl NoB w1) ?_
    repeat (go_big_quiet_step (first | (go_at_call 55; exact kept_of (partsS_any _)) | (go_at_call 54; exact kept_of (HS.out _ (HP.out _))) | (go_at_call 57; exact kept_of (partsF_any _)) | (go_at_call 56; exact kept_of (HF.out _ (HP.out _))) | (go_at_call 58; exact kept_of (HA2.out _ (HP.out _)))))
    refine wpQuiet_nil ?_
    rintro _ ⟨n9, rfl⟩
    have hk9 := n9.keep
    generalize n9.w = w9 at hk9 ⊢
    have hK9 := keepN k0 hk9
    go_wp2
    go_ret
    exact ⟨rfl, hK9⟩

end Go.Proofs.YtgnooffedmeenaaGreatDoor.I

namespace Go.Proofs.YtgnooffedmeenaaGreatDoor.M.L
open Go.RowKit W

def cutV (b : Bool) (v : I.IV) : I.IV := if b = true then v else I.nilW
def cutE (b : Bool) (es : List I.SE) : List I.SE := if b = true then es else []
def cutF (b : Bool) (fs : List I.FE) : List I.FE := if b = true then fs else []
theorem cut_im {b : Bool} {w : World} {v : I.IV} {es : List I.SE} {fs : List I.FE} (h : I.ImAt w v es fs) : I.ImAt w (cutV b v) (cutE b es) (cutF b fs) := by
 cases b
 ·exact (I.nil_own w NoB).im
 ·exact h
abbrev sheetW (W : World) (b : Nat) (u0 u1 u2 u3 u4 : Value) : World := ((((W.setCell ⟨b, 0, none⟩ u0).setCell ⟨b, 1, none⟩ u1).setCell ⟨b, 2, none⟩ u2).setCell ⟨b, 3, none⟩ u3).setCell ⟨b, 4, none⟩ u4
theorem sheet_put {W : World} {b : Nat} {T : TypeId} {a0 a1 a2 a3 a4 : Value} (h : Blk W b T #[a0, a1, a2, a3, a4]) (u0 u1 u2 u3 u4 : Value) : Blk (sheetW W b u0 u1 u2 u3 u4) b T #[u0, u1, u2, u3, u4] := ((((h.put 0 u0).put 1 u1).put 2 u2).put 3 u3).put 4 u4
theorem sheet_keep {w W : World} {b : Nat} (h : Keep NoB w W) (u0 u1 u2 u3 u4 : Value) (hb : w.heap.size ≤ b) : Keep NoB w (sheetW W b u0 u1 u2 u3 u4) :=
 ((((h.setCell (p := ⟨b, 0, none⟩) (fun h => absurd h (Nat.not_lt.2 hb)) u0).setCell (p := ⟨b, 1, none⟩) (fun h => absurd h (Nat.not_lt.2 hb)) u1).setCell (p := ⟨b, 2, none⟩) (fun h => absurd h (Nat.not_lt.2 hb)) u2).setCell (p := ⟨b, 3, none⟩) (fun h => absurd h (Nat.not_lt.2 hb)) u3).setCell (p := ⟨b, 4, none⟩) (fun h => absurd h (Nat.not_lt.2 hb)) u4
def plainH (v : I.IV) : SH := ⟨v, none, 89, #[], 90, #[]⟩
def numbH (v : I.IV) : SH := ⟨v, none, 89, #[], 91, #[]⟩

set_option maxRecDepth 100000 in
set_option maxHeartbeats 4000000 in
theorem plain_any (v : I.IV) (es : List I.SE) (fs : List I.FE) (w : World) (h : I.ImAt w v es fs) (hl : I.LgI v es fs) :
  Calls Tryz.prog 42 #[v.val] w fun e w' => e = .returned (plainH (cutV (I.okI (I.imOf es fs)) v)).val ∧ Keep NoB w w' := by
 have HC := Lib.hid (fun W (hk : Keep NoB w W) => I.check_any v es fs W (h.keepN hk) hl (I.chkI (I.imOf es fs)) rfl)
 have hB := (Blk.new w 25 v.cells).alloc (.cells #[.slice none 0 0, .slice none 0 0, .map none, .nilFunc, .nilFunc] 72)
 have hS := Blk.new (w.alloc (.cells v.cells 25)) 72 #[.slice none 0 0, .slice none 0 0, .map none, .nilFunc, .nilFunc]
 have k0 := ((Keep.refl NoB w).alloc (.cells v.cells 25)).alloc (.cells #[.slice none 0 0, .slice none 0 0, .map none, .nilFunc, .nilFunc] 72)
 rw [World.size_alloc] at hS
 clear h hl
 obtain ⟨X, nx, cx, Y, ny, cy⟩ := v
 dsimp only [I.IV.val, I.IV.cells] at *
 have c0 := hB.cell 0
 have c1 := hB.cell 1
 simp only [List.getElem?_toArray, List.getElem?_cons_zero, List.getElem?_cons_succ] at c0 c1
 cases hok : I.okI (I.imOf es fs)
 ·rw [I.chkI_no hok] at HC
  clear hok
  go_enter Tryz.func42, Tryz.ntmps42
  go_wp2_with fail
  refine (HC.out _ k0).mono ?_
  rintro e w1 ⟨rfl, k1⟩
  have hK := keepN k0 k1
  have hB1 := hB.keep k1 id
  have hS1 := hS.keep k1 id
  have hne : w.heap.size ≠ w.heap.size + 1 := by omega
  obtain ⟨q0, q1⟩ := And.intro (hB1.cell 0) (hB1.cell 1)
  simp only [List.getElem?_toArray, List.getElem?_cons_zero, List.getElem?_cons_succ] at q0 q1
  have f1 := fun i => hB1.frozen i
  have l1 := hB1.lt
  have hB2 : Blk ((w1.setCell ⟨w.heap.size, 0, none⟩ (.slice none 0 0)).setCell ⟨w.heap.size, 1, none⟩ (.slice none 0 0)) w.heap.size 25 #[.slice none 0 0, .slice none 0 0] := (hB1.put 0 _).put 1 _
  have hS2 : Blk ((w1.setCell ⟨w.heap.size, 0, none⟩ (.slice none 0 0)).setCell ⟨w.heap.size, 1, none⟩ (.slice none 0 0)) (w.heap.size + 1) 72 #[.slice none 0 0, .slice none 0 0, .map none, .nilFunc, .nilFunc] := (hS1.far (p := ⟨w.heap.size, 0, none⟩) (fun e => hne e.symm) _).far (p := ⟨w.heap.size, 1, none⟩) (fun e => hne e.symm) _
  have hK2 : Keep NoB w ((w1.setCell ⟨w.heap.size, 0, none⟩ (.slice none 0 0)).setCell ⟨w.heap.size, 1, none⟩ (.slice none 0 0)) := (hK.setCell (p := ⟨w.heap.size, 0, none⟩) (fun h => absurd h (Nat.lt_irrefl _)) _).setCell (p := ⟨w.heap.size, 1, none⟩) (fun h => absurd h (Nat.lt_irrefl _)) _
  obtain ⟨d0, d1⟩ := And.intro (hB2.cell 0) (hB2.cell 1)
  simp only [List.getElem?_toArray, List.getElem?_cons_zero, List.getElem?_cons_succ] at d0 d1
  have s0 := hS2.cell 0
  have s1 := hS2.cell 1
  have s2 := hS2.cell 2
  have s3 := hS2.cell 3
  have s4 := hS2.cell 4
  simp only [List.getElem?_toArray, List.getElem?_cons_zero, List.getElem?_cons_succ] at s0 s1 s2 s3 s4
  have f2 := fun i => hS2.frozen i
  have l2 := hS2.lt
  generalize hW2 : (w1.setCell ⟨w.heap.size, 0, none⟩ (.slice none 0 0)).setCell ⟨w.heap.size, 1, none⟩ (.slice none 0 0) = W2 at *
  have HS3 := Lib.hid (sheet_put hS2 (.slice none 0 0) (.slice none 0 0) (.map none) (.func (.func 89) #[] #[]) (.func (.func 90) #[] #[]))
  have HK3 := Lib.hid (sheet_keep hK2 (.slice none 0 0) (.slice none 0 0) (.map none) (.func (.func 89) #[] #[]) (.func (.func 90) #[] #[]) (by omega : w.heap.size ≤ w.heap.size + 1))
  clear hB hS k0 k1 hK hB1 hS1 hB2 hS2 hK2 c0 c1 HC
  go_wp2
  have b3 := HS3.out
  have o0 := b3.cell 0
  have o1 := b3.cell 1
  have o2 := b3.cell 2
  have o3 := b3.cell 3
  have o4 := b3.cell 4
  simp only [List.getElem?_toArray, List.getElem?_cons_zero, List.getElem?_cons_succ] at o0 o1 o2 o3 o4
  refine bodyPost_ret (v := .agg #[.slice none 0 0, .slice none 0 0, .map none, .func (.func 89) #[] #[], .func (.func 90) #[] #[]]) (by simp [results, Tryz.results42, go_sem, o0, o1, o2, o3, o4]) rfl ?_
  exact ⟨rfl, HK3.out⟩
 ·rw [I.chkI_ok hok] at HC
  clear hok
  go_enter Tryz.func42, Tryz.ntmps42
  go_wp2_with fail
  refine (HC.out _ k0).mono ?_
  rintro e w1 ⟨rfl, k1⟩
  have hK2 := keepN k0 k1
  have hB1 := hB.keep k1 id
  have hS2 := hS.keep k1 id
  obtain ⟨d0, d1⟩ := And.intro (hB1.cell 0) (hB1.cell 1)
  simp only [List.getElem?_toArray, List.getElem?_cons_zero, List.getElem?_cons_succ] at d0 d1
  have s0 := hS2.cell 0
  have s1 := hS2.cell 1
  have s2 := hS2.cell 2
  have s3 := hS2.cell 3
  have s4 := hS2.cell 4
  simp only [List.getElem?_toArray, List.getElem?_cons_zero, List.getElem?_cons_succ] at s0 s1 s2 s3 s4
  have f2 := fun i => hS2.frozen i
  have l2 := hS2.lt
  have HS3 := Lib.hid (sheet_put hS2 (.slice X nx cx) (.slice Y ny cy) (.map none) (.func (.func 89) #[] #[]) (.func (.func 90) #[] #[]))
  have HK3 := Lib.hid (sheet_keep hK2 (.slice X nx cx) (.slice Y ny cy) (.map none) (.func (.func 89) #[] #[]) (.func (.func 90) #[] #[]) (by omega : w.heap.size ≤ w.heap.size + 1))
  clear hB hS k0 k1 hB1 hS2 hK2 c0 c1 HC
  go_wp2
  have b3 := HS3.out
  have o0 := b3.cell 0
  have o1 := b3.cell 1
  have o2 := b3.cell 2
  have o3 := b3.cell 3
  have o4 := b3.cell 4
  simp only [List.getElem?_toArray, List.getElem?_cons_zero, List.getElem?_cons_succ] at o0 o1 o2 o3 o4
  refine bodyPost_ret (v := .agg #[.slice X nx cx, .slice Y ny cy, .map none, .func (.func 89) #[] #[], .func (.func 90) #[] #[]]) (by simp [results, Tryz.results42, go_sem, o0, o1, o2, o3, o4]) rfl ?_
  exact ⟨rfl, HK3.out⟩

end Go.Proofs.YtgnooffedmeenaaGreatDoor.M.L
