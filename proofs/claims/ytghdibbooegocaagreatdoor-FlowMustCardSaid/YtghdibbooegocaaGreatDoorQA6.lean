/-
  Part 6 of the proofs of GLoopsRow, GReachRow, GMustRow, GNamesRow: what is laid, and what the functions that the law runs answer. Conditions: each theorem names its own.
-/
import Derived.ArgAppend
import Derived.Maps.Keyed
import Derived.Maps.Own
import Derived.Maps.OwnIn
import Derived.Maps.OwnOps
import Derived.Maps.OwnSet
import Derived.Maps.RangeWalk
import Derived.Maps.Views
import Derived.WalkArith
import Derived.Test.YtghdibbooegocaaGreatDoorQA5
namespace Go.Proofs.YtghdibbooegocaaGreatDoor.G
open Go.RowKit

def keysN (met : List (Nat × Nat)) : List Nat := met.map (·.1)
def meetOne (op : Nat → Bool) (p : Nat) (met : List (Nat × Nat)) (x : Nat) : List (Nat × Nat) := if x ∈ keysN met then met else if op x = true then met ++ [(x, p)] else met
def meetAll (op : Nat → Bool) (p : Nat) (l : List Nat) (met : List (Nat × Nat)) : List (Nat × Nat) := l.foldl (meetOne op p) met
theorem meetAll_snoc (op : Nat → Bool) (p : Nat) (l : List Nat) (x : Nat) (met : List (Nat × Nat)) : meetAll op p (l ++ [x]) met = meetOne op p (meetAll op p l met) x := by unfold meetAll; rw [List.foldl_append]; rfl

inductive Near (s : Nat → List Nat) (op : Nat → Bool) (fr : Nat) : Nat → List (Nat × Nat) → Prop
 | start : Near s op fr 0 [(fr, fr)]
 | step {k : Nat} {met : List (Nat × Nat)} {p q : Nat} : Near s op fr k met → met[k]? = some (p, q) → Near s op fr (k + 1) (meetAll op p (s p) met)

section
variable {op : Nat → Bool} {p : Nat}
theorem meetOne_new (met : List (Nat × Nat)) (x : Nat) : ∃ new, meetOne op p met x = met ++ new ∧ (∀ e ∈ new, e.2 = p ∧ e.1 = x ∧ op x = true ∧ x ∉ keysN met) ∧ new.length ≤ 1 := by
 unfold meetOne
 split
 ·exact ⟨[], by simp, by simp, by simp⟩
 ·rename_i h
  split
  ·rename_i ho
   exact ⟨[(x, p)], rfl, by simp [ho, h], by simp⟩
  ·exact ⟨[], by simp, by simp, by simp⟩
theorem meetAll_new : ∀ (l : List Nat) (met : List (Nat × Nat)), ∃ new, meetAll op p l met = met ++ new ∧ ∀ e ∈ new, e.2 = p ∧ e.1 ∈ l ∧ op e.1 = true ∧ e.1 ∉ keysN met
 | [], met => ⟨[], by simp [meetAll], by simp⟩
 | x :: r, met => by
  obtain ⟨n1, h1, h2, _⟩ := meetOne_new (op := op) (p := p) met x
  obtain ⟨n2, h3, h4⟩ := meetAll_new r (meetOne op p met x)
  refine ⟨n1 ++ n2, ?_, fun e he => ?_⟩
  ·show meetAll op p r (meetOne op p met x) = _
   rw [h3, h1, List.append_assoc]
  ·rcases List.mem_append.1 he with he | he
   ·obtain ⟨g1, g2, g3, g4⟩ := h2 e he
    exact ⟨g1, by rw [g2]; simp, by rw [g2]; exact g3, by rw [g2]; exact g4⟩
   ·obtain ⟨g1, g2, g3, g4⟩ := h4 e he
    exact ⟨g1, List.mem_cons_of_mem _ g2, g3, fun h => g4 (by rw [h1]; unfold keysN at *; rw [List.map_append]; exact List.mem_append_left _ h)⟩
theorem keys_append (a b : List (Nat × Nat)) : keysN (a ++ b) = keysN a ++ keysN b := by unfold keysN; rw [List.map_append]
theorem meetOne_mem (met : List (Nat × Nat)) (x y : Nat) : y ∈ keysN (meetOne op p met x) ↔ y ∈ keysN met ∨ (y = x ∧ op x = true) := by
 unfold meetOne
 split
 ·rename_i h
  exact ⟨.inl, fun g => g.elim id fun g => g.1 ▸ h⟩
 ·split
  ·rename_i ho
   rw [keys_append]
   simp [keysN, ho]
  ·rename_i ho
   exact ⟨.inl, fun g => g.elim id fun g => absurd g.2 ho⟩
theorem meetAll_mem : ∀ (l : List Nat) (met : List (Nat × Nat)) (y : Nat), y ∈ keysN (meetAll op p l met) ↔ y ∈ keysN met ∨ (y ∈ l ∧ op y = true)
 | [], met, y => by simp [meetAll]
 | x :: r, met, y => by
  show y ∈ keysN (meetAll op p r (meetOne op p met x)) ↔ _
  rw [meetAll_mem r, meetOne_mem, List.mem_cons]
  constructor
  ·rintro ((h | ⟨rfl, h⟩) | ⟨h1, h2⟩)
   ·exact .inl h
   ·exact .inr ⟨.inl rfl, h⟩
   ·exact .inr ⟨.inr h1, h2⟩
  ·rintro (h | ⟨rfl | h1, h2⟩)
   ·exact .inl (.inl h)
   ·exact .inl (.inr ⟨rfl, h2⟩)
   ·exact .inr ⟨h1, h2⟩
theorem meetOne_nodup {met : List (Nat × Nat)} (h : (keysN met).Nodup) (x : Nat) : (keysN (meetOne op p met x)).Nodup := by
 unfold meetOne
 split
 ·exact h
 ·rename_i hx
  split
  ·rw [keys_append]
   refine List.nodup_append.2 ⟨h, by simp [keysN], fun a ha b hb => ?_⟩
   simp [keysN] at hb
   subst hb
   exact fun e => hx (e ▸ ha)
  ·exact h
theorem meetAll_nodup : ∀ (l : List Nat) {met : List (Nat × Nat)}, (keysN met).Nodup → (keysN (meetAll op p l met)).Nodup
 | [], _, h => h
 | x :: r, _, h => meetAll_nodup r (meetOne_nodup h x)
theorem meetAll_prefix (l : List Nat) (met : List (Nat × Nat)) : met <+: meetAll op p l met := by
 obtain ⟨new, h, _⟩ := meetAll_new (op := op) (p := p) l met
 exact ⟨new, h.symm⟩
end

section
variable {s : Nat → List Nat} {op : Nat → Bool} {fr k : Nat} {met : List (Nat × Nat)}
theorem Near.head (h : Near s op fr k met) : met[0]? = some (fr, fr) := by
 induction h with
 | start => rfl
 | @step k met p q _ _ ih =>
  obtain ⟨new, h, _⟩ := meetAll_new (op := op) (p := p) (s p) met
  rw [h, List.getElem?_append_left (List.getElem?_eq_some_iff.1 ih).1]; exact ih
theorem Near.nodup (h : Near s op fr k met) : (keysN met).Nodup := by
 induction h with
 | start => simp [keysN]
 | step _ _ ih => exact meetAll_nodup _ ih
theorem Near.le (h : Near s op fr k met) : k ≤ met.length := by
 induction h with
 | start => simp
 | @step k met p q _ hk ih =>
  obtain ⟨new, h, _⟩ := meetAll_new (op := op) (p := p) (s p) met
  have := (List.getElem?_eq_some_iff.1 hk).1
  rw [h, List.length_append]
  omega
theorem Near.lt {n : Nat} (h : Near s op fr k met) (hf : fr < n) (hs : ∀ i a, i < n → a ∈ s i → a < n) : ∀ y ∈ keysN met, y < n := by
 induction h with
 | start => intro y hy; simp [keysN] at hy; omega
 | @step k met p q _ hk ih =>
  intro y hy
  rcases (meetAll_mem _ _ y).1 hy with hy | ⟨hy, _⟩
  ·exact ih y hy
  ·exact hs p y (ih p (List.mem_map.2 ⟨_, List.mem_of_getElem? hk, rfl⟩)) hy
theorem Near.len {n : Nat} (h : Near s op fr k met) (hf : fr < n) (hs : ∀ i a, i < n → a ∈ s i → a < n) : met.length ≤ n := by
 have := nodup_len n (keysN met) h.nodup (h.lt hf hs)
 simpa [keysN] using this
theorem Near.way (h : Near s op fr k met) : ∀ y ∈ keysN met, ∃ l, Way s [fr] y l ∧ ∀ z ∈ l, z = fr ∨ op z = true := by
 induction h with
 | start => intro y hy; simp [keysN] at hy; subst hy; exact ⟨[y], .start (by simp), fun z hz => by rw [List.mem_singleton] at hz; exact .inl hz⟩
 | @step k met p q _ hk ih =>
  intro y hy
  rcases (meetAll_mem _ _ y).1 hy with hy | ⟨hy, ho⟩
  ·exact ih y hy
  ·obtain ⟨l, hw, hl⟩ := ih p (List.mem_map.2 ⟨_, List.mem_of_getElem? hk, rfl⟩)
   refine ⟨y :: l, .step hw hy, fun z hz => ?_⟩
   rcases List.mem_cons.1 hz with rfl | hz
   ·exact .inr ho
   ·exact hl z hz
theorem Near.closed (h : Near s op fr k met) : ∀ (j : Nat) (e : Nat × Nat), j < k → met[j]? = some e → ∀ x ∈ s e.1, x ∈ keysN met ∨ op x = false := by
 induction h with
 | start => intro j e hj; omega
 | @step k met p q hn hk ih =>
  intro j e hj he x hx
  obtain ⟨new, hne, _⟩ := meetAll_new (op := op) (p := p) (s p) met
  have hkl := (List.getElem?_eq_some_iff.1 hk).1
  rw [hne, List.getElem?_append_left (by omega)] at he
  rcases Nat.lt_or_eq_of_le (Nat.le_of_lt_succ hj) with hlt | rfl
  ·rcases ih j e hlt he x hx with h | h
   ·exact .inl ((meetAll_mem _ _ _).2 (.inl h))
   ·exact .inr h
  ·rw [hk] at he
   cases he
   cases ho : op x with
   | false => exact .inr rfl
   | true => exact .inl ((meetAll_mem _ _ _).2 (.inr ⟨hx, ho⟩))
theorem Near.closed_all (h : Near s op fr met.length met) {p : Nat} (hp : p ∈ keysN met) : ∀ x ∈ s p, x ∈ keysN met ∨ op x = false := by
 obtain ⟨e, he, rfl⟩ := List.mem_map.1 hp
 obtain ⟨j, hj⟩ := List.getElem?_of_mem he
 exact h.closed j e (List.getElem?_eq_some_iff.1 hj).1 hj
theorem Near.fr_mem (h : Near s op fr k met) : fr ∈ keysN met := List.mem_map.2 ⟨_, List.mem_of_getElem? h.head, rfl⟩
theorem Near.snd (h : Near s op fr k met) : ∀ e ∈ met, e.2 ∈ keysN met := by
 induction h with
 | start => intro e he; simp at he; subst he; simp [keysN]
 | @step k met p q hn hk ih =>
  obtain ⟨new, hne, hnew⟩ := meetAll_new (op := op) (p := p) (s p) met
  intro e he
  rw [hne] at he ⊢
  rw [keys_append]
  rcases List.mem_append.1 he with he | he
  ·exact List.mem_append_left _ (ih e he)
  ·rw [(hnew e he).1]
   exact List.mem_append_left _ (List.mem_map.2 ⟨_, List.mem_of_getElem? hk, rfl⟩)
theorem Near.all (h : Near s (fun _ => true) fr met.length met) {y : Nat} : y ∈ keysN met ↔ ∃ l, Way s [fr] y l := by
 constructor
 ·intro hy
  obtain ⟨l, hw, _⟩ := h.way y hy
  exact ⟨l, hw⟩
 ·rintro ⟨l, hw⟩
  induction hw with
  | start hs => rw [List.mem_singleton] at hs; subst hs; exact h.fr_mem
  | @step a b l hw hb ih =>
   rcases h.closed_all ih b hb with g | g
   ·exact g
   ·cases g

/-! ### How deep each is -/

structure Deep (s : Nat → List Nat) (op : Nat → Bool) (fr k : Nat) (met : List (Nat × Nat)) (D : Nat → Nat) : Prop where
 zero : D fr = 0
 par : ∀ (i : Nat) (e : Nat × Nat), met[i]? = some e → (i = 0 ∧ e = (fr, fr)) ∨ (e.1 ∈ s e.2 ∧ D e.1 = D e.2 + 1 ∧ e.2 ∈ keysN (met.take i))
 mono : ∀ (i j : Nat) (e f : Nat × Nat), i ≤ j → met[i]? = some e → met[j]? = some f → D e.1 ≤ D f.1
 next : ∀ (j : Nat) (e f : Nat × Nat), met[j]? = some e → met[k]? = some f → D e.1 ≤ D f.1 + 1
 edge : ∀ (j : Nat) (e : Nat × Nat), j < k → met[j]? = some e → ∀ x ∈ s e.1, op x = true → x ∈ keysN met ∧ D x ≤ D e.1 + 1
theorem mem_keys_iff {y : Nat} : y ∈ keysN met ↔ ∃ (i : Nat) (e : Nat × Nat), met[i]? = some e ∧ e.1 = y := by
 unfold keysN
 rw [List.mem_map]
 constructor
 ·rintro ⟨e, he, h⟩
  obtain ⟨i, hi⟩ := List.getElem?_of_mem he
  exact ⟨i, e, hi, h⟩
 ·rintro ⟨i, e, hi, h⟩
  exact ⟨e, List.mem_of_getElem? hi, h⟩
theorem Near.deep (h : Near s op fr k met) : ∃ D, Deep s op fr k met D := by
 induction h with
 | start =>
  refine ⟨fun _ => 0, rfl, fun i e hi => ?_, fun _ _ _ _ _ _ _ => Nat.le_refl _, fun _ _ _ _ _ => by omega, fun j e hj => by omega⟩
  have hl := (List.getElem?_eq_some_iff.1 hi).1
  have : i = 0 := by simpa using hl
  subst this
  exact .inl ⟨rfl, by simpa using hi.symm⟩
 | @step k met p q hn hk ih =>
  obtain ⟨D, h0, h1, h2, h3, h4⟩ := ih
  obtain ⟨new, hne, hnew⟩ := meetAll_new (op := op) (p := p) (s p) met
  have hkl := (List.getElem?_eq_some_iff.1 hk).1
  have hold : ∀ {i : Nat} {e : Nat × Nat}, met[i]? = some e → e.1 ∈ keysN met := fun hi => mem_keys_iff.2 ⟨_, _, hi, rfl⟩
  have hpm : p ∈ keysN met := hold hk
  obtain ⟨D', hD'⟩ : ∃ D' : Nat → Nat, D' = fun y => if y ∈ keysN met then D y else D p + 1 := ⟨_, rfl⟩
  have dold : ∀ {y : Nat}, y ∈ keysN met → D' y = D y := fun hy => by rw [hD']; exact if_pos hy
  have dnew : ∀ {y : Nat}, y ∉ keysN met → D' y = D p + 1 := fun hy => by rw [hD']; exact if_neg hy
  have part : ∀ {i : Nat} {e : Nat × Nat}, (met ++ new)[i]? = some e → (i < met.length ∧ met[i]? = some e) ∨ (met.length ≤ i ∧ e ∈ new) := fun {i e} hi => by
   rcases Nat.lt_or_ge i met.length with h | h
   ·rw [List.getElem?_append_left h] at hi; exact .inl ⟨h, hi⟩
   ·rw [List.getElem?_append_right h] at hi; exact .inr ⟨h, List.mem_of_getElem? hi⟩
  have dD : ∀ {e : Nat × Nat}, e ∈ new → D' e.1 = D p + 1 := fun he => dnew (hnew _ he).2.2.2
  refine ⟨D', ?_, fun i e hi => ?_, fun i j e f hij hi hj => ?_, fun j e f hj hf => ?_, fun j e hj he x hx ho => ?_⟩
  ·rw [dold hn.fr_mem, h0]
  ·rw [hne] at hi ⊢
   rcases part hi with ⟨hl, hi⟩ | ⟨hl, he⟩
   ·rcases h1 i e hi with h | ⟨a1, a2, a3⟩
    ·exact .inl h
    ·have hm : e.2 ∈ keysN met := by
      obtain ⟨i', e', hi', he'⟩ := mem_keys_iff.1 a3
      rw [List.getElem?_take] at hi'
      split at hi'
      ·rw [← he']; exact hold hi'
      ·cases hi'
     refine .inr ⟨a1, by rw [dold (hold hi), dold hm, a2], ?_⟩
     rw [List.take_append_of_le_length (by omega)]
     exact a3
   ·obtain ⟨g1, g2, g3, g4⟩ := hnew e he
    refine .inr ⟨by rw [g1]; exact g2, by rw [dD he, g1, dold hpm], ?_⟩
    rw [g1]
    obtain ⟨i', e', hi', he'⟩ := mem_keys_iff.1 hpm
    refine mem_keys_iff.2 ⟨i', e', ?_, he'⟩
    have := (List.getElem?_eq_some_iff.1 hi').1
    rw [List.getElem?_take, if_pos (by omega), List.getElem?_append_left this]
    exact hi'
  ·rw [hne] at hi hj
   rcases part hi with ⟨hl, hi⟩ | ⟨hl, he⟩
   ·rcases part hj with ⟨hl2, hj⟩ | ⟨hl2, hf⟩
    ·rw [dold (hold hi), dold (hold hj)]; exact h2 i j e f hij hi hj
    ·rw [dold (hold hi), dD hf]; exact h3 i e (p, q) hi hk
   ·rcases part hj with ⟨hl2, hj⟩ | ⟨hl2, hf⟩
    ·omega
    ·rw [dD he, dD hf]; exact Nat.le_refl _
  ·rw [hne] at hj hf
   rcases part hf with ⟨hl2, hf⟩ | ⟨hl2, hf⟩
   ·have hpf := h2 k (k + 1) (p, q) f (by omega) hk hf
    rw [dold (hold hf)]
    rcases part hj with ⟨hl, hj⟩ | ⟨hl, he⟩
    ·rw [dold (hold hj)]
     have := h3 j e (p, q) hj hk
     simp only at *
     omega
    ·rw [dD he]; simp only at *; omega
   ·rw [dD hf]
    rcases part hj with ⟨hl, hj⟩ | ⟨hl, he⟩
    ·rw [dold (hold hj)]
     have := h3 j e (p, q) hj hk
     simp only at *
     omega
    ·rw [dD he]; omega
  ·rw [hne, List.getElem?_append_left (by omega)] at he
   rcases Nat.lt_or_eq_of_le (Nat.le_of_lt_succ hj) with hlt | rfl
   ·obtain ⟨a1, a2⟩ := h4 j e hlt he x hx ho
    exact ⟨(meetAll_mem _ _ _).2 (.inl a1), by rw [dold a1, dold (hold he)]; exact a2⟩
   ·rw [hk] at he
    cases he
    refine ⟨(meetAll_mem _ _ _).2 (.inr ⟨hx, ho⟩), ?_⟩
    rw [dold hpm]
    by_cases hxm : x ∈ keysN met
    ·rw [dold hxm]
     obtain ⟨i', e', hi', rfl⟩ := mem_keys_iff.1 hxm
     exact h3 i' e' (p, q) hi' hk
    ·rw [dnew hxm]
     exact Nat.le_refl _
theorem Deep.dist {D : Nat → Nat} (h : Near s (fun _ => true) fr met.length met) (hd : Deep s (fun _ => true) fr met.length met D) : ∀ (y : Nat) (l : List Nat), Way s [fr] y l → D y + 1 ≤ l.length := by
 intro y l hw
 induction hw with
 | start hs => rw [List.mem_singleton] at hs; subst hs; rw [hd.zero]; exact Nat.le_refl _
 | @step a b l hw hb ih =>
  have ha : a ∈ keysN met := h.all.2 ⟨_, hw⟩
  obtain ⟨i, e, hi, rfl⟩ := mem_keys_iff.1 ha
  have := (hd.edge i e (List.getElem?_eq_some_iff.1 hi).1 hi b hb rfl).2
  rw [List.length_cons]
  omega

/-! ### What a map of places tells -/

def lookN (met : List (Nat × Nat)) (y : Int) : Option Nat := (met.find? fun e => decide ((e.1 : Int) = y)).map (·.2)
theorem look_some {y : Int} {v : Nat} (h : lookN met y = some v) : ∃ (i : Nat) (e : Nat × Nat), met[i]? = some e ∧ (e.1 : Int) = y ∧ e.2 = v := by
 unfold lookN at h
 cases hf : met.find? fun e => decide ((e.1 : Int) = y) with
 | none => rw [hf] at h; cases h
 | some e =>
  rw [hf] at h
  have h1 := List.find?_some hf
  obtain ⟨i, hi⟩ := List.getElem?_of_mem (List.mem_of_find?_eq_some hf)
  exact ⟨i, e, hi, of_decide_eq_true h1, by simpa using h⟩
theorem look_none {y : Int} : lookN met y = none ↔ ∀ e ∈ met, (e.1 : Int) ≠ y := by
 unfold lookN
 rw [Option.map_eq_none_iff, List.find?_eq_none]
 exact ⟨fun h e he => by simpa using h e he, fun h e he => by simpa using h e he⟩
theorem look_nat {y : Nat} : lookN met (y : Int) = none ↔ y ∉ keysN met := by
 rw [look_none]
 unfold keysN
 rw [List.mem_map]
 exact ⟨fun h ⟨e, he, h2⟩ => h e he (by rw [h2]), fun h e he h2 => h ⟨e, he, by omega⟩⟩
def setO (f : Int → Option Nat) (x : Int) (v : Nat) : Int → Option Nat := fun y => if y = x then some v else f y
theorem look_snoc {x v : Nat} (h : x ∉ keysN met) (y : Int) : lookN (met ++ [(x, v)]) y = setO (lookN met) (x : Int) v y := by
 unfold setO
 by_cases e : y = (x : Int)
 ·subst e
  rw [if_pos rfl]
  have := look_nat.2 h
  unfold lookN at *
  rw [Option.map_eq_none_iff] at this
  rw [List.find?_append, this]
  simp
 ·rw [if_neg e]
  unfold lookN
  rw [List.find?_append]
  cases hf : met.find? fun e => decide ((e.1 : Int) = y) with
  | some _ => rfl
  | none =>
   have : decide ((x : Int) = y) = false := decide_eq_false fun h => e h.symm
   simp [this]
theorem nodup_at {l : List Nat} (hd : l.Nodup) {i j x : Nat} (hi : l[i]? = some x) (hj : l[j]? = some x) : i = j := by
 obtain ⟨h1, e1⟩ := List.getElem?_eq_some_iff.1 hi
 obtain ⟨h2, e2⟩ := List.getElem?_eq_some_iff.1 hj
 have hp := List.pairwise_iff_getElem.1 hd
 rcases Nat.lt_trichotomy i j with h | h | h
 ·exact absurd (e1.trans e2.symm) (hp i j h1 h2 h)
 ·exact h
 ·exact absurd (e2.trans e1.symm) (hp j i h2 h1 h)
theorem look_mem {i : Nat} {e : Nat × Nat} (hd : (keysN met).Nodup) (hi : met[i]? = some e) : lookN met (e.1 : Int) = some e.2 := by
 cases hl : lookN met (e.1 : Int) with
 | none => exact absurd (mem_keys_iff.2 ⟨i, e, hi, rfl⟩) (look_nat.1 hl)
 | some v =>
  obtain ⟨j, f, hj, h1, h2⟩ := look_some hl
  have hij : i = j := by
   have h3 : (keysN met)[i]? = some e.1 := by unfold keysN; rw [List.getElem?_map, hi]; rfl
   have h4 : (keysN met)[j]? = some f.1 := by unfold keysN; rw [List.getElem?_map, hj]; rfl
   have h5 : f.1 = e.1 := by omega
   rw [h5] at h4
   exact nodup_at hd h3 h4
  subst hij
  rw [hi] at hj
  cases hj
  rw [h2]
end

/-! ### A nearest way, taken back from its end -/
section
variable {s : Nat → List Nat} {met : List (Nat × Nat)} {D : Nat → Nat}
theorem Deep.back (h : Near s (fun _ => true) 0 met.length met) (hd : Deep s (fun _ => true) 0 met.length met D) {a : Nat} (ha : a ∈ keysN met) (h0 : a ≠ 0) : ∃ q, lookN met (a : Int) = some q ∧ q ∈ keysN met ∧ a ∈ s q ∧ D a = D q + 1 := by
 obtain ⟨i, e, hi, rfl⟩ := mem_keys_iff.1 ha
 refine ⟨e.2, look_mem h.nodup hi, ?_⟩
 rcases hd.par i e hi with ⟨_, h1⟩ | ⟨h1, h2, h3⟩
 ·rw [h1] at h0; exact absurd rfl h0
 ·refine ⟨?_, h1, h2⟩
  obtain ⟨i', e', hi', he'⟩ := mem_keys_iff.1 h3
  rw [List.getElem?_take] at hi'
  split at hi'
  ·exact mem_keys_iff.2 ⟨i', e', hi', he'⟩
  ·cases hi'
structure Back (s : Nat → List Nat) (met : List (Nat × Nat)) (D : Nat → Nat) (at0 a : Nat) (wl : List Nat) : Prop where
 mem : a ∈ keysN met
 way : ∀ t, Way s [0] a (a :: t) → Way s [0] at0 (wl ++ t)
 len : wl.length + D a = D at0 + 1
 pos : wl ≠ []
theorem Back.start {a : Nat} (ha : a ∈ keysN met) : Back s met D a a [a] := ⟨ha, fun t h => h, by simp; omega, by simp⟩
theorem Back.step {at0 a q : Nat} {wl : List Nat} (h : Back s met D at0 a wl) (hq : q ∈ keysN met) (ha : a ∈ s q) (hD : D a = D q + 1) : Back s met D at0 q (wl ++ [q]) :=
 ⟨hq, fun t ht => by rw [List.append_assoc]; exact h.way _ (.step ht ha), by have := h.len; rw [List.length_append]; simp; omega, by simp⟩
theorem Back.done {at0 : Nat} {wl : List Nat} (h0 : D 0 = 0) (h : Back s met D at0 0 wl) : Way s [0] at0 wl ∧ wl.length = D at0 + 1 := by
 have := h.way [] (.start (by simp))
 rw [List.append_nil] at this
 exact ⟨this, by have := h.len; omega⟩
end
end Go.Proofs.YtghdibbooegocaaGreatDoor.G

namespace Go.Proofs.YtghdibbooegocaaGreatDoor.G
open Go.RowKit

def posL (wl : List Nat) (y : Nat) : Nat := (lookN wl.zipIdx (y : Int)).getD 0
section
variable {wl : List Nat}
theorem zip_at (i : Nat) : wl.zipIdx[i]? = wl[i]?.map fun y => (y, i) := by rw [List.getElem?_zipIdx]; simp
theorem zip_keys : keysN wl.zipIdx = wl := by unfold keysN; simp
theorem pos_at (hd : wl.Nodup) {i y : Nat} (h : wl[i]? = some y) : posL wl y = i := by
 unfold posL
 rw [look_mem (i := i) (e := (y, i)) (by rw [zip_keys]; exact hd) (by rw [zip_at, h]; rfl)]
 rfl
theorem pos_off {y : Nat} (h : y ∉ wl) : posL wl y = 0 := by
 unfold posL
 rw [look_nat.2 (by rw [zip_keys]; exact h)]
 rfl
theorem at_inj (hd : wl.Nodup) {i j y : Nat} (hi : wl[i]? = some y) (hj : wl[j]? = some y) : i = j := by rw [← pos_at hd hi, pos_at hd hj]

def farR (wl : List Nat) (f : Nat) (l : List Nat) : Nat := l.foldl (fun f x => max f (posL wl x)) f
def farS (s : Nat → List Nat) (wl : List Nat) (f : Nat) (l : List Nat) : Nat := l.foldl (fun f p => farR wl f (s p)) f
theorem farR_snoc (f : Nat) (l : List Nat) (x : Nat) : farR wl f (l ++ [x]) = max (farR wl f l) (posL wl x) := by unfold farR; rw [List.foldl_append]; rfl
theorem farS_snoc (s : Nat → List Nat) (f : Nat) (l : List Nat) (x : Nat) : farS s wl f (l ++ [x]) = farR wl (farS s wl f l) (s x) := by unfold farS; rw [List.foldl_append]; rfl
theorem farR_ge : ∀ (l : List Nat) (f : Nat), f ≤ farR wl f l ∧ ∀ x ∈ l, posL wl x ≤ farR wl f l
 | [], f => ⟨Nat.le_refl _, by simp⟩
 | x :: r, f => by
  obtain ⟨h1, h2⟩ := farR_ge r (max f (posL wl x))
  show f ≤ farR wl (max f (posL wl x)) r ∧ ∀ y ∈ x :: r, posL wl y ≤ farR wl (max f (posL wl x)) r
  refine ⟨by omega, fun y hy => ?_⟩
  rcases List.mem_cons.1 hy with rfl | hy
  ·omega
  ·exact h2 y hy
theorem farR_is : ∀ (l : List Nat) (f : Nat), farR wl f l = f ∨ ∃ x ∈ l, farR wl f l = posL wl x
 | [], f => .inl rfl
 | x :: r, f => by
  have h := farR_is r (max f (posL wl x))
  have e : farR wl f (x :: r) = farR wl (max f (posL wl x)) r := rfl
  rw [e]
  rcases h with h | ⟨y, hy, h⟩
  ·rw [h]
   rcases Nat.le_total f (posL wl x) with g | g
   ·exact .inr ⟨x, by simp, by omega⟩
   ·exact .inl (by omega)
  ·exact .inr ⟨y, by simp [hy], h⟩
theorem farS_ge {s : Nat → List Nat} : ∀ (l : List Nat) (f : Nat), f ≤ farS s wl f l ∧ ∀ p ∈ l, ∀ x ∈ s p, posL wl x ≤ farS s wl f l
 | [], f => ⟨Nat.le_refl _, by simp⟩
 | p :: r, f => by
  obtain ⟨h1, h2⟩ := farS_ge (s := s) r (farR wl f (s p))
  obtain ⟨h3, h4⟩ := farR_ge (wl := wl) (s p) f
  have e : farS s wl f (p :: r) = farS s wl (farR wl f (s p)) r := rfl
  rw [e]
  refine ⟨by omega, fun q hq x hx => ?_⟩
  rcases List.mem_cons.1 hq with rfl | hq
  ·have := h4 x hx; omega
  ·exact h2 q hq x hx
theorem farS_is {s : Nat → List Nat} : ∀ (l : List Nat) (f : Nat), farS s wl f l = f ∨ ∃ p ∈ l, ∃ x ∈ s p, farS s wl f l = posL wl x
 | [], f => .inl rfl
 | p :: r, f => by
  have e : farS s wl f (p :: r) = farS s wl (farR wl f (s p)) r := rfl
  rw [e]
  rcases farS_is (s := s) r (farR wl f (s p)) with h | ⟨q, hq, x, hx, h⟩
  ·rw [h]
   rcases farR_is (wl := wl) (s p) f with g | ⟨x, hx, g⟩
   ·exact .inl g
   ·exact .inr ⟨p, by simp, x, hx, g⟩
  ·exact .inr ⟨q, by simp [hq], x, hx, h⟩
theorem pos_le (hl : 0 < wl.length) (y : Nat) : posL wl y < wl.length := by
 unfold posL
 cases h : lookN wl.zipIdx (y : Int) with
 | none => exact hl
 | some v =>
  obtain ⟨i, e, hi, _, h2⟩ := look_some h
  have hlt := (List.getElem?_eq_some_iff.1 hi).1
  rw [zip_at] at hi
  obtain ⟨z, _, hz⟩ := Option.map_eq_some_iff.1 hi
  subst hz
  subst h2
  simpa using hlt
theorem farS_lt {s : Nat → List Nat} (hl : 0 < wl.length) {f : Nat} (hf : f < wl.length) (l : List Nat) : farS s wl f l < wl.length := by
 rcases farS_is (s := s) (wl := wl) l f with h | ⟨p, _, x, _, h⟩
 ·rw [h]; exact hf
 ·rw [h]; exact pos_le hl x
end

/-! ### Ways put together -/
section
variable {s : Nat → List Nat}
theorem way_join {src : List Nat} {a b : Nat} {l m : List Nat} (h : Way s src a l) (h' : Way s [a] b m) : ∃ r, Way s src b r ∧ ∀ z ∈ r, z ∈ l ∨ z ∈ m := by
 induction h' with
 | start hs => rw [List.mem_singleton] at hs; subst hs; exact ⟨l, h, fun z hz => .inl hz⟩
 | @step b c m _ hc ih =>
  obtain ⟨r, hr, h2⟩ := ih
  refine ⟨c :: r, .step hr hc, fun z hz => ?_⟩
  rcases List.mem_cons.1 hz with rfl | hz
  ·exact .inr (by simp)
  ·exact (h2 z hz).elim .inl fun h => .inr (by simp [h])
structure Path (s : Nat → List Nat) (wl : List Nat) (fr at0 : Nat) : Prop where
 pos : 0 < wl.length
 first : wl[0]? = some fr
 last : wl[wl.length - 1]? = some at0
 edge : ∀ i x y, wl[i]? = some x → wl[i + 1]? = some y → y ∈ s x
 nodup : wl.Nodup
theorem path_of {fr a : Nat} {l : List Nat} (h : Way s [fr] a l) (hd : l.Nodup) : Path s l.reverse fr a := by
 have key : ∀ (a : Nat) (l : List Nat), Way s [fr] a l → (∃ r, l.reverse = fr :: r) ∧ (∃ r, l.reverse = r ++ [a]) ∧ ∀ (i x y : Nat), l.reverse[i]? = some x → l.reverse[i + 1]? = some y → y ∈ s x := by
  intro a l h
  induction h with
  | start hs =>
   rw [List.mem_singleton] at hs
   subst hs
   exact ⟨⟨[], rfl⟩, ⟨[], rfl⟩, fun i x y _ hy => by simp at hy⟩
  | @step a b l hw hb ih =>
   obtain ⟨⟨r1, e1⟩, ⟨r2, e2⟩, e3⟩ := ih
   refine ⟨⟨r1 ++ [b], by rw [List.reverse_cons, e1]; rfl⟩, ⟨l.reverse, by rw [List.reverse_cons]⟩, fun i x y hx hy => ?_⟩
   rw [List.reverse_cons] at hx hy
   rcases Nat.lt_trichotomy (i + 1) l.reverse.length with h | h | h
   ·rw [List.getElem?_append_left (by omega)] at hx
    rw [List.getElem?_append_left h] at hy
    exact e3 i x y hx hy
   ·rw [List.getElem?_append_left (by omega)] at hx
    rw [List.getElem?_append_right (by omega), show i + 1 - l.reverse.length = 0 by omega] at hy
    have hby : b = y := by simpa using hy
    subst hby
    rw [e2] at hx h
    rw [List.length_append, List.length_singleton] at h
    rw [List.getElem?_append_right (by omega), show i - r2.length = 0 by omega] at hx
    have hax : a = x := by simpa using hx
    subst hax
    exact hb
   ·rw [List.getElem?_append_right (by omega)] at hy
    have h3 : 1 ≤ i + 1 - l.reverse.length := by omega
    rw [List.getElem?_eq_none (by rw [List.length_singleton]; exact h3)] at hy
    cases hy
 obtain ⟨⟨r1, e1⟩, ⟨r2, e2⟩, e3⟩ := key a l h
 refine ⟨by rw [e1]; simp, by rw [e1]; rfl, ?_, e3, ?_⟩
 ·rw [e2, List.length_append]
  simp
 ·exact List.pairwise_reverse.2 (hd.imp fun h e => h e.symm)
variable {wl : List Nat} {fr at0 : Nat}
theorem Path.seg (h : Path s wl fr at0) {j x : Nat} (hj : wl[j]? = some x) : ∀ (d y : Nat), wl[j + d]? = some y → ∃ l, Way s [x] y l ∧ ∀ z ∈ l, ∃ t, j ≤ t ∧ t ≤ j + d ∧ wl[t]? = some z
 | 0, y, hy => by
  rw [Nat.add_zero, hj] at hy
  cases hy
  exact ⟨[x], .start (by simp), fun z hz => by rw [List.mem_singleton] at hz; subst hz; exact ⟨j, Nat.le_refl _, by omega, hj⟩⟩
 | d + 1, y, hy => by
  have hlt := (List.getElem?_eq_some_iff.1 hy).1
  have hm : wl[j + d]? = some wl[j + d] := List.getElem?_eq_getElem (by omega)
  obtain ⟨l, hw, hl⟩ := Path.seg h hj d _ hm
  refine ⟨y :: l, .step hw (h.edge (j + d) _ _ hm hy), fun z hz => ?_⟩
  rcases List.mem_cons.1 hz with rfl | hz
  ·exact ⟨j + d + 1, by omega, by omega, hy⟩
  ·obtain ⟨t, t1, t2, t3⟩ := hl z hz
   exact ⟨t, t1, by omega, t3⟩

structure Nar (s : Nat → List Nat) (wl : List Nat) (V : Nat → Prop) (i far : Nat) : Prop where
 off : ∀ q, V q → q ∉ wl
 way : ∀ q, V q → ∃ a wa, a < i ∧ wl[a]? = some wa ∧ ∃ l, Way s [wa] q l ∧ ∀ z ∈ l, z = wa ∨ z ∉ wl
 next : ∀ q, (V q ∨ ∃ a, a < i ∧ wl[a]? = some q) → ∀ x ∈ s q, V x ∨ ∃ j, wl[j]? = some x ∧ j ≤ far
 far : far = 0 ∨ ∃ a wa x, a < i ∧ wl[a]? = some wa ∧ wl[far]? = some x ∧ ∃ l, Way s [wa] x l ∧ ∀ z ∈ l, z = wa ∨ z = x ∨ z ∉ wl
theorem Nar.start (s : Nat → List Nat) (wl : List Nat) : Nar s wl (fun _ => False) 0 0 :=
 ⟨fun _ h => h.elim, fun _ h => h.elim, fun q h => by rcases h with h | ⟨a, h, _⟩; exact h.elim; omega, .inl rfl⟩
variable {V : Nat → Prop} {i far : Nat}
theorem Nar.step (hp : Path s wl fr at0) (h : Nar s wl V i far) {p : Nat} (hi : wl[i]? = some p) {op : Nat → Bool} {met : List (Nat × Nat)} (hm : Near s op p met.length met) (ho : ∀ y, op y = true ↔ y ∉ wl ∧ ¬ V y) :
  Nar s wl (fun y => V y ∨ (y ∈ keysN met ∧ y ∉ wl)) (i + 1) (farS s wl far (keysN met)) := by
 obtain ⟨g1, g2⟩ := farS_ge (s := s) (wl := wl) (keysN met) far
 refine ⟨?_, ?_, ?_, ?_⟩
 ·rintro q (hq | ⟨_, hq⟩)
  ·exact h.off q hq
  ·exact hq
 ·rintro q (hq | ⟨hq, _⟩)
  ·obtain ⟨a, wa, a1, a2, a3⟩ := h.way q hq
   exact ⟨a, wa, by omega, a2, a3⟩
  ·obtain ⟨l, hw, hl⟩ := hm.way q hq
   exact ⟨i, p, by omega, hi, l, hw, fun z hz => (hl z hz).elim .inl fun e => .inr ((ho z).1 e).1⟩
 ·intro q hq x hx
  have hnew : q ∈ keysN met → (V x ∨ (x ∈ keysN met ∧ x ∉ wl)) ∨ ∃ j, wl[j]? = some x ∧ j ≤ farS s wl far (keysN met) := fun hqm => by
   by_cases hw : x ∈ wl
   ·obtain ⟨j, hj⟩ := List.getElem?_of_mem hw
    refine .inr ⟨j, hj, ?_⟩
    have := g2 q hqm x hx
    rw [pos_at hp.nodup hj] at this
    exact this
   ·rcases hm.closed_all hqm x hx with e | e
    ·exact .inl (.inr ⟨e, hw⟩)
    ·by_cases hv : V x
     ·exact .inl (.inl hv)
     ·rw [(ho x).2 ⟨hw, hv⟩] at e; cases e
  rcases hq with (hq | ⟨hq, _⟩) | ⟨a, ha, hq⟩
  ·rcases h.next q (.inl hq) x hx with e | ⟨j, e, hj⟩
   ·exact .inl (.inl e)
   ·exact .inr ⟨j, e, by omega⟩
  ·exact hnew hq
  ·rcases Nat.lt_or_eq_of_le (Nat.le_of_lt_succ ha) with hlt | rfl
   ·rcases h.next q (.inr ⟨a, hlt, hq⟩) x hx with e | ⟨j, e, hj⟩
    ·exact .inl (.inl e)
    ·exact .inr ⟨j, e, by omega⟩
   ·rw [hi] at hq
    cases hq
    exact hnew hm.fr_mem
 ·rcases farS_is (s := s) (wl := wl) (keysN met) far with e | ⟨q, hq, x, hx, e⟩
  ·rw [e]
   rcases h.far with h0 | ⟨a, wa, x, a1, a2⟩
   ·exact .inl h0
   ·exact .inr ⟨a, wa, x, by omega, a2⟩
  ·rw [e]
   by_cases hw : x ∈ wl
   ·obtain ⟨j, hj⟩ := List.getElem?_of_mem hw
    rw [pos_at hp.nodup hj]
    obtain ⟨l, hwy, hl⟩ := hm.way q hq
    refine .inr ⟨i, p, x, by omega, hi, hj, x :: l, .step hwy hx, fun z hz => ?_⟩
    rcases List.mem_cons.1 hz with rfl | hz
    ·exact .inr (.inl rfl)
    ·exact (hl z hz).elim .inl fun e => .inr (.inr ((ho z).1 e).1)
   ·rw [pos_off hw]; exact .inl rfl
theorem Nar.ge (hp : Path s wl fr at0) (h : Nar s wl V i far) (hi : i < wl.length) : i ≤ far := by
 cases i with
 | zero => exact Nat.zero_le _
 | succ i =>
  have h1 : wl[i]? = some wl[i] := List.getElem?_eq_getElem (by omega)
  have h2 : wl[i + 1]? = some wl[i + 1] := List.getElem?_eq_getElem hi
  rcases h.next wl[i] (.inr ⟨i, by omega, h1⟩) wl[i + 1] (hp.edge i _ _ h1 h2) with e | ⟨j, hj, hjf⟩
  ·exact absurd (List.getElem_mem _) (h.off _ e)
  ·rw [at_inj hp.nodup h2 hj]; exact hjf
theorem Nar.must (hp : Path s wl fr at0) (h : Nar s wl V i far) {p : Nat} (hi : wl[i]? = some p) : far = i ↔ Must s [fr] at0 p := by
 have hil := (List.getElem?_eq_some_iff.1 hi).1
 have hge := h.ge hp hil
 constructor
 ·intro hf
  apply Classical.byContradiction
  intro hn
  obtain ⟨l, hw, hl⟩ := must_iff.1 hn
  have key : ∀ (a : Nat) (l : List Nat), Way s [fr] a l → (∀ z ∈ l, z ≠ p) → V a ∨ ∃ j, j < i ∧ wl[j]? = some a := by
   intro a l hw
   induction hw with
   | start hs =>
    intro hl
    rw [List.mem_singleton] at hs
    subst hs
    refine .inr ⟨0, ?_, hp.first⟩
    rcases Nat.eq_zero_or_pos i with h0 | h0
    ·subst h0
     rw [hp.first] at hi
     cases hi
     exact absurd rfl (hl _ (by simp))
    ·exact h0
   | @step a b l hw hb ih =>
    intro hl
    have hq := ih fun z hz => hl z (by simp [hz])
    rcases h.next a (hq.imp id fun ⟨j, j1, j2⟩ => ⟨j, j1, j2⟩) b hb with e | ⟨j, hj, hjf⟩
    ·exact .inl e
    ·refine .inr ⟨j, ?_, hj⟩
     rcases Nat.lt_or_eq_of_le (hf ▸ hjf) with hlt | rfl
     ·exact hlt
     ·rw [hi] at hj
      cases hj
      exact absurd rfl (hl _ (by simp))
  rcases key at0 l hw hl with e | ⟨j, hj, e⟩
  ·exact h.off _ e (List.mem_of_getElem? hp.last)
  ·have := at_inj hp.nodup e hp.last
   omega
 ·intro hmust
  apply Classical.byContradiction
  intro hne
  have hlt : i < far := by omega
  rcases h.far with h0 | ⟨a, wa, x, ha, hwa, hx, l, hw, hl⟩
  ·omega
  ·have hfl := (List.getElem?_eq_some_iff.1 hx).1
   obtain ⟨l1, hw1, hl1⟩ := hp.seg hp.first a wa (by rw [Nat.zero_add]; exact hwa)
   obtain ⟨l3, hw3, hl3⟩ := hp.seg hx (wl.length - 1 - far) at0 (by rw [show far + (wl.length - 1 - far) = wl.length - 1 by omega]; exact hp.last)
   obtain ⟨r1, hr1, hm1⟩ := way_join hw1 hw
   obtain ⟨r2, hr2, hm2⟩ := way_join hr1 hw3
   have hz := hmust r2 hr2
   rcases hm2 p hz with hz | hz
   ·rcases hm1 p hz with hz | hz
    ·obtain ⟨t, _, t2, t3⟩ := hl1 p hz
     have := at_inj hp.nodup t3 hi
     omega
    ·rcases hl p hz with rfl | rfl | e
     ·have := at_inj hp.nodup hwa hi; omega
     ·have := at_inj hp.nodup hx hi; omega
     ·exact e (List.mem_of_getElem? hi)
   ·obtain ⟨t, t1, _, t3⟩ := hl3 p hz
    have := at_inj hp.nodup t3 hi
    omega
end
end Go.Proofs.YtghdibbooegocaaGreatDoor.G

namespace Go.Proofs.YtghdibbooegocaaGreatDoor
open Go.RowKit Go.Maps

def Says (D : DataW Unit) (g : Int → Option Nat) : Prop :=
 ∀ h : Int, (g h = none → has D (.int .i64 h) = false) ∧ ∀ v, g h = some v → has D (.int .i64 h) = true ∧ ∀ z, D.atKey (.int .i64 h) z = .lit (.int .i64 (v : Int))
def OMap (P : Program) (k e : TypeId) (b n : Nat) (g : Int → Option Nat) (w : World) : Prop :=
 ∃ D : DataW Unit, w.ownsMap P k (plainElem P e) b n D ∧ Tidy D ∧ Says D g
def ORng (P : Program) (k e : TypeId) (b r n : Nat) (g : Int → Option Nat) (left : Int → Bool) (cnt : Nat) (w : World) : Prop :=
 ∃ (D : DataW Unit) (lf : Lit → Bool), w.ranges P k (plainElem P e) b r n D lf cnt ∧ Tidy D ∧ Says D g ∧ ∀ h : Int, lf (.int .i64 h) = left h
def putO (f : Int → Option Nat) (x : Int) (v : Nat) : Int → Option Nat := fun y => if y = x then some v else f y
def delO (f : Int → Option Nat) (x : Int) : Int → Option Nat := fun y => if y = x then none else f y
theorem litO_ne {a b : Int} (h : a ≠ b) : (Lit.int .i64 a) ≠ .int .i64 b := fun e => by injection e with _ e; exact h e
theorem isKeyO (x : Int) : WideAt.IsKeyLit (.int .i64 x) := by unfold WideAt.IsKeyLit; trivial

section
variable {P : Program} {k e t : TypeId} {b r n : Nat} {g : Int → Option Nat} {w w' : World}
theorem OMap.new (P : Program) (k e : TypeId) (w : World) : OMap P k e w.heap.size 0 (fun _ => none) (w.alloc (.map #[] 0)) :=
 ⟨.map [], World.ownsMap_made w P k _, tidy_empty, fun _ => ⟨fun _ => rfl, fun _ h => nomatch h⟩⟩
theorem OMap.lt (h : OMap P k e b n g w) : b < w.heap.size := by obtain ⟨_, h, _⟩ := h; exact h.lt
theorem OMap.obj (h : OMap P k e b n g w) : ∃ es c, w.heap[b]? = some (.map es c) := by
 obtain ⟨_, ⟨es, c, hb, _⟩, _⟩ := h
 exact ⟨es, c, hb⟩
theorem OMap.grown {row : Option Nat} (h : OMap P k e b n g w) (hg : w.grownBy w' row) (hne : some b ≠ row) : OMap P k e b n g w' := by
 obtain ⟨D, h1, h2, h3⟩ := h
 exact ⟨D, h1.kept hg hne, h2, h3⟩
theorem OMap.keep {O : Nat → Prop} (h : OMap P k e b n g w) (hk : Keep O w w') (hb : ¬ O b) : OMap P k e b n g w' := by
 obtain ⟨D, ⟨es, c, h0, hr⟩, h2, h3⟩ := h
 exact ⟨D, ⟨es, c, (hk.block b (Array.getElem?_eq_some_iff.1 h0).1 hb).trans h0, hr⟩, h2, h3⟩
theorem OMap.mono {m : Nat} (h : OMap P k e b n g w) (hm : n ≤ m) : OMap P k e b m g w := by
 obtain ⟨D, h1, h2, h3⟩ := h
 exact ⟨D, h1.mono hm, h2, h3⟩
theorem OMap.congr {f : Int → Option Nat} (h : OMap P k e b n g w) (hg : ∀ x, f x = g x) : OMap P k e b n f w := by
 obtain ⟨D, h1, h2, h3⟩ := h
 exact ⟨D, h1, h2, fun x => by rw [hg]; exact h3 x⟩
theorem says_put {D : DataW Unit} (hD : IsMap D) (h : Says D g) (x : Int) (v : Nat) : Says (D.put (.int .i64 x) (.lit (.int .i64 (v : Int)))) (putO g x v) := by
 intro y
 unfold putO
 by_cases he : y = x
 ·subst he
  rw [if_pos rfl]
  refine ⟨fun h => (nomatch h), fun u hu => ?_⟩
  cases hu
  exact ⟨has_put_same hD (isKeyO y) _, fun z => atKey_put_same hD (isKeyO y) _ z⟩
 ·rw [if_neg he, has_put_other (litO_ne he)]
  refine ⟨(h y).1, fun u hu => ⟨((h y).2 u hu).1, fun z => ?_⟩⟩
  rw [atKey_put_other (litO_ne he)]
  exact ((h y).2 u hu).2 z
theorem says_del {D : DataW Unit} (h : Says D g) (x : Int) : Says (D.del (.int .i64 x)) (delO g x) := by
 intro y
 unfold delO
 by_cases he : y = x
 ·subst he
  rw [if_pos rfl]
  exact ⟨fun _ => has_del_same, fun u hu => by cases hu⟩
 ·rw [if_neg he, has_del_other (litO_ne he)]
  refine ⟨(h y).1, fun u hu => ⟨((h y).2 u hu).1, fun z => ?_⟩⟩
  rw [atKey_del_other (litO_ne he)]
  exact ((h y).2 u hu).2 z
theorem OMap.update (h : OMap P k e b n g w) (ht : P.underlying t = some (.map k e)) (hk : P.underlying k = some (.int .i64)) (he : P.underlying e = some (.int .i64)) (hn : n < maxLen) (x : Int) (v : Nat) (hx : (Lit.int .i64 x).wf = true) (hv : (Lit.int .i64 (v : Int)).wf = true) :
  ∃ w', (Instr.mapUpdate t (.map (some b)) (.int .i64 x) (.int .i64 (v : Int))).run P w = .ok () w' ∧ OMap P k e b (n + 1) (putO g x v) w' ∧ w.grownBy w' (some b) := by
 obtain ⟨D, h1, h2, h3⟩ := h
 obtain ⟨w', hrun, r1, r2⟩ := h1.update (int_keyed hk) ht hn (keyOf_int_mk hk hx) (plainElem_int he hv)
 exact ⟨w', hrun, ⟨_, r1, h2.put (isKeyO x) _, says_put h2.isMap h3 x v⟩, r2⟩
theorem OMap.size_le (h : OMap P k e b n g w) : ∃ m, m ≤ n ∧ ∀ (t : TypeId), P.underlying t = some (.map k e) → ∀ ty : TypeId, (Builtin.len_ #[t] ty #[.map (some b)]).run P w = .ok (.int .i64 (m : Nat)) w := by
 obtain ⟨D, h1, _, _⟩ := h
 exact ⟨Maps.size D, h1.size_le, fun t ht ty => h1.len ht ty⟩
theorem OMap.look (h : OMap P k e b n g w) (ht : P.underlying t = some (.map k e)) (hk : P.underlying k = some (.int .i64)) (he : P.underlying e = some (.int .i64)) (hz : (zeroValue e).run P w = .ok (.int .i64 0) w) (x : Int) (hx : (Lit.int .i64 x).wf = true) :
  (Instr.lookup t (.map (some b)) (.int .i64 x) false).run P w = .ok (.int .i64 (((g x).getD 0 : Nat) : Int)) w := by
 obtain ⟨D, h1, h2, h3⟩ := h
 obtain ⟨c, hrun, hat, _⟩ := h1.lookup_int (int_keyed hk) ht he hz (keyOf_int_mk hk hx)
 cases hg : g x with
 | none =>
  rw [atKey_of_not_has ((h3 x).1 hg)] at hat
  injection hat with hat
  injection hat with _ hat
  rw [← hat] at hrun
  exact hrun
 | some v =>
  rw [((h3 x).2 v hg).2] at hat
  injection hat with hat
  injection hat with _ hat
  rw [← hat] at hrun
  exact hrun
theorem OMap.look2 (h : OMap P k e b n g w) (ht : P.underlying t = some (.map k e)) (hk : P.underlying k = some (.int .i64)) (he : P.underlying e = some (.int .i64)) (hz : (zeroValue e).run P w = .ok (.int .i64 0) w) (x : Int) (hx : (Lit.int .i64 x).wf = true) :
  (Instr.lookup t (.map (some b)) (.int .i64 x) true).run P w = .ok (.tuple #[.int .i64 (((g x).getD 0 : Nat) : Int), .bool (g x).isSome]) w := by
 obtain ⟨D, h1, h2, h3⟩ := h
 have hw0 : (Lit.int .i64 0).wf = true := by decide
 obtain ⟨v, ps, hrun, hv⟩ := h1.look_ok (int_keyed hk) ht hz (plainElem_int he hw0) (keyOf_int_mk hk hx)
 obtain ⟨c, rfl, hc, _⟩ := plainElem_int_inv he hv
 have hat := congrArg Prod.fst hc
 dsimp only at hat
 cases hg : g x with
 | none =>
  have hh := (h3 x).1 hg
  rw [atKey_of_not_has hh] at hat
  injection hat with hat
  injection hat with _ hat
  rw [hh, ← hat] at hrun
  exact hrun
 | some v =>
  obtain ⟨hh, ha⟩ := (h3 x).2 v hg
  rw [ha] at hat
  injection hat with hat
  injection hat with _ hat
  rw [hh, ← hat] at hrun
  exact hrun
theorem OMap.range (h : OMap P k e b n g w) (ht : P.underlying t = some (.map k e)) (hk : P.underlying k = some (.int .i64)) :
  ∃ w' cnt, (Instr.range t (.map (some b))).run P w = .ok (.pointer (some ⟨w.heap.size, 0, none⟩)) w' ∧ ORng P k e b w.heap.size n g (fun h => (g h).isSome) cnt w' ∧ w.grownBy w' none ∧ w'.heap.size = w.heap.size + 1 := by
 obtain ⟨D, h1, h2, h3⟩ := h
 obtain ⟨w', hrun, hr, hg, hs⟩ := h1.range (int_keyed hk) ht
 refine ⟨w', _, hrun, ⟨D, _, hr, h2, h3, fun x => ?_⟩, hg, hs⟩
 cases hx : g x with
 | none => show has D _ = (g x).isSome; rw [(h3 x).1 hx, hx]; rfl
 | some v => show has D _ = (g x).isSome; rw [((h3 x).2 v hx).1, hx]; rfl
end

section
variable {P : Program} {k e t : TypeId} {b r n cnt : Nat} {g : Int → Option Nat} {left : Int → Bool} {w w' : World}
theorem ORng.omap (h : ORng P k e b r n g left cnt w) : OMap P k e b n g w := by
 obtain ⟨D, lf, h1, h2, h3, _⟩ := h
 exact ⟨D, h1.owns, h2, h3⟩
theorem ORng.lt (h : ORng P k e b r n g left cnt w) : r < w.heap.size := by obtain ⟨D, lf, h1, _⟩ := h; exact h1.lt
theorem ORng.iter (h : ORng P k e b r n g left cnt w) : ∃ x1 x2 x3 x4, w.heap[r]? = some (.mapIter x1 x2 x3 x4) := by obtain ⟨D, lf, ⟨es, clock, since, seen, c0, _, _, _, _, h5, _⟩, _⟩ := h; exact ⟨_, _, _, _, h5⟩
theorem ORng.left_eq (h : ORng P k e b r n g left cnt w) : w.rangeLeft b r = cnt := by obtain ⟨D, lf, h1, _⟩ := h; exact h1.left_eq
theorem ORng.grown {row : Option Nat} (h : ORng P k e b r n g left cnt w) (hg : w.grownBy w' row) (hb : some b ≠ row) (hr : some r ≠ row) : ORng P k e b r n g left cnt w' := by
 obtain ⟨D, lf, h1, h2⟩ := h
 exact ⟨D, lf, h1.kept hg hb hr, h2⟩
theorem ORng.keep {O : Nat → Prop} (h : ORng P k e b r n g left cnt w) (hk : Keep O w w') (hb : ¬ O b) (hr : ¬ O r) : ORng P k e b r n g left cnt w' := by
 obtain ⟨D, lf, ⟨es, clock, since, seen, c0, h0, a1, a2, a3, h5, rest⟩, h2⟩ := h
 exact ⟨D, lf, ⟨es, clock, since, seen, c0, (hk.block b (Array.getElem?_eq_some_iff.1 h0).1 hb).trans h0, a1, a2, a3, (hk.block r (Array.getElem?_eq_some_iff.1 h5).1 hr).trans h5, rest⟩, h2⟩
theorem sameKey_int (x y : Int) : (Lit.int .i64 x).sameKey (.int .i64 y) = decide (x = y) := by
 by_cases h : x = y
 ·subst h; rw [WideAt.sameKey_self (isKeyO x)]; simp
 ·rw [sameKey_ne (litO_ne h)]; simp [h]
theorem ORng.next (h : ORng P k e b r n g left cnt w) (hk : P.underlying k = some (.int .i64)) (he : P.underlying e = some (.int .i64)) (ty : TypeId) :
  (cnt = 0 ∧ (∀ x, left x = false) ∧ (Instr.next (.pointer (some ⟨r, 0, none⟩)) false ty).run P w = .ok (.tuple #[.bool false]) w) ∨
  ∃ (x : Int) (v : Nat) (w' : World) (cnt' : Nat), (Lit.int .i64 x).wf = true ∧ (Lit.int .i64 (v : Int)).wf = true ∧ left x = true ∧ g x = some v ∧ (Instr.next (.pointer (some ⟨r, 0, none⟩)) false ty).run P w = .ok (.tuple #[.bool true, .int .i64 x, .int .i64 (v : Int)]) w' ∧
   ORng P k e b r n g (fun y => left y && !decide (y = x)) cnt' w' ∧ cnt' < cnt ∧ w.grownBy w' (some r) ∧ w'.heap.size = w.heap.size ∧ (Instr.entry (.pointer (some ⟨r, 0, none⟩))).run P w' = .ok (.tuple #[.int .i64 x, .int .i64 (v : Int)]) w' := by
 obtain ⟨D, lf, h1, h2, h3, h4⟩ := h
 rcases h1.next (int_keyed hk) ty with ⟨h0, hl, hrun⟩ | ⟨key, u, kl, y, w', cnt', hkey, hlk, hu, hat, hrun, hrg, hlt, hgr, hsz, hen⟩
 ·exact .inl ⟨h0, fun x => by rw [← h4, hl], hrun⟩
 ·obtain ⟨x, rfl, rfl, hwx⟩ := Maps.keyOf_int_inv hk hkey
  obtain ⟨c, rfl, rfl, hwc⟩ := plainElem_int_inv he hu
  cases hg : g x with
  | none =>
   have := (h3 x).1 hg
   rw [has_true_of_atKey hat] at this
   cases this
  | some v =>
   have e1 := ((h3 x).2 v hg).2 .nil
   rw [hat] at e1
   injection e1 with e1
   injection e1 with _ e1
   subst e1
   refine .inr ⟨x, v, w', cnt', hwx, hwc, by rw [← h4]; exact hlk, hg, hrun, ⟨D, _, hrg, h2, h3, fun z => ?_⟩, hlt, hgr, hsz, hen⟩
   rw [h4, sameKey_int]
theorem ORng.drop (h : ORng P k e b r n g left cnt w) (ht : P.underlying t = some (.map k e)) (hk : P.underlying k = some (.int .i64)) (x : Int) (hx : (Lit.int .i64 x).wf = true) (ty : TypeId) :
  ∃ w' cnt', (Builtin.delete_ #[t, k] ty #[.map (some b), .int .i64 x]).run P w = .ok (.tuple #[]) w' ∧ ORng P k e b r n (delO g x) (fun y => left y && !decide (y = x)) cnt' w' ∧ cnt' ≤ cnt ∧ w.grownBy w' (some b) := by
 obtain ⟨D, lf, h1, h2, h3, h4⟩ := h
 obtain ⟨w', cnt', hrun, hr, hle, hturn⟩ := h1.drop (int_keyed hk) ht (keyOf_int_mk hk hx) ty
 exact ⟨w', cnt', hrun, ⟨_, _, hr, h2.del _, says_del h3 x, fun y => by rw [h4, sameKey_int]⟩, hle, hturn.grown⟩
end

/-! ### How many keys there are -/
def mapSize (w : World) (b : Nat) : Nat := match w.heap[b]? with
 | some (.map es _) => es.size
 | _ => 0
def OMapS (P : Program) (k e : TypeId) (b n : Nat) (g : Int → Option Nat) (w : World) : Prop :=
 ∃ D : DataW Unit, w.ownsMap P k (plainElem P e) b n D ∧ Tidy D ∧ Says D g ∧ Maps.size D = n
section
variable {P : Program} {k e t : TypeId} {b n : Nat} {g : Int → Option Nat} {w w' : World}
theorem OMapS.omap (h : OMapS P k e b n g w) : OMap P k e b n g w := by obtain ⟨D, h1, h2, h3, _⟩ := h; exact ⟨D, h1, h2, h3⟩
theorem OMapS.new (P : Program) (k e : TypeId) (w : World) : OMapS P k e w.heap.size 0 (fun _ => none) (w.alloc (.map #[] 0)) :=
 ⟨.map [], World.ownsMap_made w P k _, tidy_empty, fun _ => ⟨fun _ => rfl, fun _ h => nomatch h⟩, rfl⟩
theorem OMapS.size (h : OMapS P k e b n g w) : mapSize w b = n := by
 obtain ⟨D, ⟨es, c, hb, _, _, hD⟩, _, _, h4⟩ := h
 unfold mapSize
 rw [hb]
 dsimp only
 rw [← h4, hD]
 simp [Maps.size, length_sorted]
theorem OMapS.keep {O : Nat → Prop} (h : OMapS P k e b n g w) (hk : Keep O w w') (hb : ¬ O b) : OMapS P k e b n g w' := by
 obtain ⟨D, ⟨es, c, h0, hr⟩, h2⟩ := h
 exact ⟨D, ⟨es, c, (hk.block b (Array.getElem?_eq_some_iff.1 h0).1 hb).trans h0, hr⟩, h2⟩
theorem OMapS.grown {row : Option Nat} (h : OMapS P k e b n g w) (hg : w.grownBy w' row) (hne : some b ≠ row) : OMapS P k e b n g w' := by
 obtain ⟨D, h1, h2⟩ := h
 exact ⟨D, h1.kept hg hne, h2⟩
theorem OMapS.congr {f : Int → Option Nat} (h : OMapS P k e b n g w) (hg : ∀ x, f x = g x) : OMapS P k e b n f w := by
 obtain ⟨D, h1, h2, h3, h4⟩ := h
 exact ⟨D, h1, h2, fun x => by rw [hg]; exact h3 x, h4⟩
theorem OMapS.update (h : OMapS P k e b n g w) (ht : P.underlying t = some (.map k e)) (hk : P.underlying k = some (.int .i64)) (he : P.underlying e = some (.int .i64)) (hn : n < maxLen) (x : Int) (v : Nat) (hg : g x = none) (hx : (Lit.int .i64 x).wf = true) (hv : (Lit.int .i64 (v : Int)).wf = true) :
  ∃ w', (Instr.mapUpdate t (.map (some b)) (.int .i64 x) (.int .i64 (v : Int))).run P w = .ok () w' ∧ OMapS P k e b (n + 1) (putO g x v) w' ∧ w.grownBy w' (some b) := by
 obtain ⟨D, h1, h2, h3, h4⟩ := h
 obtain ⟨w', hrun, r1, r2⟩ := h1.update (int_keyed hk) ht hn (keyOf_int_mk hk hx) (plainElem_int he hv)
 refine ⟨w', hrun, ⟨_, r1, h2.put (isKeyO x) _, says_put h2.isMap h3 x v, ?_⟩, r2⟩
 rw [size_put h2, (h3 x).1 hg, h4]
 rfl
end
end Go.Proofs.YtghdibbooegocaaGreatDoor

namespace Go.Proofs.YtghdibbooegocaaGreatDoor
open Go.RowKit

def Qu (g : Nat) (v : Value) (zs : List Int) (W : World) : Prop :=
 ∃ off cap cur, v = .slice (some ⟨g, off, none⟩) zs.length cap ∧ Blk W g 3 cur ∧ off + cap ≤ cur.size ∧ zs.length ≤ cap ∧ cap ≤ maxLen ∧ ∀ j z, zs[j]? = some z → cur[off + j]? = some (.int .i64 z)
section
variable {g : Nat} {v : Value} {zs : List Int} {W W' : World}
theorem Qu.new (W : World) (x : Int) : Qu W.heap.size (.slice (some ⟨W.heap.size, 0, none⟩) 1 1) [x] (W.alloc (.cells #[.int .i64 x] 3)) :=
 ⟨0, 1, _, rfl, Blk.new W _ _, by simp, by simp, by decide, fun j z hz => by
  cases j with
  | zero => simp at hz; subst hz; rfl
  | succ j => simp at hz⟩
theorem Qu.lt (h : Qu g v zs W) : g < W.heap.size := by obtain ⟨_, _, _, _, h, _⟩ := h; exact h.lt
theorem Qu.keep {O : Nat → Prop} (h : Qu g v zs W) (hk : Keep O W W') (hg : ¬ O g) : Qu g v zs W' := by
 obtain ⟨off, cap, cur, h1, h2, h3⟩ := h
 exact ⟨off, cap, cur, h1, h2.keep hk hg, h3⟩
theorem Qu.grown {row : Option Nat} (h : Qu g v zs W) (hg : W.grownBy W' row) (hne : some g ≠ row) : Qu g v zs W' := by
 obtain ⟨off, cap, cur, h1, h2, h3⟩ := h
 exact ⟨off, cap, cur, h1, (hg.block g h2.lt hne).trans h2, h3⟩
theorem Qu.first {z : Int} {r : List Int} (h : Qu g v (z :: r) W) : ∃ off cap, v = .slice (some ⟨g, off, none⟩) (r.length + 1) cap ∧ W.cell? ⟨g, off, none⟩ = some (.int .i64 z) ∧ r.length + 1 ≤ cap ∧ cap ≤ maxLen ∧
  Qu g (sliced (some ⟨g, off, none⟩) 1 (r.length + 1) cap 1) r W := by
 obtain ⟨off, cap, cur, h1, h2, h3, h4, h5, h6⟩ := h
 rw [List.length_cons] at h1 h4
 refine ⟨off, cap, h1, ?_, h4, h5, ?_⟩
 ·rw [h2.cell]; have := h6 0 z rfl; simpa using this
 ·unfold sliced
  by_cases hc : cap = 1
  ·have hr : r = [] := List.length_eq_zero_iff.1 (by omega)
   subst hr
   rw [if_pos hc]
   exact ⟨off, cap - 1, cur, rfl, h2, by omega, by simp, by omega, fun j z hz => by simp at hz⟩
  ·rw [if_neg hc]
   refine ⟨off + 1, cap - 1, cur, ?_, h2, by omega, by omega, by omega, fun j z hz => ?_⟩
   ·simp [Addr.add_lit]
   ·have := h6 (j + 1) z (by simpa using hz)
    rw [show off + 1 + j = off + (j + 1) by omega]
    exact this
theorem Qu.rest {z : Int} {r : List Int} (h : Qu g v (z :: r) W) : ∃ off cap o1 c1, v = .slice (some ⟨g, off, none⟩) (r.length + 1) cap ∧ W.cell? ⟨g, off, none⟩ = some (.int .i64 z) ∧ r.length + 1 ≤ cap ∧ cap ≤ maxLen ∧
  ((cap = 1 ∧ o1 = off ∧ c1 = 0) ∨ (¬ cap = 1 ∧ o1 = off + 1 ∧ c1 = cap - 1)) ∧ Qu g (.slice (some ⟨g, o1, none⟩) r.length c1) r W := by
 obtain ⟨off, cap, h1, h2, h3, h4, h5⟩ := h.first
 unfold sliced at h5
 by_cases hc : cap = 1
 ·rw [if_pos hc] at h5
  subst hc
  exact ⟨off, 1, off, 0, h1, h2, h3, h4, .inl ⟨rfl, rfl, rfl⟩, h5⟩
 ·rw [if_neg hc] at h5
  refine ⟨off, cap, off + 1, cap - 1, h1, h2, h3, h4, .inr ⟨hc, rfl, rfl⟩, ?_⟩
  simpa [Addr.add_lit] using h5
theorem Qu.nil (h : Qu g v [] W) : ∃ off cap, v = .slice (some ⟨g, off, none⟩) 0 cap := by
 obtain ⟨off, cap, _, h1, _⟩ := h
 exact ⟨off, cap, h1⟩
theorem Qu.form (h : Qu g v zs W) : ∃ off cap, v = .slice (some ⟨g, off, none⟩) zs.length cap := by
 obtain ⟨off, cap, _, h1, _⟩ := h
 exact ⟨off, cap, h1⟩
theorem Qu.push (h : Qu g v zs W) {t ty : TypeId} {i0 : TypeInfo} (ht : Tryz.prog.underlying t = some (.slice 3)) (hi : Tryz.prog.info? 3 = some i0) (hz0 : i0.zero = some (.int .i64 0)) (hz1 : i0.size = 1) (hz2 : i0.bytes = 8) (x : Int) (b o c : Nat)
  (hx : W.cell? ⟨b, o, none⟩ = some (.int .i64 x)) (h63 : zs.length + 1 ≤ 10000000) :
  ∃ v' W' g', (Builtin.append_ #[t, t] ty #[v, .slice (some ⟨b, o, none⟩) 1 c]).run Tryz.prog W = .ok v' W' ∧ Qu g' v' (zs ++ [x]) W' ∧ (g' = g ∨ W.heap.size ≤ g') ∧ W.grownBy W' (some g) := by
 obtain ⟨off, cap, cur, rfl, h2, h3, h4, h5, h6⟩ := h
 have hnews : ∀ j u, [Value.int .i64 x][j]? = some u → W.cell? ((⟨b, o, none⟩ : Addr).add j) = some u := by
  intro j u hu
  cases j with
  | zero =>
   simp at hu
   subst hu
   rw [Addr.add_lit]
   exact hx
  | succ j => simp at hu
 by_cases hroom : zs.length + 1 ≤ cap
 ·have hr := run_append_room_cells (P := Tryz.prog) W t ty 3 i0 ht hi g off zs.length cap ⟨b, o, none⟩ 1 c [.int .i64 x] (by simp [hz1]) hnews (by simp [Value.oneCell']) hroom
   (fun j hj => by
    simp at hj; subst hj
    rw [h2.cell, hz1]
    simp only [Nat.mul_one, Nat.add_zero]
    rw [Array.getElem?_eq_getElem (by omega)]; rfl)
   (fun j hj => h2.frozen _)
  rw [hz1, Nat.mul_one] at hr
  have e : W.setCells g (off + zs.length) [.int .i64 x] = W.setCell ⟨g, off + zs.length, none⟩ (.int .i64 x) := rfl
  rw [e] at hr
  refine ⟨_, _, g, hr, ⟨off, cap, cur.setIfInBounds (off + zs.length) (.int .i64 x), by simp, h2.put _ _, by simpa using h3, by simpa using hroom, h5, fun j z hz => ?_⟩, .inl rfl, ⟨rfl, rfl, rfl, by simp [World.setCell], fun k _ hk => Below.heap_setCell _ _ _ k (fun e => hk (by rw [e]))⟩⟩
  by_cases hj : j < zs.length
  ·rw [List.getElem?_append_left hj] at hz
   rw [Array.getElem?_setIfInBounds_ne (by omega)]
   exact h6 j z hz
  ·rw [List.getElem?_append_right (by omega)] at hz
   have hj2 : j - zs.length = 0 := by
    rcases Nat.eq_zero_or_pos (j - zs.length) with h0 | h0
    ·exact h0
    ·rw [List.getElem?_eq_none (by simp; omega)] at hz; cases hz
   rw [hj2] at hz
   simp at hz
   subst hz
   rw [show j = zs.length by omega, Array.getElem?_setIfInBounds_self, if_pos (by omega)]
 ·have holds : ∀ j u, (zs.map (Value.int .i64))[j]? = some u → W.cell? ((⟨g, off, none⟩ : Addr).add j) = some u := by
   intro j u hu
   rw [List.getElem?_map] at hu
   obtain ⟨z, hz, rfl⟩ := Option.map_eq_some_iff.1 hu
   rw [Addr.add_lit, h2.cell]
   exact h6 j z hz
  obtain ⟨v', W', hr, ho, hg⟩ := run_append_arg_grows (P := Tryz.prog) W t ty 3 i0 (.int .i64 0) 1 8 ht hi hz0 hz1 hz2 rfl (by decide) ⟨g, off, none⟩ zs.length cap (zs.map (Value.int .i64)) (by simp) holds ⟨b, o, none⟩ 1 c [.int .i64 x] rfl hnews (by omega) (by unfold maxLen; omega) (by omega)
  obtain ⟨hl, h⟩ := ho
  rcases h with ⟨_, h0⟩ | ⟨g', cap', cur', rfl, hgb, hb, k1, k2, k3, k4⟩
  ·omega
  ·refine ⟨_, W', g', hr, ⟨0, cap', cur', by simp, hb, by omega, by simpa using k1, k2, fun j z hz => ?_⟩, .inr hgb, hg.but _⟩
   have h7 : (zs.map (Value.int .i64) ++ [.int .i64 x])[j]? = some (.int .i64 z) := by
    have : zs.map (Value.int .i64) ++ [Value.int .i64 x] = (zs ++ [x]).map (Value.int .i64) := by simp
    rw [this, List.getElem?_map, hz]; rfl
   rw [← k4, List.getElem?_take] at h7
   split at h7
   ·rw [Nat.zero_add]; simpa using h7
   ·cases h7
end

theorem wpListIn_append_run {F : Fence} {n : Nat} {P : Program} (w : World) {ops : Array Oper} {rest : List Oper} {o : Oper} {a : Act} {Q : Exit → Act → World → Prop}
  (hg : o.guard = none) (s x : Operand) (t : TypeId) (hop : o.op = Op.call { callee := Callee.builtin Builtin.append, args := #[s, x], argTypes := #[t, t] }) (v xv v' : Value) (w' : World)
  (hs : a.eval s = v) (hx : a.eval x = xv) (hrun : (Builtin.append_ #[t, t] o.type #[v, xv]).run P w = .ok v' w') (hK : wpListIn F n P ops Q rest (a.put o.dst v') w') : wpListIn F n P ops Q (o :: rest) a w := by
 refine wpListIn_plain hg fun K hK' => ?_
 unfold Oper.wpIn
 refine ⟨?_, ?_⟩
 ·simp [Oper.about, hop, resolve, Target.leads, Sem.run_pure]
 ·rw [Oper.semAt_plain F _ _ (by rw [hop]; intro c hc'; cases hc')]
  simp [execOp, hop, resolve, invoke, builtin, hs, hx, hrun, Result.andThen]
  exact hK' _ _ hK
theorem wpList_append_run {P : Program} (w : World) {ops : Array Oper} {rest : List Oper} {o : Oper} {a : Act} {Q : Exit → Act → World → Prop}
  (hg : o.guard = none) (s x : Operand) (t : TypeId) (hop : o.op = Op.call { callee := Callee.builtin Builtin.append, args := #[s, x], argTypes := #[t, t] }) (v xv v' : Value) (w' : World)
  (hs : a.eval s = v) (hx : a.eval x = xv) (hrun : (Builtin.append_ #[t, t] o.type #[v, xv]).run P w = .ok v' w') (hK : wpList P ops Q rest (a.put o.dst v') w') : wpList P ops Q (o :: rest) a w := by
 refine wpList_plain hg fun K' hK' => ?_
 unfold Oper.wp
 simp [execOp, hop, resolve, invoke, builtin, hs, hx, hrun, Result.andThen]
 exact hK' _ _ hK
end Go.Proofs.YtghdibbooegocaaGreatDoor

namespace Go.Proofs.YtghdibbooegocaaGreatDoor
open Go.RowKit Go.Shelf

section
variable {P : Program} {n : Nat}

theorem Keep.grows {W W' : World} (h : Keep NoB W W') : W.grownBy W' none := ⟨h.os, h.tape, h.output, h.size, fun k hk _ => h.block k hk id⟩
theorem ownFrom_keeps {β : Type} {B : Nat} {I : β → World → Prop} (hI : OwnFrom B I) {s : β} {W W' : World} (h : I s W) (hk : Keep NoB W W') : I s W' := hI s W W' none h hk.grows (fun r e => by cases e)
theorem keepsFrom_keep {B : Nat} {W W' : World} (hk : Keep NoB W W') : KeepsFrom B W W' := ⟨hk.size, fun k _ _ h _ => (hk.block k (Array.getElem?_eq_some_iff.1 h).1 id).trans h⟩

theorem yieldAt_end {L m : Nat} {r : Loop} {args : Array Value} {W : World} {R : World → Prop} (hl : W.heap[L]? = some (.loop r)) (hr : r.state = .ready) (hp : r.pending = none) (hs : args.size = r.params.size)
  (h : r.assign.wpIn (Fence.wide.inRound L) m P (Exit.then (fun a₁ W₁ => W₁.heap[L]? = some (.loop r) ∧
    r.body.wpIn (Fence.wide.inRound L) m P (fun e _ W₃ => e = .normal ∧ W₃.heap[L]? = some (.loop { r with state := .busy }) ∧ R (W₃.putObj L (.loop r))) a₁ (W₁.putObj L (.loop { r with state := .busy })))
    (fun _ _ _ => False)) { tmps := (r.params.zip args).foldl (fun t (p, v) => t.setIfInBounds p v) r.tmps, defers := [] } W) :
  YieldAt Fence.wide m P L args W fun e W' => e = .returned (.bool true) ∧ R W' := by
 refine ⟨r.fn, _, r.assign, r.body, run_yield hl hs, roundIn_of_wpIn trivial (wpIn_mono h ?_)⟩
 intro e a₁ W₁ hq
 cases e with
 | normal =>
  obtain ⟨h1, h2⟩ := hq
  refine ⟨_, run_beginRound h1 hr, wpIn_mono h2 ?_⟩
  rintro e₃ a₃ W₃ ⟨rfl, h3, h4⟩
  refine ⟨_, _, run_endRound none h3, rfl, ?_⟩
  have hb : ({ r with state := .busy } : Loop) = { r with state := .busy } := rfl
  have he : ({ ({ r with state := .busy } : Loop) with state := if (none : Option Code).isNone then LoopState.ready else .done, pending := none } : Loop) = r := by
   cases r; simp_all
  rw [he]; exact h4
 | exit id => exact hq
 | goto t => exact hq
 | ret => exact hq
 | panic c => exact hq
 | outgrown => exact hq

def Brings {α : Type} (P : Program) (m k : Nat) (gf : Nat) (lb : Array Value) (encs : α → Array Value) (I : List α → World → Prop) (En : List α → α → World → Prop) (S : List α → Prop) : Prop :=
 ∀ (L : Nat) (J : List α → World → Prop), (∀ pre W W', J pre W → Keep NoB W W' → J pre W') → (∀ pre W, J pre W → I pre W) →
  (∀ pre x W, J pre W → En pre x W → YieldAt Fence.wide m P L (encs x) W fun e W' => e = .returned (.bool true) ∧ J (pre ++ [x]) W') →
  ∀ W, J [] W → CallsIn Fence.wide k P gf (#[.func (.yield L) #[] #[]] ++ lb) W fun e W' => (∃ v, e = .returned v) ∧ ∃ xs, S xs ∧ J xs W'

theorem wpIn_rangeFunc_brings {α : Type} {g : Operand} {ps : Array Tmp} {assign body : Code} {Q : Exit → Act → World → Prop} {a : Act} {w : World} {m : Nat}
  {gf : Nat} {lb : Array Value} (hg : a.eval g = .func (.func gf) #[] lb) (eg : ∀ args w, (callFunc gf args).run P w = .ok (.enter gf args) w)
  {encs : α → Array Value} {I : List α → World → Prop} {En : List α → α → World → Prop} {S : List α → Prop} (hit : Brings P m (n - 1) gf lb encs I En S) (hps : ∀ x, (encs x).size = ps.size)
  (hI : OwnFrom w.heap.size I) (h0 : I [] w) (Ax : List α → α → Act → World → Prop) (hAx : ∀ pre x a', OwnFrom w.heap.size (fun (_ : Unit) W => Ax pre x a' W))
  (hassign : ∀ (l : Nat) (pre : List α) (x : α) (W : World), I pre W → En pre x W →
   assign.wpIn (Fence.wide.inRound l) m P (Exit.then (fun a' W' => Ax pre x a' W' ∧ KeepsFrom w.heap.size W W') (fun _ _ _ => False)) { tmps := (ps.zip (encs x)).foldl (fun t (p, v) => t.setIfInBounds p v) a.tmps, defers := [] } W)
  (hbody : ∀ (l : Nat) (pre : List α) (x : α) (a' : Act) (W : World), Ax pre x a' W → body.wpIn (Fence.wide.inRound l) m P (fun e _ W' => e = .normal ∧ I (pre ++ [x]) W' ∧ KeepsFrom w.heap.size W W') a' W)
  (hdone : ∀ (D : Nat) (xs : List α) (W : World), w.heap.size ≤ D → S xs → I xs W → W.heap[D]? = some (.deferred (some [])) → Q .normal { a with defers := { target := .collected D, args := #[] } :: a.defers } W) :
  (Code.rangeFunc g ps assign body).wpIn Fence.wide n P Q a w := by
 refine wpIn_rangeFunc fun fn _ => ?_
 obtain ⟨r, hr⟩ : ∃ r : Loop, r = { state := .ready, pending := none, fn, tmps := a.tmps, params := ps, assign, body, defers := w.heap.size } := ⟨_, rfl⟩
 obtain ⟨W1, hW1⟩ : ∃ W1, (w.alloc (.deferred (some []))).alloc (.loop r) = W1 := ⟨_, rfl⟩
 have hL1 : W1.heap[w.heap.size + 1]? = some (.loop r) := by
  rw [← hW1]; have := World.alloc_heap_new (w.alloc (.deferred (some []))) (.loop r); rwa [World.size_alloc] at this
 have hD1 : W1.heap[w.heap.size]? = some (.deferred (some [])) := by
  rw [← hW1]; exact (Below.heap_alloc _ _ _ (by simp)).trans (World.alloc_heap_new w _)
 refine ⟨w.heap.size + 1, [{ target := .collected w.heap.size, args := #[] }], W1, { target := .fn (.func gf) lb, args := #[.func (.yield (w.heap.size + 1)) #[] #[]] }, W1, gf,
  #[.func (.yield (w.heap.size + 1)) #[] #[]] ++ lb, W1, ?_, ?_, fun _ _ => trivial, ?_, (fun h => by cases h), ?_⟩
 ·rw [← hW1, hr]; exact run_enterLoop_outer _ _ _ _ _
 ·simp only [resolve, hg]
  simp [go_sem]
 ·simp [invoke, go_sem, eg]
 refine (hit (w.heap.size + 1) (fun pre W => I pre W ∧ W.heap[w.heap.size + 1]? = some (.loop r) ∧ W.heap[w.heap.size]? = some (.deferred (some []))) ?_ (fun _ _ h => h.1) ?_ W1 ⟨by rw [← hW1]; exact hI.alloc _ (hI.alloc _ h0), hL1, hD1⟩).mono ?_
 ·rintro pre W W' ⟨h1, h2, h3⟩ hk
  exact ⟨ownFrom_keeps hI h1 hk, (hk.block _ (Array.getElem?_eq_some_iff.1 h2).1 id).trans h2, (hk.block _ (Array.getElem?_eq_some_iff.1 h3).1 id).trans h3⟩
 ·clear hL1 hW1 hD1
  subst hr
  rintro pre x W ⟨h1, h2, h3⟩ hen
  refine yieldAt_end h2 rfl rfl (hps x) ?_
  have ha := hassign (w.heap.size + 1) pre x W h1 hen
  refine wpIn_mono ha ?_
  intro e a₁ Wa hq
  cases e with
  | normal =>
   obtain ⟨hax, hka⟩ := hq
   have l2 := hka.same _ _ (by omega) h2 rfl
   have d2 := hka.same _ _ (Nat.le_refl _) h3 rfl
   refine ⟨l2, ?_⟩
   have lt2 := (Array.getElem?_eq_some_iff.1 l2).1
   refine wpIn_mono (hbody _ pre x a₁ _ ((hAx pre x a₁).putObj (s := ()) _ hax (by omega) l2 rfl)) ?_
   rintro e₃ a₃ W₃ ⟨rfl, h4, h5⟩
   have l3 := h5.same (w.heap.size + 1) _ (by omega) (World.putObj_heap_same lt2) rfl
   have d3 := h5.same w.heap.size _ (Nat.le_refl _) ((World.putObj_heap_other (by omega)).trans d2) rfl
   refine ⟨rfl, l3, hI.putObj _ h4 (by omega) l3 rfl, World.putObj_heap_same (Array.getElem?_eq_some_iff.1 l3).1, (World.putObj_heap_other (by omega)).trans d3⟩
  | exit id => exact hq
  | goto t => exact hq
  | ret => exact hq
  | panic c => exact hq
  | outgrown => exact hq
 ·rintro e W2 ⟨⟨v, rfl⟩, xs, hS, h1, h2, h3⟩
  have hp : r.pending = none := by rw [hr]
  exact ⟨none, _, by have := run_endLoop (P := P) h2 (by rw [hr]; simp); rw [hp] at this; exact this, hdone _ xs _ (Nat.le_refl _) hS (hI.putObj _ h1 (by omega) h2 rfl) ((World.putObj_heap_other (by omega)).trans h3)⟩
end
end Go.Proofs.YtghdibbooegocaaGreatDoor

namespace Go.Proofs.YtghdibbooegocaaGreatDoor
open Go.RowKit Go.Shelf

abbrev BSet := Nat → Prop
structure IStep (B : Nat) (p : BSet) (W W' : World) : Prop where
 keep : Keep (fun k => B ≤ k ∧ ¬ p k) W W'
 cells : ∀ (k : Nat) (o : Obj), W'.heap[k]? = some o → o.isCells = true → W.heap[k]? = some o
theorem IStep.trans {B : Nat} {p : BSet} {W W1 W2 : World} (h : IStep B p W W1) (h' : IStep B p W1 W2) : IStep B p W W2 :=
 ⟨h.keep.trans h'.keep (fun _ h _ => h), fun k o hk hc => h.cells k o (h'.cells k o hk hc) hc⟩
theorem IStep.mono {B B' : Nat} {p p' : BSet} {W W' : World} (h : IStep B p W W') (hB : B' ≤ B) (hp : ∀ k, p' k → p k) : IStep B' p' W W' :=
 ⟨h.keep.mono (fun k h2 _ => ⟨Nat.le_trans hB h2.1, fun h3 => h2.2 (hp k h3)⟩), h.cells⟩
structure Rnd (p p' : BSet) (W W' : World) : Prop where
 own : ∀ k, k < W.heap.size → p' k → p k
 keep : Keep p W W'
theorem Rnd.refl (p : BSet) (W : World) : Rnd p p W W := ⟨fun _ _ h => h, Keep.refl _ _⟩
theorem Rnd.trans {p p1 p2 : BSet} {W W1 W2 : World} (h : Rnd p p1 W W1) (h' : Rnd p1 p2 W1 W2) : Rnd p p2 W W2 :=
 ⟨fun k hk h2 => h.own k hk (h'.own k (Nat.lt_of_lt_of_le hk h.keep.size) h2), h.keep.trans h'.keep (fun k h1 hk => h.own k hk h1)⟩
theorem Rnd.of_keep {p : BSet} {W W' : World} (h : Keep p W W') : Rnd p p W W' := ⟨fun _ _ h => h, h⟩
theorem Rnd.not {p p' : BSet} {W W' : World} (h : Rnd p p' W W') {k : Nat} (hk : k < W.heap.size) (hn : ¬ p k) : ¬ p' k := fun h2 => hn (h.own k hk h2)
theorem Rnd.same {p p' : BSet} {W W' : World} (h : Rnd p p' W W') {k : Nat} (hk : k < W.heap.size) (hn : ¬ p k) : W'.heap[k]? = W.heap[k]? := h.keep.block k hk hn

section
variable {P : Program} {n : Nat}
end
end Go.Proofs.YtghdibbooegocaaGreatDoor

namespace Go.Proofs.YtghdibbooegocaaGreatDoor
open Go.RowKit Go.Shelf

structure IStepU (U : TypeId) (B : Nat) (p : BSet) (W W' : World) : Prop where
 keep : Keep (fun k => B ≤ k ∧ ¬ p k) W W'
 cells : ∀ (k : Nat) c fz, W'.heap[k]? = some (.cells c U fz) → W.heap[k]? = some (.cells c U fz)
section
variable {U : TypeId} {B : Nat} {p : BSet} {W W1 W2 : World}
theorem IStepU.trans (h : IStepU U B p W W1) (h' : IStepU U B p W1 W2) : IStepU U B p W W2 :=
 ⟨h.keep.trans h'.keep (fun _ h _ => h), fun k c fz hk => h.cells k c fz (h'.cells k c fz hk)⟩
theorem IStepU.mono {B' : Nat} {p' : BSet} (h : IStepU U B p W W1) (hB : B' ≤ B) (hp : ∀ k, p' k → p k) : IStepU U B' p' W W1 :=
 ⟨h.keep.mono (fun k h2 _ => ⟨Nat.le_trans hB h2.1, fun h3 => h2.2 (hp k h3)⟩), h.cells⟩
end

section
variable {P : Program} {n : Nat}
def minePostU {α : Type} (I : List α → BSet → World → Prop) (Ix : Code → List α → BSet → World → Prop) (xs : List α) (p : BSet) (W : World) : Exit → Act → World → Prop
 | .normal, _, W' => ∃ p', Rnd p p' W W' ∧ I xs p' W'
 | .ret, _, W' => ∃ p', Rnd p p' W W' ∧ Ix .ret xs p' W'
 | .exit id, _, W' => ∃ p', Rnd p p' W W' ∧ Ix (.exit id) xs p' W'
 | .goto t, _, W' => ∃ p', Rnd p p' W W' ∧ Ix (.goto t) xs p' W'
 | .panic _, _, _ => False
 | .outgrown, _, _ => False

end
end Go.Proofs.YtghdibbooegocaaGreatDoor

namespace Go.Proofs.YtghdibbooegocaaGreatDoor
open Go.RowKit Go.Shelf

def IStepF (B : Nat) (p : BSet) (W W' : World) : Prop := Keep (fun k => B ≤ k ∧ ¬ p k) W W'
def KeepsOutF {β : Type} (B : Nat) (I : β → BSet → World → Prop) : Prop := ∀ s p W W', I s p W → IStepF B p W W' → I s p W'
section
variable {B : Nat} {p : BSet} {W W1 W2 : World}
theorem IStepF.keep (h : IStepF B p W W1) : Keep (fun k => B ≤ k ∧ ¬ p k) W W1 := h
theorem IStepF.alloc (o : Obj) : IStepF B p W (W.alloc o) := (Keep.refl _ _).alloc _
theorem IStepF.trans (h : IStepF B p W W1) (h' : IStepF B p W1 W2) : IStepF B p W W2 := Keep.trans h h' (fun _ h _ => h)
theorem IStepF.putObj {l : Nat} (o : Obj) (hB : B ≤ l) (hp : ¬ p l) : IStepF B p W (W.putObj l o) := (Keep.refl _ W).grown (grownBy_putObj' W l o) (fun g e hl => by cases e; exact ⟨hB, hp⟩)
theorem IStepF.mono {B' : Nat} {p' : BSet} (h : IStepF B p W W1) (hB : B' ≤ B) (hp : ∀ k, p' k → p k) : IStepF B' p' W W1 :=
 Keep.mono h (fun k h2 _ => ⟨Nat.le_trans hB h2.1, fun h3 => h2.2 (hp k h3)⟩)
end

section
variable {P : Program} {n : Nat}
def StopsF {α : Type} (P : Program) (m k : Nat) (gf : Nat) (lb : Array Value) (encs : α → Array Value) (H : World → Prop) (Fa : List α → World → Prop) (En : List α → α → Prop) (S Sp : List α → Prop) : Prop :=
 ∀ (L : Nat) (J Jx : List α → BSet → World → Prop) (p : BSet) (W : World), KeepsOutF W.heap.size J → KeepsOutF W.heap.size Jx → (∀ pre p W, J pre p W → ∀ k, p k → k < W.heap.size) → (∀ pre p W, J pre p W → Fa pre W) →
  (∀ pre x p W1, J pre p W1 → En pre x → YieldAt Fence.wide m P L (encs x) W1 fun e W' => ∃ p', Rnd p p' W1 W' ∧ ((e = .returned (.bool true) ∧ J (pre ++ [x]) p' W') ∨ (e = .returned (.bool false) ∧ Jx (pre ++ [x]) p' W'))) →
  J [] p W → (∀ k, p k → k < W.heap.size) → H W → (∀ O W1 W2, (∀ k, O k → p k ∨ W.heap.size ≤ k) → H W1 → Keep O W1 W2 → H W2) →
  CallsIn Fence.wide k P gf (#[.func (.yield L) #[] #[]] ++ lb) W fun e W' => (∃ v, e = .returned v) ∧ ∃ p', ((∃ xs, S xs ∧ J xs p' W') ∨ (∃ pre, Sp pre ∧ Jx pre p' W'))

theorem wpIn_rangeFunc_F {α : Type} {g : Operand} {ps : Array Tmp} {assign body : Code} {Q : Exit → Act → World → Prop} {a : Act} {w : World} {m : Nat}
  {gf : Nat} {lb : Array Value} (hg : a.eval g = .func (.func gf) #[] lb) (eg : ∀ args w, (callFunc gf args).run P w = .ok (.enter gf args) w)
  {encs : α → Array Value} {H : World → Prop} {Fa : List α → World → Prop} {En : List α → α → Prop} {S Sp : List α → Prop} (hit : StopsF P m (n - 1) gf lb encs H Fa En S Sp) (hps : ∀ x, (encs x).size = ps.size)
  (I : List α → BSet → World → Prop) (Ix : Code → List α → BSet → World → Prop) (hI : KeepsOutF w.heap.size I) (hIb : ∀ pre p W, I pre p W → ∀ k, p k → k < W.heap.size) (hFa : ∀ pre p W, I pre p W → Fa pre W) (hIx : ∀ c, KeepsOutF w.heap.size (Ix c)) {p0 : BSet} (h0 : I [] p0 w) (hp0 : ∀ k, p0 k → k < w.heap.size) (hH : H w) (hHk : ∀ O W1 W2, (∀ k, O k → p0 k ∨ w.heap.size ≤ k) → H W1 → Keep O W1 W2 → H W2)
  (Ax : List α → α → BSet → Act → World → Prop) (hAx : ∀ pre x a', KeepsOutF w.heap.size (fun (_ : Unit) p W => Ax pre x p a' W))
  (hassign : ∀ (l : Nat) (pre : List α) (x : α) (p : BSet) (W : World), I pre p W → En pre x →
   assign.wpIn (Fence.wide.inRound l) m P (Exit.then (fun a' W' => ∃ p', Rnd p p' W W' ∧ Ax pre x p' a' W') (fun _ _ _ => False)) { tmps := (ps.zip (encs x)).foldl (fun t (p, v) => t.setIfInBounds p v) a.tmps, defers := [] } W)
  (hbody : ∀ (l : Nat) (pre : List α) (x : α) (p : BSet) (a' : Act) (W : World), En pre x → Ax pre x p a' W → body.wpIn (Fence.wide.inRound l) m P (minePostU I Ix (pre ++ [x]) p W) a' W)
  (hdone : ∀ (D : Nat) (xs : List α) (p : BSet) (W : World), w.heap.size ≤ D → ¬ p D → S xs → I xs p W → W.heap[D]? = some (.deferred (some [])) → Q .normal { a with defers := { target := .collected D, args := #[] } :: a.defers } W)
  (hstop : ∀ (D : Nat) (c : Code) (pre : List α) (p : BSet) (W : World), w.heap.size ≤ D → ¬ p D → Sp pre → Ix c pre p W → W.heap[D]? = some (.deferred (some [])) → c.wpIn Fence.wide n P Q { a with defers := { target := .collected D, args := #[] } :: a.defers } W) :
  (Code.rangeFunc g ps assign body).wpIn Fence.wide n P Q a w := by
 refine wpIn_rangeFunc fun fn _ => ?_
 obtain ⟨rec, hrec⟩ : ∃ rec : LoopState → Option Code → Loop, rec = fun st pe => { state := st, pending := pe, fn, tmps := a.tmps, params := ps, assign, body, defers := w.heap.size } := ⟨_, rfl⟩
 obtain ⟨W1, hW1⟩ : ∃ W1, (w.alloc (.deferred (some []))).alloc (.loop (rec .ready none)) = W1 := ⟨_, rfl⟩
 have hL1 : W1.heap[w.heap.size + 1]? = some (.loop (rec .ready none)) := by
  rw [← hW1]; have := World.alloc_heap_new (w.alloc (.deferred (some []))) (.loop (rec .ready none)); rwa [World.size_alloc] at this
 have hD1 : W1.heap[w.heap.size]? = some (.deferred (some [])) := by
  rw [← hW1]; exact (Below.heap_alloc _ _ _ (by simp)).trans (World.alloc_heap_new w _)
 have hs1 : W1.heap.size = w.heap.size + 2 := by rw [← hW1]; simp
 have hB1 : H W1 := by
  rw [← hW1]; exact hHk NoB _ _ (fun k h => h.elim) hH (((Keep.refl _ _).alloc _).alloc _)
 have hI1 : I [] p0 W1 := hI _ _ _ _ h0 (by rw [← hW1]; exact (IStepF.alloc _).trans (IStepF.alloc _))
 have hput : ∀ {β : Type} {I' : β → BSet → World → Prop} (_ : KeepsOutF w.heap.size I') {s : β} {p : BSet} {W : World} (l' : Loop), I' s p W → ¬ p (w.heap.size + 1) → I' s p (W.putObj (w.heap.size + 1) (.loop l')) := by
  intro β I' h s p W l' hi hn
  exact h _ _ _ _ hi (IStepF.putObj _ (by omega) hn)
 refine ⟨w.heap.size + 1, [{ target := .collected w.heap.size, args := #[] }], W1, { target := .fn (.func gf) lb, args := #[.func (.yield (w.heap.size + 1)) #[] #[]] }, W1, gf,
  #[.func (.yield (w.heap.size + 1)) #[] #[]] ++ lb, W1, ?_, ?_, fun _ _ => trivial, ?_, (fun h => by cases h), ?_⟩
 ·rw [← hW1, hrec]; exact run_enterLoop_outer _ _ _ _ _
 ·simp only [resolve, hg]
  simp [go_sem]
 ·simp [invoke, go_sem, eg]
 refine (hit (w.heap.size + 1)
  (fun pre pj W => ∃ p, (pj = fun k => p k ∨ k = w.heap.size + 1) ∧ (¬ p (w.heap.size + 1) ∧ ¬ p w.heap.size) ∧ I pre p W ∧ W.heap[w.heap.size + 1]? = some (.loop (rec .ready none)) ∧ W.heap[w.heap.size]? = some (.deferred (some [])))
  (fun pre pj W => ∃ p, (pj = fun k => p k ∨ k = w.heap.size + 1) ∧ (¬ p (w.heap.size + 1) ∧ ¬ p w.heap.size) ∧ ∃ c, Ix c pre p W ∧ W.heap[w.heap.size + 1]? = some (.loop (rec .done (some c))) ∧ W.heap[w.heap.size]? = some (.deferred (some [])))
  (fun k => p0 k ∨ k = w.heap.size + 1) W1 ?_ ?_ ?_ ?_ ?_ ⟨p0, rfl, ⟨fun h => by have := hp0 _ h; omega, fun h => by have := hp0 _ h; omega⟩, hI1, hL1, hD1⟩ ?_ hB1 ?_).mono ?_
 ·rintro pre pj W W' ⟨p, rfl, hn, hi, hl, hd⟩ hk
  exact ⟨p, rfl, hn, hI _ _ _ _ hi (hk.mono (by omega) (fun k h2 => .inl h2)), (hk.keep.block _ (Array.getElem?_eq_some_iff.1 hl).1 (by rintro ⟨h, _⟩; omega)).trans hl, (hk.keep.block _ (Array.getElem?_eq_some_iff.1 hd).1 (by rintro ⟨h, _⟩; omega)).trans hd⟩
 ·rintro pre pj W W' ⟨p, rfl, hn, c, hi, hl, hd⟩ hk
  exact ⟨p, rfl, hn, c, hIx c _ _ _ _ hi (hk.mono (by omega) (fun k h2 => .inl h2)), (hk.keep.block _ (Array.getElem?_eq_some_iff.1 hl).1 (by rintro ⟨h, _⟩; omega)).trans hl, (hk.keep.block _ (Array.getElem?_eq_some_iff.1 hd).1 (by rintro ⟨h, _⟩; omega)).trans hd⟩
 ·rintro pre pj W ⟨p, rfl, _, hi, hl, _⟩ k (hk | rfl)
  ·exact hIb _ _ _ hi k hk
  ·exact (Array.getElem?_eq_some_iff.1 hl).1
 ·rintro pre pj W ⟨p, rfl, _, hi, _⟩
  exact hFa _ _ _ hi
 ·rintro pre x pj W ⟨p, rfl, ⟨hnl, hnd⟩, hi, hl, hd⟩ hen
  have hlt : w.heap.size + 1 < W.heap.size := (Array.getElem?_eq_some_iff.1 hl).1
  have hy := run_yield (P := P) (args := encs x) hl (by rw [hrec]; exact hps x)
  rw [hrec] at hy
  refine ⟨fn, _, assign, body, hy, roundIn_of_wpIn trivial (wpIn_mono (hassign _ pre x p W hi hen) ?_)⟩
  clear hy
  intro e a₁ Wa hq
  cases e with
  | normal =>
   obtain ⟨p1, hr1, hax⟩ := hq
   have hl1 := (hr1.same hlt hnl).trans hl
   have hd1 := (hr1.same (by omega) hnd).trans hd
   have hnl1 := hr1.not hlt hnl
   have hnd1 := hr1.not (by omega) hnd
   have hlt1 : w.heap.size + 1 < Wa.heap.size := (Array.getElem?_eq_some_iff.1 hl1).1
   refine ⟨_, run_beginRound hl1 (by rw [hrec]), ?_⟩
   have hl2 : (Wa.putObj (w.heap.size + 1) (.loop { rec .ready none with state := .busy })).heap[w.heap.size + 1]? = some (.loop { rec .ready none with state := .busy }) := World.putObj_heap_same hlt1
   have hd2 : (Wa.putObj (w.heap.size + 1) (.loop { rec .ready none with state := .busy })).heap[w.heap.size]? = some (.deferred (some [])) := (World.putObj_heap_other (by omega)).trans hd1
   have hkl : Keep (fun k => p k ∨ k = w.heap.size + 1) W (Wa.putObj (w.heap.size + 1) (.loop { rec .ready none with state := .busy })) :=
    (hr1.keep.mono (fun k h _ => .inl h)).grown (grownBy_putObj' Wa (w.heap.size + 1) _) (fun g e _ => by cases e; exact .inr rfl)
   have hz2 : (Wa.putObj (w.heap.size + 1) (.loop { rec .ready none with state := .busy })).heap.size = Wa.heap.size := by simp [World.putObj]
   refine wpIn_mono (hbody _ pre x p1 a₁ _ hen (hput (hAx pre x a₁) (s := ()) _ hax hnl1)) ?_
   have fin : ∀ (jump : Option Code) (p2 : BSet) (W3 : World), Rnd p1 p2 (Wa.putObj (w.heap.size + 1) (.loop { rec .ready none with state := .busy })) W3 →
     (Instr.endRound (w.heap.size + 1) jump).run P W3 = .ok (.bool jump.isNone) (W3.putObj (w.heap.size + 1) (.loop (rec (if jump.isNone then .ready else .done) jump))) ∧
     (W3.putObj (w.heap.size + 1) (.loop (rec (if jump.isNone then .ready else .done) jump))).heap[w.heap.size + 1]? = some (.loop (rec (if jump.isNone then .ready else .done) jump)) ∧
     (W3.putObj (w.heap.size + 1) (.loop (rec (if jump.isNone then .ready else .done) jump))).heap[w.heap.size]? = some (.deferred (some [])) ∧
     (¬ p2 (w.heap.size + 1) ∧ ¬ p2 w.heap.size) ∧
     Rnd (fun k => p k ∨ k = w.heap.size + 1) (fun k => p2 k ∨ k = w.heap.size + 1) W (W3.putObj (w.heap.size + 1) (.loop (rec (if jump.isNone then .ready else .done) jump))) := fun jump p2 W3 hr2 => by
    have hl3 := (hr2.same (by rw [hz2]; exact hlt1) hnl1).trans hl2
    have hd3 := (hr2.same (by rw [hz2]; omega) hnd1).trans hd2
    have := run_endRound (P := P) jump hl3
    rw [hrec] at this ⊢
    refine ⟨this, World.putObj_heap_same (Array.getElem?_eq_some_iff.1 hl3).1, (World.putObj_heap_other (by omega)).trans hd3, ⟨hr2.not (by rw [hz2]; exact hlt1) hnl1, hr2.not (by rw [hz2]; omega) hnd1⟩, ⟨fun k hk h => ?_, ?_⟩⟩
    ·rcases h with h | h
     ·exact .inl (hr1.own k hk (hr2.own k (by rw [hz2]; exact Nat.lt_of_lt_of_le hk hr1.keep.size) h))
     ·exact .inr h
    ·rw [hrec] at hkl hr2
     exact (hkl.trans hr2.keep (fun k h hk => .inl (hr1.own k hk h))).grown (grownBy_putObj' W3 (w.heap.size + 1) _) (fun g e _ => by cases e; exact .inr rfl)
   rintro e a3 W3 hp
   cases e with
   | normal =>
    obtain ⟨p2, hr2, hi3⟩ := hp
    obtain ⟨hr, hl4, hd4, hn4, hR⟩ := fin none p2 W3 hr2
    exact ⟨_, _, hr, ⟨_, hR, .inl ⟨rfl, p2, rfl, hn4, hput hI _ hi3 hn4.1, hl4, hd4⟩⟩⟩
   | ret =>
    obtain ⟨p2, hr2, hi3⟩ := hp
    obtain ⟨hr, hl4, hd4, hn4, hR⟩ := fin (some .ret) p2 W3 hr2
    exact ⟨_, _, hr, ⟨_, hR, .inr ⟨rfl, p2, rfl, hn4, .ret, hput (hIx _) _ hi3 hn4.1, hl4, hd4⟩⟩⟩
   | exit id =>
    obtain ⟨p2, hr2, hi3⟩ := hp
    obtain ⟨hr, hl4, hd4, hn4, hR⟩ := fin (some (.exit id)) p2 W3 hr2
    exact ⟨_, _, hr, ⟨_, hR, .inr ⟨rfl, p2, rfl, hn4, .exit id, hput (hIx _) _ hi3 hn4.1, hl4, hd4⟩⟩⟩
   | goto t =>
    obtain ⟨p2, hr2, hi3⟩ := hp
    obtain ⟨hr, hl4, hd4, hn4, hR⟩ := fin (some (.goto t)) p2 W3 hr2
    exact ⟨_, _, hr, ⟨_, hR, .inr ⟨rfl, p2, rfl, hn4, .goto t, hput (hIx _) _ hi3 hn4.1, hl4, hd4⟩⟩⟩
   | panic ch => exact hp.elim
   | outgrown => exact hp.elim
  | exit id => exact hq
  | goto t => exact hq
  | ret => exact hq
  | panic c => exact hq
  | outgrown => exact hq
 ·rintro k (h | h)
  ·have := hp0 k h; omega
  ·omega
 ·intro O X1 X2 hO h1 h2
  refine hHk O X1 X2 (fun k hk => ?_) h1 h2
  rcases hO k hk with (h | h) | h
  ·exact .inl h
  ·exact .inr (by omega)
  ·exact .inr (by omega)
 ·rintro e W2 ⟨⟨v, rfl⟩, pj, (⟨xs, hS, p, rfl, hn, hi, hl, hd⟩ | ⟨pre, hSp, p, rfl, hn, c, hi, hl, hd⟩)⟩
  ·exact ⟨none, _, by have := run_endLoop (P := P) hl (by rw [hrec]; simp); rw [hrec] at this; exact this, hdone _ xs p _ (Nat.le_refl _) hn.2 hS (hput hI _ hi hn.1) ((World.putObj_heap_other (by omega)).trans hd)⟩
  ·exact ⟨some c, _, by have := run_endLoop (P := P) hl (by rw [hrec]; simp); rw [hrec] at this; exact this, hstop _ c pre p _ (Nat.le_refl _) hn.2 hSp (hput (hIx c) _ hi hn.1) ((World.putObj_heap_other (by omega)).trans hd)⟩
end
end Go.Proofs.YtghdibbooegocaaGreatDoor
