/-
  Part 6 of the proofs of GAsksRow: what is laid, and what the functions that the law runs answer. Conditions: each theorem names its own.
-/
import Derived.ArgAppend
import Derived.Maps.Keyed
import Derived.Maps.Own
import Derived.Maps.OwnIn
import Derived.Maps.OwnOps
import Derived.Maps.OwnSet
import Derived.Maps.RangeWalk
import Derived.Maps.Views
import Derived.WalkArith
import Derived.Test.YtghdibbooegocaaGreatDoorQB5
namespace Go.Proofs.YtghdibbooegocaaGreatDoor.G
open Go.RowKit

def posL (wl : List Nat) (y : Nat) : Nat := (lookN wl.zipIdx (y : Int)).getD 0
section
variable {wl : List Nat}
theorem zip_at (i : Nat) : wl.zipIdx[i]? = wl[i]?.map fun y => (y, i) := by rw [List.getElem?_zipIdx]; simp
theorem zip_keys : keysN wl.zipIdx = wl := by unfold keysN; simp
theorem pos_at (hd : wl.Nodup) {i y : Nat} (h : wl[i]? = some y) : posL wl y = i := by
 unfold posL
 rw [look_mem (i := i) (e := (y, i)) (by rw [zip_keys]; exact hd) (by rw [zip_at, h]; rfl)]
 rfl
theorem pos_off {y : Nat} (h : y ∉ wl) : posL wl y = 0 := by
 unfold posL
 rw [look_nat.2 (by rw [zip_keys]; exact h)]
 rfl
theorem at_inj (hd : wl.Nodup) {i j y : Nat} (hi : wl[i]? = some y) (hj : wl[j]? = some y) : i = j := by rw [← pos_at hd hi, pos_at hd hj]

def farR (wl : List Nat) (f : Nat) (l : List Nat) : Nat := l.foldl (fun f x => max f (posL wl x)) f
def farS (s : Nat → List Nat) (wl : List Nat) (f : Nat) (l : List Nat) : Nat := l.foldl (fun f p => farR wl f (s p)) f
theorem farR_snoc (f : Nat) (l : List Nat) (x : Nat) : farR wl f (l ++ [x]) = max (farR wl f l) (posL wl x) := by unfold farR; rw [List.foldl_append]; rfl
theorem farS_snoc (s : Nat → List Nat) (f : Nat) (l : List Nat) (x : Nat) : farS s wl f (l ++ [x]) = farR wl (farS s wl f l) (s x) := by unfold farS; rw [List.foldl_append]; rfl
theorem farR_ge : ∀ (l : List Nat) (f : Nat), f ≤ farR wl f l ∧ ∀ x ∈ l, posL wl x ≤ farR wl f l
 | [], f => ⟨Nat.le_refl _, by simp⟩
 | x :: r, f => by
  obtain ⟨h1, h2⟩ := farR_ge r (max f (posL wl x))
  show f ≤ farR wl (max f (posL wl x)) r ∧ ∀ y ∈ x :: r, posL wl y ≤ farR wl (max f (posL wl x)) r
  refine ⟨by omega, fun y hy => ?_⟩
  rcases List.mem_cons.1 hy with rfl | hy
  ·omega
  ·exact h2 y hy
theorem farR_is : ∀ (l : List Nat) (f : Nat), farR wl f l = f ∨ ∃ x ∈ l, farR wl f l = posL wl x
 | [], f => .inl rfl
 | x :: r, f => by
  have h := farR_is r (max f (posL wl x))
  have e : farR wl f (x :: r) = farR wl (max f (posL wl x)) r := rfl
  rw [e]
  rcases h with h | ⟨y, hy, h⟩
  ·rw [h]
   rcases Nat.le_total f (posL wl x) with g | g
   ·exact .inr ⟨x, by simp, by omega⟩
   ·exact .inl (by omega)
  ·exact .inr ⟨y, by simp [hy], h⟩
theorem farS_ge {s : Nat → List Nat} : ∀ (l : List Nat) (f : Nat), f ≤ farS s wl f l ∧ ∀ p ∈ l, ∀ x ∈ s p, posL wl x ≤ farS s wl f l
 | [], f => ⟨Nat.le_refl _, by simp⟩
 | p :: r, f => by
  obtain ⟨h1, h2⟩ := farS_ge (s := s) r (farR wl f (s p))
  obtain ⟨h3, h4⟩ := farR_ge (wl := wl) (s p) f
  have e : farS s wl f (p :: r) = farS s wl (farR wl f (s p)) r := rfl
  rw [e]
  refine ⟨by omega, fun q hq x hx => ?_⟩
  rcases List.mem_cons.1 hq with rfl | hq
  ·have := h4 x hx; omega
  ·exact h2 q hq x hx
theorem farS_is {s : Nat → List Nat} : ∀ (l : List Nat) (f : Nat), farS s wl f l = f ∨ ∃ p ∈ l, ∃ x ∈ s p, farS s wl f l = posL wl x
 | [], f => .inl rfl
 | p :: r, f => by
  have e : farS s wl f (p :: r) = farS s wl (farR wl f (s p)) r := rfl
  rw [e]
  rcases farS_is (s := s) r (farR wl f (s p)) with h | ⟨q, hq, x, hx, h⟩
  ·rw [h]
   rcases farR_is (wl := wl) (s p) f with g | ⟨x, hx, g⟩
   ·exact .inl g
   ·exact .inr ⟨p, by simp, x, hx, g⟩
  ·exact .inr ⟨q, by simp [hq], x, hx, h⟩
theorem pos_le (hl : 0 < wl.length) (y : Nat) : posL wl y < wl.length := by
 unfold posL
 cases h : lookN wl.zipIdx (y : Int) with
 | none => exact hl
 | some v =>
  obtain ⟨i, e, hi, _, h2⟩ := look_some h
  have hlt := (List.getElem?_eq_some_iff.1 hi).1
  rw [zip_at] at hi
  obtain ⟨z, _, hz⟩ := Option.map_eq_some_iff.1 hi
  subst hz
  subst h2
  simpa using hlt
theorem farS_lt {s : Nat → List Nat} (hl : 0 < wl.length) {f : Nat} (hf : f < wl.length) (l : List Nat) : farS s wl f l < wl.length := by
 rcases farS_is (s := s) (wl := wl) l f with h | ⟨p, _, x, _, h⟩
 ·rw [h]; exact hf
 ·rw [h]; exact pos_le hl x
end

/-! ### Ways put together -/
section
variable {s : Nat → List Nat}
theorem way_join {src : List Nat} {a b : Nat} {l m : List Nat} (h : Way s src a l) (h' : Way s [a] b m) : ∃ r, Way s src b r ∧ ∀ z ∈ r, z ∈ l ∨ z ∈ m := by
 induction h' with
 | start hs => rw [List.mem_singleton] at hs; subst hs; exact ⟨l, h, fun z hz => .inl hz⟩
 | @step b c m _ hc ih =>
  obtain ⟨r, hr, h2⟩ := ih
  refine ⟨c :: r, .step hr hc, fun z hz => ?_⟩
  rcases List.mem_cons.1 hz with rfl | hz
  ·exact .inr (by simp)
  ·exact (h2 z hz).elim .inl fun h => .inr (by simp [h])
structure Path (s : Nat → List Nat) (wl : List Nat) (fr at0 : Nat) : Prop where
 pos : 0 < wl.length
 first : wl[0]? = some fr
 last : wl[wl.length - 1]? = some at0
 edge : ∀ i x y, wl[i]? = some x → wl[i + 1]? = some y → y ∈ s x
 nodup : wl.Nodup
theorem path_of {fr a : Nat} {l : List Nat} (h : Way s [fr] a l) (hd : l.Nodup) : Path s l.reverse fr a := by
 have key : ∀ (a : Nat) (l : List Nat), Way s [fr] a l → (∃ r, l.reverse = fr :: r) ∧ (∃ r, l.reverse = r ++ [a]) ∧ ∀ (i x y : Nat), l.reverse[i]? = some x → l.reverse[i + 1]? = some y → y ∈ s x := by
  intro a l h
  induction h with
  | start hs =>
   rw [List.mem_singleton] at hs
   subst hs
   exact ⟨⟨[], rfl⟩, ⟨[], rfl⟩, fun i x y _ hy => by simp at hy⟩
  | @step a b l hw hb ih =>
   obtain ⟨⟨r1, e1⟩, ⟨r2, e2⟩, e3⟩ := ih
   refine ⟨⟨r1 ++ [b], by rw [List.reverse_cons, e1]; rfl⟩, ⟨l.reverse, by rw [List.reverse_cons]⟩, fun i x y hx hy => ?_⟩
   rw [List.reverse_cons] at hx hy
   rcases Nat.lt_trichotomy (i + 1) l.reverse.length with h | h | h
   ·rw [List.getElem?_append_left (by omega)] at hx
    rw [List.getElem?_append_left h] at hy
    exact e3 i x y hx hy
   ·rw [List.getElem?_append_left (by omega)] at hx
    rw [List.getElem?_append_right (by omega), show i + 1 - l.reverse.length = 0 by omega] at hy
    have hby : b = y := by simpa using hy
    subst hby
    rw [e2] at hx h
    rw [List.length_append, List.length_singleton] at h
    rw [List.getElem?_append_right (by omega), show i - r2.length = 0 by omega] at hx
    have hax : a = x := by simpa using hx
    subst hax
    exact hb
   ·rw [List.getElem?_append_right (by omega)] at hy
    have h3 : 1 ≤ i + 1 - l.reverse.length := by omega
    rw [List.getElem?_eq_none (by rw [List.length_singleton]; exact h3)] at hy
    cases hy
 obtain ⟨⟨r1, e1⟩, ⟨r2, e2⟩, e3⟩ := key a l h
 refine ⟨by rw [e1]; simp, by rw [e1]; rfl, ?_, e3, ?_⟩
 ·rw [e2, List.length_append]
  simp
 ·exact List.pairwise_reverse.2 (hd.imp fun h e => h e.symm)
variable {wl : List Nat} {fr at0 : Nat}
theorem Path.seg (h : Path s wl fr at0) {j x : Nat} (hj : wl[j]? = some x) : ∀ (d y : Nat), wl[j + d]? = some y → ∃ l, Way s [x] y l ∧ ∀ z ∈ l, ∃ t, j ≤ t ∧ t ≤ j + d ∧ wl[t]? = some z
 | 0, y, hy => by
  rw [Nat.add_zero, hj] at hy
  cases hy
  exact ⟨[x], .start (by simp), fun z hz => by rw [List.mem_singleton] at hz; subst hz; exact ⟨j, Nat.le_refl _, by omega, hj⟩⟩
 | d + 1, y, hy => by
  have hlt := (List.getElem?_eq_some_iff.1 hy).1
  have hm : wl[j + d]? = some wl[j + d] := List.getElem?_eq_getElem (by omega)
  obtain ⟨l, hw, hl⟩ := Path.seg h hj d _ hm
  refine ⟨y :: l, .step hw (h.edge (j + d) _ _ hm hy), fun z hz => ?_⟩
  rcases List.mem_cons.1 hz with rfl | hz
  ·exact ⟨j + d + 1, by omega, by omega, hy⟩
  ·obtain ⟨t, t1, t2, t3⟩ := hl z hz
   exact ⟨t, t1, by omega, t3⟩

structure Nar (s : Nat → List Nat) (wl : List Nat) (V : Nat → Prop) (i far : Nat) : Prop where
 off : ∀ q, V q → q ∉ wl
 way : ∀ q, V q → ∃ a wa, a < i ∧ wl[a]? = some wa ∧ ∃ l, Way s [wa] q l ∧ ∀ z ∈ l, z = wa ∨ z ∉ wl
 next : ∀ q, (V q ∨ ∃ a, a < i ∧ wl[a]? = some q) → ∀ x ∈ s q, V x ∨ ∃ j, wl[j]? = some x ∧ j ≤ far
 far : far = 0 ∨ ∃ a wa x, a < i ∧ wl[a]? = some wa ∧ wl[far]? = some x ∧ ∃ l, Way s [wa] x l ∧ ∀ z ∈ l, z = wa ∨ z = x ∨ z ∉ wl
theorem Nar.start (s : Nat → List Nat) (wl : List Nat) : Nar s wl (fun _ => False) 0 0 :=
 ⟨fun _ h => h.elim, fun _ h => h.elim, fun q h => by rcases h with h | ⟨a, h, _⟩; exact h.elim; omega, .inl rfl⟩
variable {V : Nat → Prop} {i far : Nat}
theorem Nar.step (hp : Path s wl fr at0) (h : Nar s wl V i far) {p : Nat} (hi : wl[i]? = some p) {op : Nat → Bool} {met : List (Nat × Nat)} (hm : Near s op p met.length met) (ho : ∀ y, op y = true ↔ y ∉ wl ∧ ¬ V y) :
  Nar s wl (fun y => V y ∨ (y ∈ keysN met ∧ y ∉ wl)) (i + 1) (farS s wl far (keysN met)) := by
 obtain ⟨g1, g2⟩ := farS_ge (s := s) (wl := wl) (keysN met) far
 refine ⟨?_, ?_, ?_, ?_⟩
 ·rintro q (hq | ⟨_, hq⟩)
  ·exact h.off q hq
  ·exact hq
 ·rintro q (hq | ⟨hq, _⟩)
  ·obtain ⟨a, wa, a1, a2, a3⟩ := h.way q hq
   exact ⟨a, wa, by omega, a2, a3⟩
  ·obtain ⟨l, hw, hl⟩ := hm.way q hq
   exact ⟨i, p, by omega, hi, l, hw, fun z hz => (hl z hz).elim .inl fun e => .inr ((ho z).1 e).1⟩
 ·intro q hq x hx
  have hnew : q ∈ keysN met → (V x ∨ (x ∈ keysN met ∧ x ∉ wl)) ∨ ∃ j, wl[j]? = some x ∧ j ≤ farS s wl far (keysN met) := fun hqm => by
   by_cases hw : x ∈ wl
   ·obtain ⟨j, hj⟩ := List.getElem?_of_mem hw
    refine .inr ⟨j, hj, ?_⟩
    have := g2 q hqm x hx
    rw [pos_at hp.nodup hj] at this
    exact this
   ·rcases hm.closed_all hqm x hx with e | e
    ·exact .inl (.inr ⟨e, hw⟩)
    ·by_cases hv : V x
     ·exact .inl (.inl hv)
     ·rw [(ho x).2 ⟨hw, hv⟩] at e; cases e
  rcases hq with (hq | ⟨hq, _⟩) | ⟨a, ha, hq⟩
  ·rcases h.next q (.inl hq) x hx with e | ⟨j, e, hj⟩
   ·exact .inl (.inl e)
   ·exact .inr ⟨j, e, by omega⟩
  ·exact hnew hq
  ·rcases Nat.lt_or_eq_of_le (Nat.le_of_lt_succ ha) with hlt | rfl
   ·rcases h.next q (.inr ⟨a, hlt, hq⟩) x hx with e | ⟨j, e, hj⟩
    ·exact .inl (.inl e)
    ·exact .inr ⟨j, e, by omega⟩
   ·rw [hi] at hq
    cases hq
    exact hnew hm.fr_mem
 ·rcases farS_is (s := s) (wl := wl) (keysN met) far with e | ⟨q, hq, x, hx, e⟩
  ·rw [e]
   rcases h.far with h0 | ⟨a, wa, x, a1, a2⟩
   ·exact .inl h0
   ·exact .inr ⟨a, wa, x, by omega, a2⟩
  ·rw [e]
   by_cases hw : x ∈ wl
   ·obtain ⟨j, hj⟩ := List.getElem?_of_mem hw
    rw [pos_at hp.nodup hj]
    obtain ⟨l, hwy, hl⟩ := hm.way q hq
    refine .inr ⟨i, p, x, by omega, hi, hj, x :: l, .step hwy hx, fun z hz => ?_⟩
    rcases List.mem_cons.1 hz with rfl | hz
    ·exact .inr (.inl rfl)
    ·exact (hl z hz).elim .inl fun e => .inr (.inr ((ho z).1 e).1)
   ·rw [pos_off hw]; exact .inl rfl
theorem Nar.ge (hp : Path s wl fr at0) (h : Nar s wl V i far) (hi : i < wl.length) : i ≤ far := by
 cases i with
 | zero => exact Nat.zero_le _
 | succ i =>
  have h1 : wl[i]? = some wl[i] := List.getElem?_eq_getElem (by omega)
  have h2 : wl[i + 1]? = some wl[i + 1] := List.getElem?_eq_getElem hi
  rcases h.next wl[i] (.inr ⟨i, by omega, h1⟩) wl[i + 1] (hp.edge i _ _ h1 h2) with e | ⟨j, hj, hjf⟩
  ·exact absurd (List.getElem_mem _) (h.off _ e)
  ·rw [at_inj hp.nodup h2 hj]; exact hjf
theorem Nar.must (hp : Path s wl fr at0) (h : Nar s wl V i far) {p : Nat} (hi : wl[i]? = some p) : far = i ↔ Must s [fr] at0 p := by
 have hil := (List.getElem?_eq_some_iff.1 hi).1
 have hge := h.ge hp hil
 constructor
 ·intro hf
  apply Classical.byContradiction
  intro hn
  obtain ⟨l, hw, hl⟩ := must_iff.1 hn
  have key : ∀ (a : Nat) (l : List Nat), Way s [fr] a l → (∀ z ∈ l, z ≠ p) → V a ∨ ∃ j, j < i ∧ wl[j]? = some a := by
   intro a l hw
   induction hw with
   | start hs =>
    intro hl
    rw [List.mem_singleton] at hs
    subst hs
    refine .inr ⟨0, ?_, hp.first⟩
    rcases Nat.eq_zero_or_pos i with h0 | h0
    ·subst h0
     rw [hp.first] at hi
     cases hi
     exact absurd rfl (hl _ (by simp))
    ·exact h0
   | @step a b l hw hb ih =>
    intro hl
    have hq := ih fun z hz => hl z (by simp [hz])
    rcases h.next a (hq.imp id fun ⟨j, j1, j2⟩ => ⟨j, j1, j2⟩) b hb with e | ⟨j, hj, hjf⟩
    ·exact .inl e
    ·refine .inr ⟨j, ?_, hj⟩
     rcases Nat.lt_or_eq_of_le (hf ▸ hjf) with hlt | rfl
     ·exact hlt
     ·rw [hi] at hj
      cases hj
      exact absurd rfl (hl _ (by simp))
  rcases key at0 l hw hl with e | ⟨j, hj, e⟩
  ·exact h.off _ e (List.mem_of_getElem? hp.last)
  ·have := at_inj hp.nodup e hp.last
   omega
 ·intro hmust
  apply Classical.byContradiction
  intro hne
  have hlt : i < far := by omega
  rcases h.far with h0 | ⟨a, wa, x, ha, hwa, hx, l, hw, hl⟩
  ·omega
  ·have hfl := (List.getElem?_eq_some_iff.1 hx).1
   obtain ⟨l1, hw1, hl1⟩ := hp.seg hp.first a wa (by rw [Nat.zero_add]; exact hwa)
   obtain ⟨l3, hw3, hl3⟩ := hp.seg hx (wl.length - 1 - far) at0 (by rw [show far + (wl.length - 1 - far) = wl.length - 1 by omega]; exact hp.last)
   obtain ⟨r1, hr1, hm1⟩ := way_join hw1 hw
   obtain ⟨r2, hr2, hm2⟩ := way_join hr1 hw3
   have hz := hmust r2 hr2
   rcases hm2 p hz with hz | hz
   ·rcases hm1 p hz with hz | hz
    ·obtain ⟨t, _, t2, t3⟩ := hl1 p hz
     have := at_inj hp.nodup t3 hi
     omega
    ·rcases hl p hz with rfl | rfl | e
     ·have := at_inj hp.nodup hwa hi; omega
     ·have := at_inj hp.nodup hx hi; omega
     ·exact e (List.mem_of_getElem? hi)
   ·obtain ⟨t, t1, _, t3⟩ := hl3 p hz
    have := at_inj hp.nodup t3 hi
    omega
end
end Go.Proofs.YtghdibbooegocaaGreatDoor.G

namespace Go.Proofs.YtghdibbooegocaaGreatDoor
open Go.RowKit Go.Maps

def Says (D : DataW Unit) (g : Int → Option Nat) : Prop :=
 ∀ h : Int, (g h = none → has D (.int .i64 h) = false) ∧ ∀ v, g h = some v → has D (.int .i64 h) = true ∧ ∀ z, D.atKey (.int .i64 h) z = .lit (.int .i64 (v : Int))
def OMap (P : Program) (k e : TypeId) (b n : Nat) (g : Int → Option Nat) (w : World) : Prop :=
 ∃ D : DataW Unit, w.ownsMap P k (plainElem P e) b n D ∧ Tidy D ∧ Says D g
def ORng (P : Program) (k e : TypeId) (b r n : Nat) (g : Int → Option Nat) (left : Int → Bool) (cnt : Nat) (w : World) : Prop :=
 ∃ (D : DataW Unit) (lf : Lit → Bool), w.ranges P k (plainElem P e) b r n D lf cnt ∧ Tidy D ∧ Says D g ∧ ∀ h : Int, lf (.int .i64 h) = left h
def putO (f : Int → Option Nat) (x : Int) (v : Nat) : Int → Option Nat := fun y => if y = x then some v else f y
def delO (f : Int → Option Nat) (x : Int) : Int → Option Nat := fun y => if y = x then none else f y
theorem litO_ne {a b : Int} (h : a ≠ b) : (Lit.int .i64 a) ≠ .int .i64 b := fun e => by injection e with _ e; exact h e
theorem isKeyO (x : Int) : WideAt.IsKeyLit (.int .i64 x) := by unfold WideAt.IsKeyLit; trivial

section
variable {P : Program} {k e t : TypeId} {b r n : Nat} {g : Int → Option Nat} {w w' : World}
theorem OMap.new (P : Program) (k e : TypeId) (w : World) : OMap P k e w.heap.size 0 (fun _ => none) (w.alloc (.map #[] 0)) :=
 ⟨.map [], World.ownsMap_made w P k _, tidy_empty, fun _ => ⟨fun _ => rfl, fun _ h => nomatch h⟩⟩
theorem OMap.lt (h : OMap P k e b n g w) : b < w.heap.size := by obtain ⟨_, h, _⟩ := h; exact h.lt
theorem OMap.obj (h : OMap P k e b n g w) : ∃ es c, w.heap[b]? = some (.map es c) := by
 obtain ⟨_, ⟨es, c, hb, _⟩, _⟩ := h
 exact ⟨es, c, hb⟩
theorem OMap.grown {row : Option Nat} (h : OMap P k e b n g w) (hg : w.grownBy w' row) (hne : some b ≠ row) : OMap P k e b n g w' := by
 obtain ⟨D, h1, h2, h3⟩ := h
 exact ⟨D, h1.kept hg hne, h2, h3⟩
theorem OMap.keep {O : Nat → Prop} (h : OMap P k e b n g w) (hk : Keep O w w') (hb : ¬ O b) : OMap P k e b n g w' := by
 obtain ⟨D, ⟨es, c, h0, hr⟩, h2, h3⟩ := h
 exact ⟨D, ⟨es, c, (hk.block b (Array.getElem?_eq_some_iff.1 h0).1 hb).trans h0, hr⟩, h2, h3⟩
theorem OMap.mono {m : Nat} (h : OMap P k e b n g w) (hm : n ≤ m) : OMap P k e b m g w := by
 obtain ⟨D, h1, h2, h3⟩ := h
 exact ⟨D, h1.mono hm, h2, h3⟩
theorem OMap.congr {f : Int → Option Nat} (h : OMap P k e b n g w) (hg : ∀ x, f x = g x) : OMap P k e b n f w := by
 obtain ⟨D, h1, h2, h3⟩ := h
 exact ⟨D, h1, h2, fun x => by rw [hg]; exact h3 x⟩
theorem says_put {D : DataW Unit} (hD : IsMap D) (h : Says D g) (x : Int) (v : Nat) : Says (D.put (.int .i64 x) (.lit (.int .i64 (v : Int)))) (putO g x v) := by
 intro y
 unfold putO
 by_cases he : y = x
 ·subst he
  rw [if_pos rfl]
  refine ⟨fun h => (nomatch h), fun u hu => ?_⟩
  cases hu
  exact ⟨has_put_same hD (isKeyO y) _, fun z => atKey_put_same hD (isKeyO y) _ z⟩
 ·rw [if_neg he, has_put_other (litO_ne he)]
  refine ⟨(h y).1, fun u hu => ⟨((h y).2 u hu).1, fun z => ?_⟩⟩
  rw [atKey_put_other (litO_ne he)]
  exact ((h y).2 u hu).2 z
theorem says_del {D : DataW Unit} (h : Says D g) (x : Int) : Says (D.del (.int .i64 x)) (delO g x) := by
 intro y
 unfold delO
 by_cases he : y = x
 ·subst he
  rw [if_pos rfl]
  exact ⟨fun _ => has_del_same, fun u hu => by cases hu⟩
 ·rw [if_neg he, has_del_other (litO_ne he)]
  refine ⟨(h y).1, fun u hu => ⟨((h y).2 u hu).1, fun z => ?_⟩⟩
  rw [atKey_del_other (litO_ne he)]
  exact ((h y).2 u hu).2 z
theorem OMap.update (h : OMap P k e b n g w) (ht : P.underlying t = some (.map k e)) (hk : P.underlying k = some (.int .i64)) (he : P.underlying e = some (.int .i64)) (hn : n < maxLen) (x : Int) (v : Nat) (hx : (Lit.int .i64 x).wf = true) (hv : (Lit.int .i64 (v : Int)).wf = true) :
  ∃ w', (Instr.mapUpdate t (.map (some b)) (.int .i64 x) (.int .i64 (v : Int))).run P w = .ok () w' ∧ OMap P k e b (n + 1) (putO g x v) w' ∧ w.grownBy w' (some b) := by
 obtain ⟨D, h1, h2, h3⟩ := h
 obtain ⟨w', hrun, r1, r2⟩ := h1.update (int_keyed hk) ht hn (keyOf_int_mk hk hx) (plainElem_int he hv)
 exact ⟨w', hrun, ⟨_, r1, h2.put (isKeyO x) _, says_put h2.isMap h3 x v⟩, r2⟩
theorem OMap.size_le (h : OMap P k e b n g w) : ∃ m, m ≤ n ∧ ∀ (t : TypeId), P.underlying t = some (.map k e) → ∀ ty : TypeId, (Builtin.len_ #[t] ty #[.map (some b)]).run P w = .ok (.int .i64 (m : Nat)) w := by
 obtain ⟨D, h1, _, _⟩ := h
 exact ⟨Maps.size D, h1.size_le, fun t ht ty => h1.len ht ty⟩
theorem OMap.look (h : OMap P k e b n g w) (ht : P.underlying t = some (.map k e)) (hk : P.underlying k = some (.int .i64)) (he : P.underlying e = some (.int .i64)) (hz : (zeroValue e).run P w = .ok (.int .i64 0) w) (x : Int) (hx : (Lit.int .i64 x).wf = true) :
  (Instr.lookup t (.map (some b)) (.int .i64 x) false).run P w = .ok (.int .i64 (((g x).getD 0 : Nat) : Int)) w := by
 obtain ⟨D, h1, h2, h3⟩ := h
 obtain ⟨c, hrun, hat, _⟩ := h1.lookup_int (int_keyed hk) ht he hz (keyOf_int_mk hk hx)
 cases hg : g x with
 | none =>
  rw [atKey_of_not_has ((h3 x).1 hg)] at hat
  injection hat with hat
  injection hat with _ hat
  rw [← hat] at hrun
  exact hrun
 | some v =>
  rw [((h3 x).2 v hg).2] at hat
  injection hat with hat
  injection hat with _ hat
  rw [← hat] at hrun
  exact hrun
theorem OMap.look2 (h : OMap P k e b n g w) (ht : P.underlying t = some (.map k e)) (hk : P.underlying k = some (.int .i64)) (he : P.underlying e = some (.int .i64)) (hz : (zeroValue e).run P w = .ok (.int .i64 0) w) (x : Int) (hx : (Lit.int .i64 x).wf = true) :
  (Instr.lookup t (.map (some b)) (.int .i64 x) true).run P w = .ok (.tuple #[.int .i64 (((g x).getD 0 : Nat) : Int), .bool (g x).isSome]) w := by
 obtain ⟨D, h1, h2, h3⟩ := h
 have hw0 : (Lit.int .i64 0).wf = true := by decide
 obtain ⟨v, ps, hrun, hv⟩ := h1.look_ok (int_keyed hk) ht hz (plainElem_int he hw0) (keyOf_int_mk hk hx)
 obtain ⟨c, rfl, hc, _⟩ := plainElem_int_inv he hv
 have hat := congrArg Prod.fst hc
 dsimp only at hat
 cases hg : g x with
 | none =>
  have hh := (h3 x).1 hg
  rw [atKey_of_not_has hh] at hat
  injection hat with hat
  injection hat with _ hat
  rw [hh, ← hat] at hrun
  exact hrun
 | some v =>
  obtain ⟨hh, ha⟩ := (h3 x).2 v hg
  rw [ha] at hat
  injection hat with hat
  injection hat with _ hat
  rw [hh, ← hat] at hrun
  exact hrun
theorem OMap.range (h : OMap P k e b n g w) (ht : P.underlying t = some (.map k e)) (hk : P.underlying k = some (.int .i64)) :
  ∃ w' cnt, (Instr.range t (.map (some b))).run P w = .ok (.pointer (some ⟨w.heap.size, 0, none⟩)) w' ∧ ORng P k e b w.heap.size n g (fun h => (g h).isSome) cnt w' ∧ w.grownBy w' none ∧ w'.heap.size = w.heap.size + 1 := by
 obtain ⟨D, h1, h2, h3⟩ := h
 obtain ⟨w', hrun, hr, hg, hs⟩ := h1.range (int_keyed hk) ht
 refine ⟨w', _, hrun, ⟨D, _, hr, h2, h3, fun x => ?_⟩, hg, hs⟩
 cases hx : g x with
 | none => show has D _ = (g x).isSome; rw [(h3 x).1 hx, hx]; rfl
 | some v => show has D _ = (g x).isSome; rw [((h3 x).2 v hx).1, hx]; rfl
end

section
variable {P : Program} {k e t : TypeId} {b r n cnt : Nat} {g : Int → Option Nat} {left : Int → Bool} {w w' : World}
theorem ORng.omap (h : ORng P k e b r n g left cnt w) : OMap P k e b n g w := by
 obtain ⟨D, lf, h1, h2, h3, _⟩ := h
 exact ⟨D, h1.owns, h2, h3⟩
theorem ORng.lt (h : ORng P k e b r n g left cnt w) : r < w.heap.size := by obtain ⟨D, lf, h1, _⟩ := h; exact h1.lt
theorem ORng.iter (h : ORng P k e b r n g left cnt w) : ∃ x1 x2 x3 x4, w.heap[r]? = some (.mapIter x1 x2 x3 x4) := by obtain ⟨D, lf, ⟨es, clock, since, seen, c0, _, _, _, _, h5, _⟩, _⟩ := h; exact ⟨_, _, _, _, h5⟩
theorem ORng.left_eq (h : ORng P k e b r n g left cnt w) : w.rangeLeft b r = cnt := by obtain ⟨D, lf, h1, _⟩ := h; exact h1.left_eq
theorem ORng.grown {row : Option Nat} (h : ORng P k e b r n g left cnt w) (hg : w.grownBy w' row) (hb : some b ≠ row) (hr : some r ≠ row) : ORng P k e b r n g left cnt w' := by
 obtain ⟨D, lf, h1, h2⟩ := h
 exact ⟨D, lf, h1.kept hg hb hr, h2⟩
theorem ORng.keep {O : Nat → Prop} (h : ORng P k e b r n g left cnt w) (hk : Keep O w w') (hb : ¬ O b) (hr : ¬ O r) : ORng P k e b r n g left cnt w' := by
 obtain ⟨D, lf, ⟨es, clock, since, seen, c0, h0, a1, a2, a3, h5, rest⟩, h2⟩ := h
 exact ⟨D, lf, ⟨es, clock, since, seen, c0, (hk.block b (Array.getElem?_eq_some_iff.1 h0).1 hb).trans h0, a1, a2, a3, (hk.block r (Array.getElem?_eq_some_iff.1 h5).1 hr).trans h5, rest⟩, h2⟩
theorem sameKey_int (x y : Int) : (Lit.int .i64 x).sameKey (.int .i64 y) = decide (x = y) := by
 by_cases h : x = y
 ·subst h; rw [WideAt.sameKey_self (isKeyO x)]; simp
 ·rw [sameKey_ne (litO_ne h)]; simp [h]
theorem ORng.next (h : ORng P k e b r n g left cnt w) (hk : P.underlying k = some (.int .i64)) (he : P.underlying e = some (.int .i64)) (ty : TypeId) :
  (cnt = 0 ∧ (∀ x, left x = false) ∧ (Instr.next (.pointer (some ⟨r, 0, none⟩)) false ty).run P w = .ok (.tuple #[.bool false]) w) ∨
  ∃ (x : Int) (v : Nat) (w' : World) (cnt' : Nat), (Lit.int .i64 x).wf = true ∧ (Lit.int .i64 (v : Int)).wf = true ∧ left x = true ∧ g x = some v ∧ (Instr.next (.pointer (some ⟨r, 0, none⟩)) false ty).run P w = .ok (.tuple #[.bool true, .int .i64 x, .int .i64 (v : Int)]) w' ∧
   ORng P k e b r n g (fun y => left y && !decide (y = x)) cnt' w' ∧ cnt' < cnt ∧ w.grownBy w' (some r) ∧ w'.heap.size = w.heap.size ∧ (Instr.entry (.pointer (some ⟨r, 0, none⟩))).run P w' = .ok (.tuple #[.int .i64 x, .int .i64 (v : Int)]) w' := by
 obtain ⟨D, lf, h1, h2, h3, h4⟩ := h
 rcases h1.next (int_keyed hk) ty with ⟨h0, hl, hrun⟩ | ⟨key, u, kl, y, w', cnt', hkey, hlk, hu, hat, hrun, hrg, hlt, hgr, hsz, hen⟩
 ·exact .inl ⟨h0, fun x => by rw [← h4, hl], hrun⟩
 ·obtain ⟨x, rfl, rfl, hwx⟩ := Maps.keyOf_int_inv hk hkey
  obtain ⟨c, rfl, rfl, hwc⟩ := plainElem_int_inv he hu
  cases hg : g x with
  | none =>
   have := (h3 x).1 hg
   rw [has_true_of_atKey hat] at this
   cases this
  | some v =>
   have e1 := ((h3 x).2 v hg).2 .nil
   rw [hat] at e1
   injection e1 with e1
   injection e1 with _ e1
   subst e1
   refine .inr ⟨x, v, w', cnt', hwx, hwc, by rw [← h4]; exact hlk, hg, hrun, ⟨D, _, hrg, h2, h3, fun z => ?_⟩, hlt, hgr, hsz, hen⟩
   rw [h4, sameKey_int]
theorem ORng.drop (h : ORng P k e b r n g left cnt w) (ht : P.underlying t = some (.map k e)) (hk : P.underlying k = some (.int .i64)) (x : Int) (hx : (Lit.int .i64 x).wf = true) (ty : TypeId) :
  ∃ w' cnt', (Builtin.delete_ #[t, k] ty #[.map (some b), .int .i64 x]).run P w = .ok (.tuple #[]) w' ∧ ORng P k e b r n (delO g x) (fun y => left y && !decide (y = x)) cnt' w' ∧ cnt' ≤ cnt ∧ w.grownBy w' (some b) := by
 obtain ⟨D, lf, h1, h2, h3, h4⟩ := h
 obtain ⟨w', cnt', hrun, hr, hle, hturn⟩ := h1.drop (int_keyed hk) ht (keyOf_int_mk hk hx) ty
 exact ⟨w', cnt', hrun, ⟨_, _, hr, h2.del _, says_del h3 x, fun y => by rw [h4, sameKey_int]⟩, hle, hturn.grown⟩
end

/-! ### How many keys there are -/
def mapSize (w : World) (b : Nat) : Nat := match w.heap[b]? with
 | some (.map es _) => es.size
 | _ => 0
def OMapS (P : Program) (k e : TypeId) (b n : Nat) (g : Int → Option Nat) (w : World) : Prop :=
 ∃ D : DataW Unit, w.ownsMap P k (plainElem P e) b n D ∧ Tidy D ∧ Says D g ∧ Maps.size D = n
section
variable {P : Program} {k e t : TypeId} {b n : Nat} {g : Int → Option Nat} {w w' : World}
theorem OMapS.omap (h : OMapS P k e b n g w) : OMap P k e b n g w := by obtain ⟨D, h1, h2, h3, _⟩ := h; exact ⟨D, h1, h2, h3⟩
theorem OMapS.new (P : Program) (k e : TypeId) (w : World) : OMapS P k e w.heap.size 0 (fun _ => none) (w.alloc (.map #[] 0)) :=
 ⟨.map [], World.ownsMap_made w P k _, tidy_empty, fun _ => ⟨fun _ => rfl, fun _ h => nomatch h⟩, rfl⟩
theorem OMapS.size (h : OMapS P k e b n g w) : mapSize w b = n := by
 obtain ⟨D, ⟨es, c, hb, _, _, hD⟩, _, _, h4⟩ := h
 unfold mapSize
 rw [hb]
 dsimp only
 rw [← h4, hD]
 simp [Maps.size, length_sorted]
theorem OMapS.keep {O : Nat → Prop} (h : OMapS P k e b n g w) (hk : Keep O w w') (hb : ¬ O b) : OMapS P k e b n g w' := by
 obtain ⟨D, ⟨es, c, h0, hr⟩, h2⟩ := h
 exact ⟨D, ⟨es, c, (hk.block b (Array.getElem?_eq_some_iff.1 h0).1 hb).trans h0, hr⟩, h2⟩
theorem OMapS.grown {row : Option Nat} (h : OMapS P k e b n g w) (hg : w.grownBy w' row) (hne : some b ≠ row) : OMapS P k e b n g w' := by
 obtain ⟨D, h1, h2⟩ := h
 exact ⟨D, h1.kept hg hne, h2⟩
theorem OMapS.congr {f : Int → Option Nat} (h : OMapS P k e b n g w) (hg : ∀ x, f x = g x) : OMapS P k e b n f w := by
 obtain ⟨D, h1, h2, h3, h4⟩ := h
 exact ⟨D, h1, h2, fun x => by rw [hg]; exact h3 x, h4⟩
theorem OMapS.update (h : OMapS P k e b n g w) (ht : P.underlying t = some (.map k e)) (hk : P.underlying k = some (.int .i64)) (he : P.underlying e = some (.int .i64)) (hn : n < maxLen) (x : Int) (v : Nat) (hg : g x = none) (hx : (Lit.int .i64 x).wf = true) (hv : (Lit.int .i64 (v : Int)).wf = true) :
  ∃ w', (Instr.mapUpdate t (.map (some b)) (.int .i64 x) (.int .i64 (v : Int))).run P w = .ok () w' ∧ OMapS P k e b (n + 1) (putO g x v) w' ∧ w.grownBy w' (some b) := by
 obtain ⟨D, h1, h2, h3, h4⟩ := h
 obtain ⟨w', hrun, r1, r2⟩ := h1.update (int_keyed hk) ht hn (keyOf_int_mk hk hx) (plainElem_int he hv)
 refine ⟨w', hrun, ⟨_, r1, h2.put (isKeyO x) _, says_put h2.isMap h3 x v, ?_⟩, r2⟩
 rw [size_put h2, (h3 x).1 hg, h4]
 rfl
end
end Go.Proofs.YtghdibbooegocaaGreatDoor

namespace Go.Proofs.YtghdibbooegocaaGreatDoor
open Go.RowKit

def Qu (g : Nat) (v : Value) (zs : List Int) (W : World) : Prop :=
 ∃ off cap cur, v = .slice (some ⟨g, off, none⟩) zs.length cap ∧ Blk W g 3 cur ∧ off + cap ≤ cur.size ∧ zs.length ≤ cap ∧ cap ≤ maxLen ∧ ∀ j z, zs[j]? = some z → cur[off + j]? = some (.int .i64 z)
section
variable {g : Nat} {v : Value} {zs : List Int} {W W' : World}
theorem Qu.new (W : World) (x : Int) : Qu W.heap.size (.slice (some ⟨W.heap.size, 0, none⟩) 1 1) [x] (W.alloc (.cells #[.int .i64 x] 3)) :=
 ⟨0, 1, _, rfl, Blk.new W _ _, by simp, by simp, by decide, fun j z hz => by
  cases j with
  | zero => simp at hz; subst hz; rfl
  | succ j => simp at hz⟩
theorem Qu.lt (h : Qu g v zs W) : g < W.heap.size := by obtain ⟨_, _, _, _, h, _⟩ := h; exact h.lt
theorem Qu.keep {O : Nat → Prop} (h : Qu g v zs W) (hk : Keep O W W') (hg : ¬ O g) : Qu g v zs W' := by
 obtain ⟨off, cap, cur, h1, h2, h3⟩ := h
 exact ⟨off, cap, cur, h1, h2.keep hk hg, h3⟩
theorem Qu.grown {row : Option Nat} (h : Qu g v zs W) (hg : W.grownBy W' row) (hne : some g ≠ row) : Qu g v zs W' := by
 obtain ⟨off, cap, cur, h1, h2, h3⟩ := h
 exact ⟨off, cap, cur, h1, (hg.block g h2.lt hne).trans h2, h3⟩
theorem Qu.first {z : Int} {r : List Int} (h : Qu g v (z :: r) W) : ∃ off cap, v = .slice (some ⟨g, off, none⟩) (r.length + 1) cap ∧ W.cell? ⟨g, off, none⟩ = some (.int .i64 z) ∧ r.length + 1 ≤ cap ∧ cap ≤ maxLen ∧
  Qu g (sliced (some ⟨g, off, none⟩) 1 (r.length + 1) cap 1) r W := by
 obtain ⟨off, cap, cur, h1, h2, h3, h4, h5, h6⟩ := h
 rw [List.length_cons] at h1 h4
 refine ⟨off, cap, h1, ?_, h4, h5, ?_⟩
 ·rw [h2.cell]; have := h6 0 z rfl; simpa using this
 ·unfold sliced
  by_cases hc : cap = 1
  ·have hr : r = [] := List.length_eq_zero_iff.1 (by omega)
   subst hr
   rw [if_pos hc]
   exact ⟨off, cap - 1, cur, rfl, h2, by omega, by simp, by omega, fun j z hz => by simp at hz⟩
  ·rw [if_neg hc]
   refine ⟨off + 1, cap - 1, cur, ?_, h2, by omega, by omega, by omega, fun j z hz => ?_⟩
   ·simp [Addr.add_lit]
   ·have := h6 (j + 1) z (by simpa using hz)
    rw [show off + 1 + j = off + (j + 1) by omega]
    exact this
theorem Qu.rest {z : Int} {r : List Int} (h : Qu g v (z :: r) W) : ∃ off cap o1 c1, v = .slice (some ⟨g, off, none⟩) (r.length + 1) cap ∧ W.cell? ⟨g, off, none⟩ = some (.int .i64 z) ∧ r.length + 1 ≤ cap ∧ cap ≤ maxLen ∧
  ((cap = 1 ∧ o1 = off ∧ c1 = 0) ∨ (¬ cap = 1 ∧ o1 = off + 1 ∧ c1 = cap - 1)) ∧ Qu g (.slice (some ⟨g, o1, none⟩) r.length c1) r W := by
 obtain ⟨off, cap, h1, h2, h3, h4, h5⟩ := h.first
 unfold sliced at h5
 by_cases hc : cap = 1
 ·rw [if_pos hc] at h5
  subst hc
  exact ⟨off, 1, off, 0, h1, h2, h3, h4, .inl ⟨rfl, rfl, rfl⟩, h5⟩
 ·rw [if_neg hc] at h5
  refine ⟨off, cap, off + 1, cap - 1, h1, h2, h3, h4, .inr ⟨hc, rfl, rfl⟩, ?_⟩
  simpa [Addr.add_lit] using h5
theorem Qu.nil (h : Qu g v [] W) : ∃ off cap, v = .slice (some ⟨g, off, none⟩) 0 cap := by
 obtain ⟨off, cap, _, h1, _⟩ := h
 exact ⟨off, cap, h1⟩
theorem Qu.form (h : Qu g v zs W) : ∃ off cap, v = .slice (some ⟨g, off, none⟩) zs.length cap := by
 obtain ⟨off, cap, _, h1, _⟩ := h
 exact ⟨off, cap, h1⟩
theorem Qu.push (h : Qu g v zs W) {t ty : TypeId} {i0 : TypeInfo} (ht : Tryz.prog.underlying t = some (.slice 3)) (hi : Tryz.prog.info? 3 = some i0) (hz0 : i0.zero = some (.int .i64 0)) (hz1 : i0.size = 1) (hz2 : i0.bytes = 8) (x : Int) (b o c : Nat)
  (hx : W.cell? ⟨b, o, none⟩ = some (.int .i64 x)) (h63 : zs.length + 1 ≤ 10000000) :
  ∃ v' W' g', (Builtin.append_ #[t, t] ty #[v, .slice (some ⟨b, o, none⟩) 1 c]).run Tryz.prog W = .ok v' W' ∧ Qu g' v' (zs ++ [x]) W' ∧ (g' = g ∨ W.heap.size ≤ g') ∧ W.grownBy W' (some g) := by
 obtain ⟨off, cap, cur, rfl, h2, h3, h4, h5, h6⟩ := h
 have hnews : ∀ j u, [Value.int .i64 x][j]? = some u → W.cell? ((⟨b, o, none⟩ : Addr).add j) = some u := by
  intro j u hu
  cases j with
  | zero =>
   simp at hu
   subst hu
   rw [Addr.add_lit]
   exact hx
  | succ j => simp at hu
 by_cases hroom : zs.length + 1 ≤ cap
 ·have hr := run_append_room_cells (P := Tryz.prog) W t ty 3 i0 ht hi g off zs.length cap ⟨b, o, none⟩ 1 c [.int .i64 x] (by simp [hz1]) hnews (by simp [Value.oneCell']) hroom
   (fun j hj => by
    simp at hj; subst hj
    rw [h2.cell, hz1]
    simp only [Nat.mul_one, Nat.add_zero]
    rw [Array.getElem?_eq_getElem (by omega)]; rfl)
   (fun j hj => h2.frozen _)
  rw [hz1, Nat.mul_one] at hr
  have e : W.setCells g (off + zs.length) [.int .i64 x] = W.setCell ⟨g, off + zs.length, none⟩ (.int .i64 x) := rfl
  rw [e] at hr
  refine ⟨_, _, g, hr, ⟨off, cap, cur.setIfInBounds (off + zs.length) (.int .i64 x), by simp, h2.put _ _, by simpa using h3, by simpa using hroom, h5, fun j z hz => ?_⟩, .inl rfl, ⟨rfl, rfl, rfl, by simp [World.setCell], fun k _ hk => Below.heap_setCell _ _ _ k (fun e => hk (by rw [e]))⟩⟩
  by_cases hj : j < zs.length
  ·rw [List.getElem?_append_left hj] at hz
   rw [Array.getElem?_setIfInBounds_ne (by omega)]
   exact h6 j z hz
  ·rw [List.getElem?_append_right (by omega)] at hz
   have hj2 : j - zs.length = 0 := by
    rcases Nat.eq_zero_or_pos (j - zs.length) with h0 | h0
    ·exact h0
    ·rw [List.getElem?_eq_none (by simp; omega)] at hz; cases hz
   rw [hj2] at hz
   simp at hz
   subst hz
   rw [show j = zs.length by omega, Array.getElem?_setIfInBounds_self, if_pos (by omega)]
 ·have holds : ∀ j u, (zs.map (Value.int .i64))[j]? = some u → W.cell? ((⟨g, off, none⟩ : Addr).add j) = some u := by
   intro j u hu
   rw [List.getElem?_map] at hu
   obtain ⟨z, hz, rfl⟩ := Option.map_eq_some_iff.1 hu
   rw [Addr.add_lit, h2.cell]
   exact h6 j z hz
  obtain ⟨v', W', hr, ho, hg⟩ := run_append_arg_grows (P := Tryz.prog) W t ty 3 i0 (.int .i64 0) 1 8 ht hi hz0 hz1 hz2 rfl (by decide) ⟨g, off, none⟩ zs.length cap (zs.map (Value.int .i64)) (by simp) holds ⟨b, o, none⟩ 1 c [.int .i64 x] rfl hnews (by omega) (by unfold maxLen; omega) (by omega)
  obtain ⟨hl, h⟩ := ho
  rcases h with ⟨_, h0⟩ | ⟨g', cap', cur', rfl, hgb, hb, k1, k2, k3, k4⟩
  ·omega
  ·refine ⟨_, W', g', hr, ⟨0, cap', cur', by simp, hb, by omega, by simpa using k1, k2, fun j z hz => ?_⟩, .inr hgb, hg.but _⟩
   have h7 : (zs.map (Value.int .i64) ++ [.int .i64 x])[j]? = some (.int .i64 z) := by
    have : zs.map (Value.int .i64) ++ [Value.int .i64 x] = (zs ++ [x]).map (Value.int .i64) := by simp
    rw [this, List.getElem?_map, hz]; rfl
   rw [← k4, List.getElem?_take] at h7
   split at h7
   ·rw [Nat.zero_add]; simpa using h7
   ·cases h7
end

theorem wpListIn_append_run {F : Fence} {n : Nat} {P : Program} (w : World) {ops : Array Oper} {rest : List Oper} {o : Oper} {a : Act} {Q : Exit → Act → World → Prop}
  (hg : o.guard = none) (s x : Operand) (t : TypeId) (hop : o.op = Op.call { callee := Callee.builtin Builtin.append, args := #[s, x], argTypes := #[t, t] }) (v xv v' : Value) (w' : World)
  (hs : a.eval s = v) (hx : a.eval x = xv) (hrun : (Builtin.append_ #[t, t] o.type #[v, xv]).run P w = .ok v' w') (hK : wpListIn F n P ops Q rest (a.put o.dst v') w') : wpListIn F n P ops Q (o :: rest) a w := by
 refine wpListIn_plain hg fun K hK' => ?_
 unfold Oper.wpIn
 refine ⟨?_, ?_⟩
 ·simp [Oper.about, hop, resolve, Target.leads, Sem.run_pure]
 ·rw [Oper.semAt_plain F _ _ (by rw [hop]; intro c hc'; cases hc')]
  simp [execOp, hop, resolve, invoke, builtin, hs, hx, hrun, Result.andThen]
  exact hK' _ _ hK
theorem wpList_append_run {P : Program} (w : World) {ops : Array Oper} {rest : List Oper} {o : Oper} {a : Act} {Q : Exit → Act → World → Prop}
  (hg : o.guard = none) (s x : Operand) (t : TypeId) (hop : o.op = Op.call { callee := Callee.builtin Builtin.append, args := #[s, x], argTypes := #[t, t] }) (v xv v' : Value) (w' : World)
  (hs : a.eval s = v) (hx : a.eval x = xv) (hrun : (Builtin.append_ #[t, t] o.type #[v, xv]).run P w = .ok v' w') (hK : wpList P ops Q rest (a.put o.dst v') w') : wpList P ops Q (o :: rest) a w := by
 refine wpList_plain hg fun K' hK' => ?_
 unfold Oper.wp
 simp [execOp, hop, resolve, invoke, builtin, hs, hx, hrun, Result.andThen]
 exact hK' _ _ hK
end Go.Proofs.YtghdibbooegocaaGreatDoor

namespace Go.Proofs.YtghdibbooegocaaGreatDoor
open Go.RowKit Go.Shelf

section
variable {P : Program} {n : Nat}

end
end Go.Proofs.YtghdibbooegocaaGreatDoor

namespace Go.Proofs.YtghdibbooegocaaGreatDoor
open Go.RowKit Go.Shelf

abbrev BSet := Nat → Prop
structure IStep (B : Nat) (p : BSet) (W W' : World) : Prop where
 keep : Keep (fun k => B ≤ k ∧ ¬ p k) W W'
 cells : ∀ (k : Nat) (o : Obj), W'.heap[k]? = some o → o.isCells = true → W.heap[k]? = some o
theorem IStep.trans {B : Nat} {p : BSet} {W W1 W2 : World} (h : IStep B p W W1) (h' : IStep B p W1 W2) : IStep B p W W2 :=
 ⟨h.keep.trans h'.keep (fun _ h _ => h), fun k o hk hc => h.cells k o (h'.cells k o hk hc) hc⟩
theorem IStep.mono {B B' : Nat} {p p' : BSet} {W W' : World} (h : IStep B p W W') (hB : B' ≤ B) (hp : ∀ k, p' k → p k) : IStep B' p' W W' :=
 ⟨h.keep.mono (fun k h2 _ => ⟨Nat.le_trans hB h2.1, fun h3 => h2.2 (hp k h3)⟩), h.cells⟩
structure Rnd (p p' : BSet) (W W' : World) : Prop where
 own : ∀ k, k < W.heap.size → p' k → p k
 keep : Keep p W W'
theorem Rnd.refl (p : BSet) (W : World) : Rnd p p W W := ⟨fun _ _ h => h, Keep.refl _ _⟩
theorem Rnd.trans {p p1 p2 : BSet} {W W1 W2 : World} (h : Rnd p p1 W W1) (h' : Rnd p1 p2 W1 W2) : Rnd p p2 W W2 :=
 ⟨fun k hk h2 => h.own k hk (h'.own k (Nat.lt_of_lt_of_le hk h.keep.size) h2), h.keep.trans h'.keep (fun k h1 hk => h.own k hk h1)⟩
theorem Rnd.of_keep {p : BSet} {W W' : World} (h : Keep p W W') : Rnd p p W W' := ⟨fun _ _ h => h, h⟩
theorem Rnd.not {p p' : BSet} {W W' : World} (h : Rnd p p' W W') {k : Nat} (hk : k < W.heap.size) (hn : ¬ p k) : ¬ p' k := fun h2 => hn (h.own k hk h2)
theorem Rnd.same {p p' : BSet} {W W' : World} (h : Rnd p p' W W') {k : Nat} (hk : k < W.heap.size) (hn : ¬ p k) : W'.heap[k]? = W.heap[k]? := h.keep.block k hk hn

section
variable {P : Program} {n : Nat}
end
end Go.Proofs.YtghdibbooegocaaGreatDoor

namespace Go.Proofs.YtghdibbooegocaaGreatDoor
open Go.RowKit Go.Shelf

structure IStepU (U : TypeId) (B : Nat) (p : BSet) (W W' : World) : Prop where
 keep : Keep (fun k => B ≤ k ∧ ¬ p k) W W'
 cells : ∀ (k : Nat) c fz, W'.heap[k]? = some (.cells c U fz) → W.heap[k]? = some (.cells c U fz)
section
variable {U : TypeId} {B : Nat} {p : BSet} {W W1 W2 : World}
theorem IStepU.trans (h : IStepU U B p W W1) (h' : IStepU U B p W1 W2) : IStepU U B p W W2 :=
 ⟨h.keep.trans h'.keep (fun _ h _ => h), fun k c fz hk => h.cells k c fz (h'.cells k c fz hk)⟩
theorem IStepU.mono {B' : Nat} {p' : BSet} (h : IStepU U B p W W1) (hB : B' ≤ B) (hp : ∀ k, p' k → p k) : IStepU U B' p' W W1 :=
 ⟨h.keep.mono (fun k h2 _ => ⟨Nat.le_trans hB h2.1, fun h3 => h2.2 (hp k h3)⟩), h.cells⟩
end

section
variable {P : Program} {n : Nat}
def minePostU {α : Type} (I : List α → BSet → World → Prop) (Ix : Code → List α → BSet → World → Prop) (xs : List α) (p : BSet) (W : World) : Exit → Act → World → Prop
 | .normal, _, W' => ∃ p', Rnd p p' W W' ∧ I xs p' W'
 | .ret, _, W' => ∃ p', Rnd p p' W W' ∧ Ix .ret xs p' W'
 | .exit id, _, W' => ∃ p', Rnd p p' W W' ∧ Ix (.exit id) xs p' W'
 | .goto t, _, W' => ∃ p', Rnd p p' W W' ∧ Ix (.goto t) xs p' W'
 | .panic _, _, _ => False
 | .outgrown, _, _ => False

end
end Go.Proofs.YtghdibbooegocaaGreatDoor

namespace Go.Proofs.YtghdibbooegocaaGreatDoor
open Go.RowKit Go.Shelf

def IStepF (B : Nat) (p : BSet) (W W' : World) : Prop := Keep (fun k => B ≤ k ∧ ¬ p k) W W'
def KeepsOutF {β : Type} (B : Nat) (I : β → BSet → World → Prop) : Prop := ∀ s p W W', I s p W → IStepF B p W W' → I s p W'
section
variable {B : Nat} {p : BSet} {W W1 W2 : World}
theorem IStepF.keep (h : IStepF B p W W1) : Keep (fun k => B ≤ k ∧ ¬ p k) W W1 := h
theorem IStepF.alloc (o : Obj) : IStepF B p W (W.alloc o) := (Keep.refl _ _).alloc _
theorem IStepF.trans (h : IStepF B p W W1) (h' : IStepF B p W1 W2) : IStepF B p W W2 := Keep.trans h h' (fun _ h _ => h)
theorem IStepF.putObj {l : Nat} (o : Obj) (hB : B ≤ l) (hp : ¬ p l) : IStepF B p W (W.putObj l o) := (Keep.refl _ W).grown (grownBy_putObj' W l o) (fun g e hl => by cases e; exact ⟨hB, hp⟩)
theorem IStepF.mono {B' : Nat} {p' : BSet} (h : IStepF B p W W1) (hB : B' ≤ B) (hp : ∀ k, p' k → p k) : IStepF B' p' W W1 :=
 Keep.mono h (fun k h2 _ => ⟨Nat.le_trans hB h2.1, fun h3 => h2.2 (hp k h3)⟩)
end

section
variable {P : Program} {n : Nat}
def StopsF {α : Type} (P : Program) (m k : Nat) (gf : Nat) (lb : Array Value) (encs : α → Array Value) (H : World → Prop) (Fa : List α → World → Prop) (En : List α → α → Prop) (S Sp : List α → Prop) : Prop :=
 ∀ (L : Nat) (J Jx : List α → BSet → World → Prop) (p : BSet) (W : World), KeepsOutF W.heap.size J → KeepsOutF W.heap.size Jx → (∀ pre p W, J pre p W → ∀ k, p k → k < W.heap.size) → (∀ pre p W, J pre p W → Fa pre W) →
  (∀ pre x p W1, J pre p W1 → En pre x → YieldAt Fence.wide m P L (encs x) W1 fun e W' => ∃ p', Rnd p p' W1 W' ∧ ((e = .returned (.bool true) ∧ J (pre ++ [x]) p' W') ∨ (e = .returned (.bool false) ∧ Jx (pre ++ [x]) p' W'))) →
  J [] p W → (∀ k, p k → k < W.heap.size) → H W → (∀ O W1 W2, (∀ k, O k → p k ∨ W.heap.size ≤ k) → H W1 → Keep O W1 W2 → H W2) →
  CallsIn Fence.wide k P gf (#[.func (.yield L) #[] #[]] ++ lb) W fun e W' => (∃ v, e = .returned v) ∧ ∃ p', ((∃ xs, S xs ∧ J xs p' W') ∨ (∃ pre, Sp pre ∧ Jx pre p' W'))

theorem wpIn_rangeFunc_F {α : Type} {g : Operand} {ps : Array Tmp} {assign body : Code} {Q : Exit → Act → World → Prop} {a : Act} {w : World} {m : Nat}
  {gf : Nat} {lb : Array Value} (hg : a.eval g = .func (.func gf) #[] lb) (eg : ∀ args w, (callFunc gf args).run P w = .ok (.enter gf args) w)
  {encs : α → Array Value} {H : World → Prop} {Fa : List α → World → Prop} {En : List α → α → Prop} {S Sp : List α → Prop} (hit : StopsF P m (n - 1) gf lb encs H Fa En S Sp) (hps : ∀ x, (encs x).size = ps.size)
  (I : List α → BSet → World → Prop) (Ix : Code → List α → BSet → World → Prop) (hI : KeepsOutF w.heap.size I) (hIb : ∀ pre p W, I pre p W → ∀ k, p k → k < W.heap.size) (hFa : ∀ pre p W, I pre p W → Fa pre W) (hIx : ∀ c, KeepsOutF w.heap.size (Ix c)) {p0 : BSet} (h0 : I [] p0 w) (hp0 : ∀ k, p0 k → k < w.heap.size) (hH : H w) (hHk : ∀ O W1 W2, (∀ k, O k → p0 k ∨ w.heap.size ≤ k) → H W1 → Keep O W1 W2 → H W2)
  (Ax : List α → α → BSet → Act → World → Prop) (hAx : ∀ pre x a', KeepsOutF w.heap.size (fun (_ : Unit) p W => Ax pre x p a' W))
  (hassign : ∀ (l : Nat) (pre : List α) (x : α) (p : BSet) (W : World), I pre p W → En pre x →
   assign.wpIn (Fence.wide.inRound l) m P (Exit.then (fun a' W' => ∃ p', Rnd p p' W W' ∧ Ax pre x p' a' W') (fun _ _ _ => False)) { tmps := (ps.zip (encs x)).foldl (fun t (p, v) => t.setIfInBounds p v) a.tmps, defers := [] } W)
  (hbody : ∀ (l : Nat) (pre : List α) (x : α) (p : BSet) (a' : Act) (W : World), En pre x → Ax pre x p a' W → body.wpIn (Fence.wide.inRound l) m P (minePostU I Ix (pre ++ [x]) p W) a' W)
  (hdone : ∀ (D : Nat) (xs : List α) (p : BSet) (W : World), w.heap.size ≤ D → ¬ p D → S xs → I xs p W → W.heap[D]? = some (.deferred (some [])) → Q .normal { a with defers := { target := .collected D, args := #[] } :: a.defers } W)
  (hstop : ∀ (D : Nat) (c : Code) (pre : List α) (p : BSet) (W : World), w.heap.size ≤ D → ¬ p D → Sp pre → Ix c pre p W → W.heap[D]? = some (.deferred (some [])) → c.wpIn Fence.wide n P Q { a with defers := { target := .collected D, args := #[] } :: a.defers } W) :
  (Code.rangeFunc g ps assign body).wpIn Fence.wide n P Q a w := by
 refine wpIn_rangeFunc fun fn _ => ?_
 obtain ⟨rec, hrec⟩ : ∃ rec : LoopState → Option Code → Loop, rec = fun st pe => { state := st, pending := pe, fn, tmps := a.tmps, params := ps, assign, body, defers := w.heap.size } := ⟨_, rfl⟩
 obtain ⟨W1, hW1⟩ : ∃ W1, (w.alloc (.deferred (some []))).alloc (.loop (rec .ready none)) = W1 := ⟨_, rfl⟩
 have hL1 : W1.heap[w.heap.size + 1]? = some (.loop (rec .ready none)) := by
  rw [← hW1]; have := World.alloc_heap_new (w.alloc (.deferred (some []))) (.loop (rec .ready none)); rwa [World.size_alloc] at this
 have hD1 : W1.heap[w.heap.size]? = some (.deferred (some [])) := by
  rw [← hW1]; exact (Below.heap_alloc _ _ _ (by simp)).trans (World.alloc_heap_new w _)
 have hs1 : W1.heap.size = w.heap.size + 2 := by rw [← hW1]; simp
 have hB1 : H W1 := by
  rw [← hW1]; exact hHk NoB _ _ (fun k h => h.elim) hH (((Keep.refl _ _).alloc _).alloc _)
 have hI1 : I [] p0 W1 := hI _ _ _ _ h0 (by rw [← hW1]; exact (IStepF.alloc _).trans (IStepF.alloc _))
 have hput : ∀ {β : Type} {I' : β → BSet → World → Prop} (_ : KeepsOutF w.heap.size I') {s : β} {p : BSet} {W : World} (l' : Loop), I' s p W → ¬ p (w.heap.size + 1) → I' s p (W.putObj (w.heap.size + 1) (.loop l')) := by
  intro β I' h s p W l' hi hn
  exact h _ _ _ _ hi (IStepF.putObj _ (by omega) hn)
 refine ⟨w.heap.size + 1, [{ target := .collected w.heap.size, args := #[] }], W1, { target := .fn (.func gf) lb, args := #[.func (.yield (w.heap.size + 1)) #[] #[]] }, W1, gf,
  #[.func (.yield (w.heap.size + 1)) #[] #[]] ++ lb, W1, ?_, ?_, fun _ _ => trivial, ?_, (fun h => by cases h), ?_⟩
 ·rw [← hW1, hrec]; exact run_enterLoop_outer _ _ _ _ _
 ·simp only [resolve, hg]
  simp [go_sem]
 ·simp [invoke, go_sem, eg]
 refine (hit (w.heap.size + 1)
  (fun pre pj W => ∃ p, (pj = fun k => p k ∨ k = w.heap.size + 1) ∧ (¬ p (w.heap.size + 1) ∧ ¬ p w.heap.size) ∧ I pre p W ∧ W.heap[w.heap.size + 1]? = some (.loop (rec .ready none)) ∧ W.heap[w.heap.size]? = some (.deferred (some [])))
  (fun pre pj W => ∃ p, (pj = fun k => p k ∨ k = w.heap.size + 1) ∧ (¬ p (w.heap.size + 1) ∧ ¬ p w.heap.size) ∧ ∃ c, Ix c pre p W ∧ W.heap[w.heap.size + 1]? = some (.loop (rec .done (some c))) ∧ W.heap[w.heap.size]? = some (.deferred (some [])))
  (fun k => p0 k ∨ k = w.heap.size + 1) W1 ?_ ?_ ?_ ?_ ?_ ⟨p0, rfl, ⟨fun h => by have := hp0 _ h; omega, fun h => by have := hp0 _ h; omega⟩, hI1, hL1, hD1⟩ ?_ hB1 ?_).mono ?_
 ·rintro pre pj W W' ⟨p, rfl, hn, hi, hl, hd⟩ hk
  exact ⟨p, rfl, hn, hI _ _ _ _ hi (hk.mono (by omega) (fun k h2 => .inl h2)), (hk.keep.block _ (Array.getElem?_eq_some_iff.1 hl).1 (by rintro ⟨h, _⟩; omega)).trans hl, (hk.keep.block _ (Array.getElem?_eq_some_iff.1 hd).1 (by rintro ⟨h, _⟩; omega)).trans hd⟩
 ·rintro pre pj W W' ⟨p, rfl, hn, c, hi, hl, hd⟩ hk
  exact ⟨p, rfl, hn, c, hIx c _ _ _ _ hi (hk.mono (by omega) (fun k h2 => .inl h2)), (hk.keep.block _ (Array.getElem?_eq_some_iff.1 hl).1 (by rintro ⟨h, _⟩; omega)).trans hl, (hk.keep.block _ (Array.getElem?_eq_some_iff.1 hd).1 (by rintro ⟨h, _⟩; omega)).trans hd⟩
 ·rintro pre pj W ⟨p, rfl, _, hi, hl, _⟩ k (hk | rfl)
  ·exact hIb _ _ _ hi k hk
  ·exact (Array.getElem?_eq_some_iff.1 hl).1
 ·rintro pre pj W ⟨p, rfl, _, hi, _⟩
  exact hFa _ _ _ hi
 ·rintro pre x pj W ⟨p, rfl, ⟨hnl, hnd⟩, hi, hl, hd⟩ hen
  have hlt : w.heap.size + 1 < W.heap.size := (Array.getElem?_eq_some_iff.1 hl).1
  have hy := run_yield (P := P) (args := encs x) hl (by rw [hrec]; exact hps x)
  rw [hrec] at hy
  refine ⟨fn, _, assign, body, hy, roundIn_of_wpIn trivial (wpIn_mono (hassign _ pre x p W hi hen) ?_)⟩
  clear hy
  intro e a₁ Wa hq
  cases e with
  | normal =>
   obtain ⟨p1, hr1, hax⟩ := hq
   have hl1 := (hr1.same hlt hnl).trans hl
   have hd1 := (hr1.same (by omega) hnd).trans hd
   have hnl1 := hr1.not hlt hnl
   have hnd1 := hr1.not (by omega) hnd
   have hlt1 : w.heap.size + 1 < Wa.heap.size := (Array.getElem?_eq_some_iff.1 hl1).1
   refine ⟨_, run_beginRound hl1 (by rw [hrec]), ?_⟩
   have hl2 : (Wa.putObj (w.heap.size + 1) (.loop { rec .ready none with state := .busy })).heap[w.heap.size + 1]? = some (.loop { rec .ready none with state := .busy }) := World.putObj_heap_same hlt1
   have hd2 : (Wa.putObj (w.heap.size + 1) (.loop { rec .ready none with state := .busy })).heap[w.heap.size]? = some (.deferred (some [])) := (World.putObj_heap_other (by omega)).trans hd1
   have hkl : Keep (fun k => p k ∨ k = w.heap.size + 1) W (Wa.putObj (w.heap.size + 1) (.loop { rec .ready none with state := .busy })) :=
    (hr1.keep.mono (fun k h _ => .inl h)).grown (grownBy_putObj' Wa (w.heap.size + 1) _) (fun g e _ => by cases e; exact .inr rfl)
   have hz2 : (Wa.putObj (w.heap.size + 1) (.loop { rec .ready none with state := .busy })).heap.size = Wa.heap.size := by simp [World.putObj]
   refine wpIn_mono (hbody _ pre x p1 a₁ _ hen (hput (hAx pre x a₁) (s := ()) _ hax hnl1)) ?_
   have fin : ∀ (jump : Option Code) (p2 : BSet) (W3 : World), Rnd p1 p2 (Wa.putObj (w.heap.size + 1) (.loop { rec .ready none with state := .busy })) W3 →
     (Instr.endRound (w.heap.size + 1) jump).run P W3 = .ok (.bool jump.isNone) (W3.putObj (w.heap.size + 1) (.loop (rec (if jump.isNone then .ready else .done) jump))) ∧
     (W3.putObj (w.heap.size + 1) (.loop (rec (if jump.isNone then .ready else .done) jump))).heap[w.heap.size + 1]? = some (.loop (rec (if jump.isNone then .ready else .done) jump)) ∧
     (W3.putObj (w.heap.size + 1) (.loop (rec (if jump.isNone then .ready else .done) jump))).heap[w.heap.size]? = some (.deferred (some [])) ∧
     (¬ p2 (w.heap.size + 1) ∧ ¬ p2 w.heap.size) ∧
     Rnd (fun k => p k ∨ k = w.heap.size + 1) (fun k => p2 k ∨ k = w.heap.size + 1) W (W3.putObj (w.heap.size + 1) (.loop (rec (if jump.isNone then .ready else .done) jump))) := fun jump p2 W3 hr2 => by
    have hl3 := (hr2.same (by rw [hz2]; exact hlt1) hnl1).trans hl2
    have hd3 := (hr2.same (by rw [hz2]; omega) hnd1).trans hd2
    have := run_endRound (P := P) jump hl3
    rw [hrec] at this ⊢
    refine ⟨this, World.putObj_heap_same (Array.getElem?_eq_some_iff.1 hl3).1, (World.putObj_heap_other (by omega)).trans hd3, ⟨hr2.not (by rw [hz2]; exact hlt1) hnl1, hr2.not (by rw [hz2]; omega) hnd1⟩, ⟨fun k hk h => ?_, ?_⟩⟩
    ·rcases h with h | h
     ·exact .inl (hr1.own k hk (hr2.own k (by rw [hz2]; exact Nat.lt_of_lt_of_le hk hr1.keep.size) h))
     ·exact .inr h
    ·rw [hrec] at hkl hr2
     exact (hkl.trans hr2.keep (fun k h hk => .inl (hr1.own k hk h))).grown (grownBy_putObj' W3 (w.heap.size + 1) _) (fun g e _ => by cases e; exact .inr rfl)
   rintro e a3 W3 hp
   cases e with
   | normal =>
    obtain ⟨p2, hr2, hi3⟩ := hp
    obtain ⟨hr, hl4, hd4, hn4, hR⟩ := fin none p2 W3 hr2
    exact ⟨_, _, hr, ⟨_, hR, .inl ⟨rfl, p2, rfl, hn4, hput hI _ hi3 hn4.1, hl4, hd4⟩⟩⟩
   | ret =>
    obtain ⟨p2, hr2, hi3⟩ := hp
    obtain ⟨hr, hl4, hd4, hn4, hR⟩ := fin (some .ret) p2 W3 hr2
    exact ⟨_, _, hr, ⟨_, hR, .inr ⟨rfl, p2, rfl, hn4, .ret, hput (hIx _) _ hi3 hn4.1, hl4, hd4⟩⟩⟩
   | exit id =>
    obtain ⟨p2, hr2, hi3⟩ := hp
    obtain ⟨hr, hl4, hd4, hn4, hR⟩ := fin (some (.exit id)) p2 W3 hr2
    exact ⟨_, _, hr, ⟨_, hR, .inr ⟨rfl, p2, rfl, hn4, .exit id, hput (hIx _) _ hi3 hn4.1, hl4, hd4⟩⟩⟩
   | goto t =>
    obtain ⟨p2, hr2, hi3⟩ := hp
    obtain ⟨hr, hl4, hd4, hn4, hR⟩ := fin (some (.goto t)) p2 W3 hr2
    exact ⟨_, _, hr, ⟨_, hR, .inr ⟨rfl, p2, rfl, hn4, .goto t, hput (hIx _) _ hi3 hn4.1, hl4, hd4⟩⟩⟩
   | panic ch => exact hp.elim
   | outgrown => exact hp.elim
  | exit id => exact hq
  | goto t => exact hq
  | ret => exact hq
  | panic c => exact hq
  | outgrown => exact hq
 ·rintro k (h | h)
  ·have := hp0 k h; omega
  ·omega
 ·intro O X1 X2 hO h1 h2
  refine hHk O X1 X2 (fun k hk => ?_) h1 h2
  rcases hO k hk with (h | h) | h
  ·exact .inl h
  ·exact .inr (by omega)
  ·exact .inr (by omega)
 ·rintro e W2 ⟨⟨v, rfl⟩, pj, (⟨xs, hS, p, rfl, hn, hi, hl, hd⟩ | ⟨pre, hSp, p, rfl, hn, c, hi, hl, hd⟩)⟩
  ·exact ⟨none, _, by have := run_endLoop (P := P) hl (by rw [hrec]; simp); rw [hrec] at this; exact this, hdone _ xs p _ (Nat.le_refl _) hn.2 hS (hput hI _ hi hn.1) ((World.putObj_heap_other (by omega)).trans hd)⟩
  ·exact ⟨some c, _, by have := run_endLoop (P := P) hl (by rw [hrec]; simp); rw [hrec] at this; exact this, hstop _ c pre p _ (Nat.le_refl _) hn.2 hSp (hput (hIx c) _ hi hn.1) ((World.putObj_heap_other (by omega)).trans hd)⟩
end
end Go.Proofs.YtghdibbooegocaaGreatDoor

namespace Go.Proofs.YtghdibbooegocaaGreatDoor.G
open Go.RowKit

abbrev nz (l : List Nat) : List Int := l.map fun x : Nat => (x : Int)
def StAt (T : BSet) (A : Option Addr) (Bf : Nat → Option Addr) (cf : Nat → Nat) (n : Nat) (s : Nat → List Nat) (W : World) : Prop :=
 ∀ i, i < n → ∃ g, A = some ⟨g, 0, none⟩ ∧ T g ∧ W.cell? ⟨g, i, none⟩ = some (.slice (Bf i) (s i).length (cf i)) ∧ Rd W (Bf i) (ivs (nz (s i))) ∧ (0 < (s i).length → ∀ ad, Bf i = some ad → T ad.block)
section
variable {T O : BSet} {A : Option Addr} {Bf : Nat → Option Addr} {cf : Nat → Nat} {n : Nat} {s : Nat → List Nat} {W W' : World}
theorem StAt.keep (h : StAt T A Bf cf n s W) (hk : Keep O W W') (hO : ∀ k, T k → ¬ O k) : StAt T A Bf cf n s W' := fun i hi => by
 obtain ⟨g, h1, h2, h3, h4, h5⟩ := h i hi
 refine ⟨g, h1, h2, hk.cell h3 (hO g h2), fun h0 => ?_, h5⟩
 have hl : 0 < (s i).length := by simpa [nz] using h0
 exact h4.keep hk (fun ad e => hO _ (h5 hl ad e)) h0
theorem StAt.keepN (h : StAt T A Bf cf n s W) (hk : Keep NoB W W') : StAt T A Bf cf n s W' := h.keep hk (fun _ _ => id)
theorem StAt.here (h : StAt T A Bf cf n s W) : StAt (fun k => k < W.heap.size) A Bf cf n s W := fun i hi => by
 obtain ⟨g, h1, h2, h3, h4, h5⟩ := h i hi
 refine ⟨g, h1, World.block_lt_of_cell? W _ h3, h3, h4, fun hl ad e => ?_⟩
 obtain ⟨gb, o, e2, hc⟩ := h4 (by simpa [nz] using hl)
 rw [e] at e2
 cases e2
 have := hc 0 _ (List.getElem?_eq_getElem (by simpa [nz] using hl))
 exact World.block_lt_of_cell? W _ this
theorem StAt.mono {T' : BSet} (h : StAt T A Bf cf n s W) (hT : ∀ k, T k → T' k) : StAt T' A Bf cf n s W := fun i hi => by
 obtain ⟨g, h1, h2, h3, h4, h5⟩ := h i hi
 exact ⟨g, h1, hT _ h2, h3, h4, fun hl ad e => hT _ (h5 hl ad e)⟩
theorem nz_len (l : List Nat) : (nz l).length = l.length := List.length_map ..
theorem rd_steps {B : Option Addr} {l : List Nat} (h : Rd W B (ivs (nz l))) (h0 : 0 < l.length) : ∃ g o, B = some ⟨g, o, none⟩ ∧ ∀ (j x : Nat), l[j]? = some x → W.cell? ⟨g, o + j, none⟩ = some (.int .i64 (x : Int)) := by
 obtain ⟨g, o, e, hc⟩ := h (by simpa [nz] using h0)
 exact ⟨g, o, e, fun j x hj => hc j _ (by simp [nz, hj])⟩
end

structure NrAt (fr : Nat) (A : Option Addr) (Bf : Nat → Option Addr) (cf : Nat → Nat) (n c : Nat) (s : Nat → List Nat) (fo : Nat) (lo : Array Value) (bf bs bo : Nat) (W : World) : Prop where
 kf : Blk W bf 3 #[.int .i64 (fr : Int)]
 ks : Blk W bs 49 #[.slice A n c]
 ko : Blk W bo 59 #[.func (.func fo) #[] lo]
 st : StAt (fun _ => True) A Bf cf n s W
def NrH (B0 fr : Nat) (A : Option Addr) (Bf : Nat → Option Addr) (cf : Nat → Nat) (n c : Nat) (s : Nat → List Nat) (fo : Nat) (lo : Array Value) (bf bs bo : Nat) (W : World) : Prop :=
 Blk W bf 3 #[.int .i64 (fr : Int)] ∧ Blk W bs 49 #[.slice A n c] ∧ Blk W bo 59 #[.func (.func fo) #[] lo] ∧ StAt (fun k => k < B0) A Bf cf n s W
theorem NrH.nr {B0 fr : Nat} {A : Option Addr} {Bf : Nat → Option Addr} {cf : Nat → Nat} {n c : Nat} {s : Nat → List Nat} {fo : Nat} {lo : Array Value} {bf bs bo : Nat} {W : World} (h : NrH B0 fr A Bf cf n c s fo lo bf bs bo W) : NrAt fr A Bf cf n c s fo lo bf bs bo W :=
 ⟨h.1, h.2.1, h.2.2.1, h.2.2.2.mono (fun _ _ => trivial)⟩
theorem NrH.keep {B0 fr : Nat} {A : Option Addr} {Bf : Nat → Option Addr} {cf : Nat → Nat} {n c : Nat} {s : Nat → List Nat} {fo : Nat} {lo : Array Value} {bf bs bo : Nat} {W W' : World} {O : BSet} (h : NrH B0 fr A Bf cf n c s fo lo bf bs bo W) (hk : Keep O W W')
  (h0 : ∀ k, k < B0 → ¬ O k) (h1 : ¬ O bf) (h2 : ¬ O bs) (h3 : ¬ O bo) : NrH B0 fr A Bf cf n c s fo lo bf bs bo W' :=
 ⟨h.1.keep hk h1, h.2.1.keep hk h2, h.2.2.1.keep hk h3, h.2.2.2.keep hk h0⟩
abbrev encN (x : Nat × Nat) : Array Value := #[.int .i64 (x.1 : Int), .int .i64 (x.2 : Int)]
def EnN (n : Nat) (s : Nat → List Nat) (op : Nat → Bool) (fr : Nat) (pre : List (Nat × Nat)) (x : Nat × Nat) : Prop := fr < n ∧ ∃ met, Near s op fr pre.length met ∧ pre = met.take pre.length ∧ met[pre.length]? = some x
theorem EnN.new {n : Nat} {s : Nat → List Nat} {op : Nat → Bool} {fr : Nat} {pre : List (Nat × Nat)} {x : Nat × Nat} (h : EnN n s op fr pre x) (hs : ∀ i a, i < n → a ∈ s i → a < n) : x.1 ∉ keysN pre ∧ x.1 < n ∧ x.2 < n ∧ pre.length ≤ n := by
 obtain ⟨hf, met, hnr, hpre, hmx⟩ := h
 refine ⟨fun h => ?_, hnr.lt hf hs _ (mem_keys_iff.2 ⟨_, _, hmx, rfl⟩), hnr.lt hf hs _ (hnr.snd _ (List.mem_of_getElem? hmx)), Nat.le_trans hnr.le (hnr.len hf hs)⟩
 obtain ⟨i, e, hi, he⟩ := mem_keys_iff.1 h
 have hil := (List.getElem?_eq_some_iff.1 hi).1
 rw [hpre, List.getElem?_take, if_pos hil] at hi
 have h1 : (keysN met)[i]? = some x.1 := by unfold keysN; rw [List.getElem?_map, hi]; exact congrArg some he
 have h2 : (keysN met)[pre.length]? = some x.1 := by unfold keysN; rw [List.getElem?_map, hmx]; rfl
 have := nodup_at hnr.nodup h1 h2
 omega
def AllN (s : Nat → List Nat) (op : Nat → Bool) (fr : Nat) (xs : List (Nat × Nat)) : Prop := Near s op fr xs.length xs
def line (met : List (Nat × Nat)) (k : Nat) : List Int := (met.drop k).map fun e => (e.1 : Int)
theorem line_len (met : List (Nat × Nat)) (k : Nat) : (line met k).length = met.length - k := by unfold line; rw [List.length_map, List.length_drop]
theorem line_at {met : List (Nat × Nat)} {k : Nat} {e : Nat × Nat} (h : met[k]? = some e) : line met k = (e.1 : Int) :: line met (k + 1) := by
 obtain ⟨hl, rfl⟩ := List.getElem?_eq_some_iff.1 h
 unfold line
 rw [List.drop_eq_getElem_cons hl, List.map_cons]
theorem line_snoc {met : List (Nat × Nat)} {k : Nat} (hk : k ≤ met.length) (x p : Nat) : line (met ++ [(x, p)]) k = line met k ++ [(x : Int)] := by
 unfold line
 rw [List.drop_append_of_le_length hk, List.map_append]
 rfl
theorem putO_look {met : List (Nat × Nat)} {x p : Nat} (h : x ∉ keysN met) (y : Int) : lookN (met ++ [(x, p)]) y = putO (lookN met) (x : Int) p y := look_snoc h y
def lenOf (v : Value) : Nat := match v with
 | .slice _ n _ => n
 | _ => 0
end Go.Proofs.YtghdibbooegocaaGreatDoor.G

namespace Go.Proofs.YtghdibbooegocaaGreatDoor.G
open Go.RowKit Go.Shelf W
attribute [local go_sem] Oper.semAt_some

theorem int_zeroG (w : World) : (zeroValue 3).run Tryz.prog w = .ok (.int .i64 0) w := by kernel_rfl
theorem wfN {x : Nat} (h : x < 10000) : (Lit.int .i64 (x : Int)).wf = true := WalkArith.wf_i64 (by omega)

structure NrI (J : List (Nat × Nat) → BSet → World → Prop) (H : World → Prop) (s : Nat → List Nat) (op : Nat → Bool) (fr n m0 bm : Nat) (p0 : BSet) (k : Nat) (met : List (Nat × Nat)) (p : BSet) (g : Nat) (v : Value) (W : World) : Prop where
 near : Near s op fr k met
 qu : Qu g v (line met k) W
 map : OMapS Tryz.prog 3 3 bm met.length (lookN met) W
 j : J (met.take k) p W
 nbm : ¬ p bm
 ng : ¬ p g
 hbm : m0 ≤ bm
 hg : m0 ≤ g
 h : H W
 own : ∀ k, k < m0 → p k → p0 k
structure NrJ (J : List (Nat × Nat) → BSet → World → Prop) (H : World → Prop) (s : Nat → List Nat) (op : Nat → Bool) (fr n m0 bm : Nat) (p0 : BSet) (k : Nat) (met : List (Nat × Nat)) (q : Nat) (i : Nat) (met2 : List (Nat × Nat)) (p : BSet) (g : Nat) (v : Value) (W : World) : Prop where
 eq : met2 = meetAll op q ((s q).take i) met
 qu : Qu g v (line met2 (k + 1)) W
 map : OMapS Tryz.prog 3 3 bm met2.length (lookN met2) W
 j : J (met.take (k + 1)) p W
 nbm : ¬ p bm
 ng : ¬ p g
 hbm : m0 ≤ bm
 hg : m0 ≤ g
 h : H W
 own : ∀ k, k < m0 → p k → p0 k

section
variable {J : List (Nat × Nat) → BSet → World → Prop} {H : World → Prop} {s : Nat → List Nat} {op : Nat → Bool} {fr n m0 bm k q i g : Nat} {p0 p : BSet} {met met2 : List (Nat × Nat)} {v : Value} {W : World}
theorem NrJ.len (h : NrJ J H s op fr n m0 bm p0 k met q i met2 p g v W) (hn : Near s op fr k met) (hf : fr < n) (hs : ∀ i a, i < n → a ∈ s i → a < n) (hq : q < n) : met2.length ≤ n := by
 have h1 : (keysN met2).Nodup := by rw [h.eq]; exact meetAll_nodup _ hn.nodup
 have h2 : ∀ y ∈ keysN met2, y < n := fun y hy => by
  rw [h.eq, meetAll_mem] at hy
  rcases hy with hy | ⟨hy, _⟩
  ·exact hn.lt hf hs y hy
  ·exact hs q y hq (List.mem_of_mem_take hy)
 have := nodup_len n _ h1 h2
 simpa [keysN] using this
theorem NrJ.pre (h : NrJ J H s op fr n m0 bm p0 k met q i met2 p g v W) : met.length ≤ met2.length ∧ (k < met.length → met.take (k + 1) = met2.take (k + 1)) := by
 obtain ⟨r, hr⟩ := meetAll_prefix (op := op) (p := q) ((s q).take i) met
 rw [h.eq, ← hr, List.length_append]
 exact ⟨by omega, fun hk => by rw [List.take_append_of_le_length hk]⟩
theorem NrJ.ne (h : NrJ J H s op fr n m0 bm p0 k met q i met2 p g v W) : g ≠ bm := by
 obtain ⟨es, c, hb⟩ := h.map.omap.obj
 obtain ⟨_, _, cur, _, hB, _⟩ := h.qu
 rintro rfl
 have := (show W.heap[g]? = _ from hB).symm.trans hb
 simp at this
end
theorem yield_anyG {m n : Nat} {P : Program} {l : Nat} {args : Array Value} {W : World} {R : Ending → World → Prop} (h : YieldAt Fence.wide m P l args W R) : YieldAt Fence.wide n P l args W R := by
 obtain ⟨f1, f2, f3, f4, h1, h2, h3⟩ := h
 exact ⟨f1, f2, f3, f4, h1, h2, fun c cs _ => h3 c cs (room_wide _)⟩
theorem take_snoc {met : List (Nat × Nat)} {k : Nat} {e : Nat × Nat} (h : met[k]? = some e) : met.take k ++ [e] = met.take (k + 1) := by
 obtain ⟨hl, rfl⟩ := List.getElem?_eq_some_iff.1 h
 exact (List.take_succ_eq_append_getElem hl).symm

set_option maxRecDepth 100000 in
set_option maxHeartbeats 8000000 in
theorem near_stops (m k fr n c fo bf bs bo : Nat) (A : Option Addr) (Bf : Nat → Option Addr) (cf : Nat → Nat) (s : Nat → List Nat) (op : Nat → Bool) (lo : Array Value) (hn : n ≤ 1000) (hfr : n ≠ 0 → fr < n) (hf2 : fr ≤ 1000) (hs : Hid (∀ i a, i < n → a ∈ s i → a < n)) (hsl : Hid (∀ i, i < n → (s i).length ≤ 2)) (H : World → Prop) (Fa : List (Nat × Nat) → World → Prop)
  (hH : Hid (∀ W, H W → NrAt fr A Bf cf n c s fo lo bf bs bo W)) (eg : ∀ args w, (callFunc fo args).run Tryz.prog w = .ok (.enter fo args) w)
  (hO : Hid (∀ pre W (q : Nat), Fa pre W → q ∉ keysN pre → q < n → Calls Tryz.prog fo (#[.int .i64 (q : Int)] ++ lo) W fun e W' => e = .returned (.bool (op q)) ∧ W' = W)) :
  StopsF Tryz.prog m k 64 #[.pointer (some ⟨bf, 0, none⟩), .pointer (some ⟨bs, 0, none⟩), .pointer (some ⟨bo, 0, none⟩)] encN H Fa (EnN n s op fr) (fun xs => (n = 0 ∧ xs = []) ∨ (n ≠ 0 ∧ AllN s op fr xs)) (fun _ => True) := by
 intro L J Jx p W hJ hJx hb hFa hY h0 hp0 hH0 hst
 have hn0 := hH.out W hH0
 have cf := hn0.kf.cell 0
 have cs := hn0.ks.cell 0
 simp only [List.getElem?_toArray, List.getElem?_cons_zero] at cf cs
 have hmm := @run_makeMap Tryz.prog
 obtain ⟨i0, hi, hz0, hz1, hz2⟩ := info_parts int_info
 have hwf : (Lit.int .i64 (fr : Int)).wf = true := wfN (by omega)
 obtain ⟨W1, hins, hI1, hg1⟩ := (OMapS.new Tryz.prog 3 3 W).update (t := 51) Tryz.underlying51 Tryz.underlying3 Tryz.underlying3 (by decide) (fr : Int) fr rfl hwf hwf
 have cf1 : (W.alloc (.map #[] 0)).cell? ⟨bf, 0, none⟩ = some (.int .i64 (fr : Int)) := ((Keep.refl NoB W).alloc _).cell cf id
 have k1 : Keep NoB W W1 := ((Keep.refl NoB W).alloc _).grown hg1 (fun g e hl => by cases e; exact absurd hl (Nat.lt_irrefl _))
 have cf2 : W1.cell? ⟨bf, 0, none⟩ = some (.int .i64 (fr : Int)) := k1.cell cf id
 have hz1s : W.heap.size < W1.heap.size := hI1.omap.lt
 have hW2 : Hid (n ≠ 0 → NrI J H s op fr n W.heap.size W.heap.size p 0 [(fr, fr)] p W1.heap.size (.slice (some ⟨W1.heap.size, 0, none⟩) 1 1) (W1.alloc (.cells #[.int .i64 (fr : Int)] 3))) := fun _ => by
  have k2 : Keep NoB W (W1.alloc (.cells #[.int .i64 (fr : Int)] 3)) := k1.alloc _
  refine ⟨.start, Qu.new W1 _, ?_, ?_, fun h => by have := hp0 _ h; omega, fun h => by have := hp0 _ h; omega, Nat.le_refl _, by omega, hst NoB _ _ (fun _ h => h.elim) hH0 k2, fun k _ h => h⟩
  ·refine (hI1.keep ((Keep.refl NoB _).alloc _) id).congr fun y => ?_
   have := putO_look (met := []) (x := fr) (p := fr) (by simp [keysN]) y
   rw [List.nil_append] at this
   exact this
  ·exact hJ _ _ _ _ h0 (k2.mono fun _ h => h.elim)
 have HY := Lib.hid hY
 have HJ := Lib.hid hJ
 have HF := Lib.hid hFa
 have HB := Lib.hid hb
 have HT := Lib.hid hst
 have HP := Lib.hid hp0
 have H0 := Lib.hid (And.intro h0 hH0)
 clear hY hJ hJx hFa hb hst hp0 h0 hH0 hn0 hI1 hg1 k1
 refine callsIn_of_wp Tryz.func64 rfl trivial ?_ rfl
 simp only [Tryz.ntmps64, List.size_toArray, List.length_cons, List.length_nil, Nat.reduceAdd, Nat.reduceSub, Array.replicate_succ, Array.replicate_zero, List.push_toArray, List.append_toArray, List.nil_append, List.cons_append]
 by_cases hz : n = 0
 ·have hq : ((n : Nat) : Int) ≤ (fr : Int) := by omega
  clear hW2 hins hmm
  gi_wp2
  refine bodyPost_ret (results_none rfl _ _ _) rfl ?_
  exact ⟨⟨_, rfl⟩, p, .inl ⟨[], .inl ⟨hz, rfl⟩, H0.out.1⟩⟩
 have hfn := hfr hz
 have hq : ¬ ((n : Nat) : Int) ≤ (fr : Int) := by omega
 have hI2 := Lib.hid (hW2.out hz)
 clear hW2 hfr
 gi_wp2
 generalize hW2 : W1.alloc (.cells #[.int .i64 (fr : Int)] 3) = W2 at *
 clear hW2 cf1 cf2 hins hmm cf cs
 gi_loopw [6] (fun v wr => ∃ (k0 : Nat) (met : List (Nat × Nat)) (p' : BSet) (g : Nat), Hid (NrI J H s op fr n W.heap.size W.heap.size p k0 met p' g v wr)) (fun v wr => n + lenOf v - mapSize wr W.heap.size)
 case atStart => exact ⟨0, _, p, _, hI2⟩
 case round =>
  obtain ⟨k0, met, p2, g, HI⟩ := hrel
  have hle := HI.out.near.le
  have hlen : met.length ≤ n := HI.out.near.len hfn hs.out
  by_cases hk : k0 < met.length
  ·have he := List.getElem?_eq_getElem hk
   obtain ⟨⟨q, from0⟩, hqe⟩ : ∃ e, met[k0] = e := ⟨_, rfl⟩
   rw [hqe] at he
   have hql := line_at he
   have hqu := HI.out.qu
   rw [hql] at hqu
   obtain ⟨off, cap, o1, c1, rfl, hc0, hcap, hcm, ho1, hqu1⟩ := hqu.rest
   rw [line_len] at hcap hqu1
   have hqm : q ∈ keysN met := mem_keys_iff.2 ⟨k0, _, he, rfl⟩
   have hqn : q < n := HI.out.near.lt hfn hs.out q hqm
   have hlk := HI.out.map.omap.look (t := 51) Tryz.underlying51 Tryz.underlying3 Tryz.underlying3 (int_zeroG _) (q : Int) (wfN (by omega))
   rw [look_mem HI.out.near.nodup he, Option.getD_some] at hlk
   have hpl : (met.take k0).length = k0 := by rw [List.length_take]; omega
   have hen : EnN n s op fr (met.take k0) (q, from0) := ⟨hfn, met, by rw [hpl]; exact HI.out.near, by rw [hpl], by rw [hpl]; exact he⟩
   have HY1 : YieldAt Fence.wide (k - 1) Tryz.prog L #[.int .i64 (q : Int), .int .i64 (from0 : Int)] wr _ := yield_anyG (n := k - 1) (HY.out _ _ _ _ HI.out.j hen)
   have hms := HI.out.map.size
   obtain ⟨fn, tmps, assign, body, hy, hR⟩ := HY1
   have hlc : (line met (k0 + 1)).length = met.length - (k0 + 1) := line_len _ _
   have q0 : (0 : Int) < ((met.length - (k0 + 1) + 1 : Nat) : Int) := by omega
   have HQ := Lib.hid hqu1
   rw [hlc]
   clear hqu hqu1 hql hqe
   generalize hN : met.length - (k0 + 1) = N1 at *
   rcases ho1 with ⟨rfl, rfl, rfl⟩ | ⟨hc1, rfl, rfl⟩
   case' inl => obtain rfl : N1 = 0 := by omega
   all_goals
    gi_wp2
    refine ⟨(fun h => by cases h), hR.mono ?_⟩
    clear hR hy hc0 hlk
    generalize Value.slice (some ⟨g, _, none⟩) _ _ = v1 at HQ ⊢
    rintro e W3 ⟨p3, hr3, ⟨rfl, hj3⟩ | ⟨rfl, hx3⟩⟩
    ·have hj := HI.out
     have hown3 : ∀ k, k < W.heap.size → p3 k → p k := fun k hk h3 => hj.own k hk (hr3.own k (Nat.lt_of_lt_of_le hk (by have := hj.map.omap.lt; omega)) h3)
     have hH3 : H W3 := HT.out p2 wr W3 (fun k hk => by
      rcases Nat.lt_or_ge k W.heap.size with h | h
      ·exact .inl (hj.own k h hk)
      ·exact .inr h) hj.h hr3.keep
     have hbm3 : ¬ p3 W.heap.size := hr3.not hj.map.omap.lt hj.nbm
     have hg3 : ¬ p3 g := hr3.not hj.qu.lt hj.ng
     have hJJ : Hid (NrJ J H s op fr n W.heap.size W.heap.size p k0 met q 0 met p3 g v1 W3) :=
      ⟨by simp [meetAll], HQ.out.keep hr3.keep hj.ng, hj.map.keep hr3.keep hj.nbm, by rw [← take_snoc he]; exact hj3, hbm3, hg3, hj.hbm, hj.hg, hH3, hown3⟩
     clear hj hown3 hbm3 hg3 hj3 hr3
     have hn3 := hH.out W3 hH3
     have cs3 := hn3.ks.cell 0
     simp only [List.getElem?_toArray, List.getElem?_cons_zero] at cs3
     obtain ⟨gs, rfl, _, cq, _, _⟩ := hn3.st q hqn
     obtain ⟨B, hB⟩ : ∃ B, Bf q = B := ⟨_, rfl⟩
     generalize cf q = cB at cq
     rw [hB] at cq
     obtain ⟨ln, hln⟩ : ∃ ln, (s q).length = ln := ⟨_, rfl⟩
     rw [hln] at cq
     have hl2 : ln ≤ 2 := by rw [← hln]; exact hsl.out q hqn
     have HRd : Hid (∀ wx, H wx → Rd wx B (ivs (nz (s q)))) := fun wx h => by
      obtain ⟨_, _, _, _, h2, _⟩ := (hH.out wx h).st q hqn
      rw [← hB]; exact h2
     clear hn3 hH3 HQ
     gi_wp2
     clear cq cs3
     gi_loopw [6, 42] (fun v i wr2 => ∃ (j : Nat) (met2 : List (Nat × Nat)) (p4 : BSet) (g4 : Nat), j ≤ ln ∧ i = .int .i64 (j : Int) ∧ Hid (NrJ J H s op fr n W.heap.size W.heap.size p k0 met q j met2 p4 g4 v wr2)) (fun _ i _ => ln - (intOf i).toNat)
     case atStart => exact ⟨0, met, p3, g, Nat.zero_le _, rfl, hJJ⟩
     case round =>
      obtain ⟨j, met2, p4, g4, hj, rfl, HI2⟩ := hrel
      by_cases hlt : j < ln
      ·have hjl : j < (s q).length := by rw [hln]; exact hlt
       obtain ⟨gb, ob, rfl, hcb⟩ := rd_steps (HRd.out _ HI2.out.h) (by omega)
       have hx := List.getElem?_eq_getElem hjl
       have cx := hcb j _ hx
       have hsn : meetAll op q ((s q).take (j + 1)) met = meetOne op q met2 (s q)[j] := by
        rw [List.take_succ_eq_append_getElem hjl, meetAll_snoc, ← HI2.out.eq]
       have hxn : (s q)[j] < n := hs.out q _ hqn (List.getElem_mem hjl)
       generalize (s q)[j] = x at cx hsn hxn
       have hwx := wfN (x := x) (by omega)
       have hlk2 := HI2.out.map.omap.look2 (t := 51) Tryz.underlying51 Tryz.underlying3 Tryz.underlying3 (int_zeroG _) (x : Int) hwx
       clear hx hcb
       cases hl : lookN met2 (x : Int) with
       | some v0 =>
        have hxm : x ∈ keysN met2 := Classical.byContradiction fun h => by rw [look_nat.2 h] at hl; cases hl
        have hsm : meetOne op q met2 x = met2 := if_pos hxm
        rw [hsm] at hsn
        rw [hl] at hlk2
        simp only [Option.getD_some, Option.isSome_some] at hlk2
        have hi2 := HI2.out
        have HN : Hid (NrJ J H s op fr n W.heap.size W.heap.size p k0 met q (j + 1) met2 p4 g4 u6 wr) :=
         ⟨hsn.symm, hi2.qu, hi2.map, hi2.j, hi2.nbm, hi2.ng, hi2.hbm, hi2.hg, hi2.h, hi2.own⟩
        clear hl hi2 HI2 hJJ
        gi_wp2
        refine ⟨(fun f hf => by cases hf), ?_⟩
        gi_wp2
        go_roundw
        case rel => exact ⟨j + 1, met2, p4, g4, by omega, by go_num, HN⟩
        case measure => simp [intOf]; omega
       | none =>
        have hxm : x ∉ keysN met2 := look_nat.1 hl
        rw [hl] at hlk2
        simp only [Option.getD_none, Option.isSome_none] at hlk2
        have hi2 := HI2.out
        have co := (hH.out wr hi2.h).ko.cell 0
        simp only [List.getElem?_toArray, List.getElem?_cons_zero] at co
        have hsub : ∀ y ∈ keysN (met.take (k0 + 1)), y ∈ keysN met2 := fun y hy => by
         rw [hi2.eq, meetAll_mem]
         obtain ⟨i', e', hi', he'⟩ := mem_keys_iff.1 hy
         rw [List.getElem?_take] at hi'
         split at hi'
         ·exact .inl (mem_keys_iff.2 ⟨i', e', hi', he'⟩)
         ·cases hi'
        have HC := Lib.hid (hO.out (met.take (k0 + 1)) wr x (HF.out _ _ _ hi2.j) (fun h => hxm (hsub x h)) hxn)
        clear hl hsub
        cases hop : op x with
        | false =>
         have hsm : meetOne op q met2 x = met2 := by unfold meetOne; rw [if_neg hxm, if_neg (by rw [hop]; decide)]
         rw [hsm] at hsn
         rw [hop] at HC
         have HN : Hid (NrJ J H s op fr n W.heap.size W.heap.size p k0 met q (j + 1) met2 p4 g4 u6 wr) :=
          ⟨hsn.symm, hi2.qu, hi2.map, hi2.j, hi2.nbm, hi2.ng, hi2.hbm, hi2.hg, hi2.h, hi2.own⟩
         clear hi2 HI2 hJJ hop
         gi_wp2
         refine ⟨trivial, (fun h => by cases h), (callsIn_wide.2 HC.out).mono ?_⟩
         rintro e w9 ⟨rfl, rfl⟩
         gi_wp2
         go_roundw
         case rel => exact ⟨j + 1, met2, p4, g4, by omega, by go_num, HN⟩
         case measure => simp [intOf]; omega
        | true =>
         have hsm : meetOne op q met2 x = met2 ++ [(x, q)] := by unfold meetOne; rw [if_neg hxm, if_pos hop]
         rw [hsm] at hsn
         rw [hop] at HC
         have hm2 : met2.length ≤ n := NrJ.len hi2 HI.out.near hfn hs.out hqn
         have hpre := NrJ.pre hi2
         have hwq := wfN (x := q) (by omega)
         obtain ⟨w5, hup, hM5, hg5⟩ := hi2.map.update (t := 51) Tryz.underlying51 Tryz.underlying3 Tryz.underlying3 (by unfold maxLen; omega) (x : Int) q (look_nat.2 hxm) hwx hwq
         have hgb : g4 ≠ W.heap.size := hi2.ne
         have hQ5 : Qu g4 u6 (line met2 (k0 + 1)) (w5.alloc (.cells #[.int .i64 (x : Int)] 3)) := (hi2.qu.grown hg5 (by intro e; injection e with e; exact hgb e)).keep ((Keep.refl NoB _).alloc _) id
         have hx5 : (w5.alloc (.cells #[.int .i64 (x : Int)] 3)).cell? ⟨w5.heap.size, 0, none⟩ = some (.int .i64 (x : Int)) := (Blk.new w5 _ _).cell 0
         obtain ⟨v7, w7, g7, hap, hQ7, hg7, hgr7⟩ := hQ5.push (t := 23) (ty := 23) Tryz.underlying23 hi hz0 hz1 hz2 (x : Int) w5.heap.size 0 1 hx5 (by rw [line_len]; omega)
         have hK7 : Keep (fun k => W.heap.size ≤ k ∧ ¬ p4 k) wr w7 := by
          refine (((Keep.refl _ wr).grown hg5 (fun g e _ => by cases e; exact ⟨Nat.le_refl _, hi2.nbm⟩)).alloc _).grown hgr7 (fun g e _ => by cases e; exact ⟨hi2.hg, hi2.ng⟩)
         have hps := HB.out _ _ _ hi2.j
         have hng7 : ¬ p4 g7 := by
          rcases hg7 with rfl | h7
          ·exact hi2.ng
          ·intro h; have h1 := hps _ h; have h2 := hg5.size; rw [World.size_alloc] at h7; omega
         have hg72 : W.heap.size ≤ g7 := by
          rcases hg7 with rfl | h7
          ·exact hi2.hg
          ·have h1 := hi2.map.omap.lt; have h2 := hg5.size; rw [World.size_alloc] at h7; omega
         have HN : Hid (NrJ J H s op fr n W.heap.size W.heap.size p k0 met q (j + 1) (met2 ++ [(x, q)]) p4 g7 v7 w7) := by
          refine ⟨hsn.symm, ?_, ?_, HJ.out _ _ _ _ hi2.j hK7, hi2.nbm, hng7, hi2.hbm, hg72, ?_, hi2.own⟩
          ·rw [line_snoc (by omega)]; exact hQ7
          ·rw [List.length_append, List.length_singleton]
           exact ((hM5.keep ((Keep.refl NoB _).alloc _) id).grown hgr7 (by intro e; injection e with e; exact hgb e.symm)).congr fun y => putO_look hxm y
          ·exact HT.out _ _ _ (fun k hk => .inr hk.1) hi2.h hK7
         clear hi2 HI2 hJJ hop hps hK7 hQ7 hQ5 hM5 hg5 hgr7 hng7 hg72 hg7 hgb hm2 hpre hx5 HI
         gi_wp2
         refine ⟨trivial, (fun h => by cases h), (callsIn_wide.2 HC.out).mono ?_⟩
         rintro e w9 ⟨rfl, rfl⟩
         gi_wp2_with (gi_at_builtin; refine wpListIn_append_run _ rfl _ _ 23 rfl _ _ v7 w7 rfl rfl hap ?_)
         go_roundw
         case rel => exact ⟨j + 1, _, p4, g7, by omega, by go_num, HN⟩
         case measure => simp [intOf]; omega
      ·obtain rfl : j = ln := by omega
       have hi2 := HI2.out
       have hall : (s q).take j = s q := List.take_of_length_le (by rw [hln]; exact Nat.le_refl _)
       have heq := hi2.eq
       rw [hall] at heq
       have hm2 : met2.length ≤ n := NrJ.len hi2 HI.out.near hfn hs.out hqn
       have hpre := NrJ.pre hi2
       have HN : Hid (NrI J H s op fr n W.heap.size W.heap.size p (k0 + 1) met2 p4 g4 u6 wr) :=
        ⟨by rw [heq]; exact .step HI.out.near he, hi2.qu, hi2.map, by rw [← hpre.2 hk]; exact hi2.j, hi2.nbm, hi2.ng, hi2.hbm, hi2.hg, hi2.h, hi2.own⟩
       have hsz2 : mapSize wr W.heap.size = met2.length := hi2.map.size
       obtain ⟨of2, ca2, hv2⟩ := hi2.qu.form
       have hlv : lenOf u6 = met2.length - (k0 + 1) := by rw [hv2]; show (line met2 (k0 + 1)).length = _; rw [line_len]
       have hpl2 := hpre.1
       clear hi2 HI2 hJJ HI hall heq hpre hv2
       gi_wp2
       go_roundw
       case rel => exact ⟨k0 + 1, met2, p4, g4, HN⟩
       case measure => rw [hms, hsz2, hlv]; simp only [lenOf]; omega
    ·have HX := Lib.hid hx3
     clear hx3 hr3
     gi_wp2
     refine bodyPost_ret (results_none rfl _ _ _) rfl ?_
     exact ⟨⟨_, rfl⟩, p3, .inr ⟨_, trivial, HX.out⟩⟩
  ·obtain rfl : k0 = met.length := by omega
   have hqu := HI.out.qu
   have hl0 : line met met.length = [] := List.length_eq_zero_iff.1 (by rw [line_len]; omega)
   rw [hl0] at hqu
   obtain ⟨off, cap, rfl⟩ := hqu.nil
   have HX : Hid ((n ≠ 0 ∧ AllN s op fr met) ∧ J met p2 wr) := ⟨⟨hz, HI.out.near⟩, by have := HI.out.j; rwa [List.take_length] at this⟩
   clear hqu HI hl0
   gi_wp2
   go_end0
   exact ⟨⟨_, rfl⟩, p2, .inl ⟨met, .inr HX.out.1, HX.out.2⟩⟩

end Go.Proofs.YtghdibbooegocaaGreatDoor.G
