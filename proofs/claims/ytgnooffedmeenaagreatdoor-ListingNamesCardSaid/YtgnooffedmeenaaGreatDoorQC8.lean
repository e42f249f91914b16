/-
  Part 8 of the proofs of LNamesRow, LOneRow: what is laid, and what the functions that the law runs answer. Conditions: each theorem names its own.
-/
import Derived.DeepKeys4
import Derived.Laws.CopyOwn
import Derived.Laws.RangeAny
import Derived.Laws.RangeString
import Derived.Maps.Keyed
import Derived.Maps.Own
import Derived.Maps.OwnIn
import Derived.Maps.OwnOps
import Derived.Maps.OwnSet
import Derived.Maps.Views
import Derived.ProofKit
import Derived.SizedLaws
import Derived.WalkArith
import Derived.Test.YtgnooffedmeenaaGreatDoorQC7
namespace Go.Proofs.YtgnooffedmeenaaGreatDoor
open Go.RowKit Go.Shelf

structure IStepU (U : TypeId) (B : Nat) (p : BSet) (W W' : World) : Prop where
 keep : Keep (fun k => B ≤ k ∧ ¬ p k) W W'
 cells : ∀ (k : Nat) c fz, W'.heap[k]? = some (.cells c U fz) → W.heap[k]? = some (.cells c U fz)
def KeepsOutU (U : TypeId) {β : Type} (B : Nat) (I : β → BSet → World → Prop) : Prop := ∀ s p W W', I s p W → IStepU U B p W W' → I s p W'
section
variable {U : TypeId} {B : Nat} {p : BSet} {W W1 W2 : World}
theorem IStepU.alloc (o : Obj) (ho : ∀ c fz, o ≠ .cells c U fz) : IStepU U B p W (W.alloc o) := by
 refine ⟨(Keep.refl _ _).alloc _, fun k c fz hk => ?_⟩
 have hl := (Array.getElem?_eq_some_iff.1 hk).1
 rw [World.size_alloc] at hl
 by_cases e : k = W.heap.size
 ·subst e
  rw [World.alloc_heap_new] at hk
  cases hk
  exact absurd rfl (ho _ _)
 ·rw [Below.heap_alloc _ _ _ (by omega)] at hk
  exact hk
theorem IStepU.trans (h : IStepU U B p W W1) (h' : IStepU U B p W1 W2) : IStepU U B p W W2 :=
 ⟨h.keep.trans h'.keep (fun _ h _ => h), fun k c fz hk => h.cells k c fz (h'.cells k c fz hk)⟩
theorem IStepU.putObj {l : Nat} (o : Obj) (ho : ∀ c fz, o ≠ .cells c U fz) (hB : B ≤ l) (hp : ¬ p l) : IStepU U B p W (W.putObj l o) := by
 refine ⟨(Keep.refl _ W).grown (grownBy_putObj' W l o) (fun g e hl => by cases e; exact ⟨hB, hp⟩), fun k c fz hk => ?_⟩
 by_cases e : k = l
 ·subst e
  have hl := (Array.getElem?_eq_some_iff.1 hk).1
  rw [World.putObj_heap_same (by simpa [World.putObj] using hl)] at hk
  cases hk
  exact absurd rfl (ho _ _)
 ·rwa [World.putObj_heap_other e] at hk
theorem IStepU.setCell {g : Nat} {T : TypeId} {cs : Array Value} (i : Nat) (v : Value) (hg : Blk W g T cs) (hT : T ≠ U) (hB : B ≤ g) (hp : ¬ p g) : IStepU U B p W (W.setCell ⟨g, i, none⟩ v) := by
 refine ⟨(Keep.refl _ W).setCell (p := ⟨g, i, none⟩) (fun _ => ⟨hB, hp⟩) v, fun k c fz hk => ?_⟩
 by_cases e : k = g
 ·subst e
  have h2 : (W.setCell ⟨k, i, none⟩ v).heap[k]? = some (.cells (cs.setIfInBounds i v) T (0, 0)) := hg.put i v
  rw [h2] at hk
  cases hk
  exact absurd rfl hT
 ·rwa [Below.heap_setCell _ _ _ _ e] at hk
theorem IStepU.mono {B' : Nat} {p' : BSet} (h : IStepU U B p W W1) (hB : B' ≤ B) (hp : ∀ k, p' k → p k) : IStepU U B' p' W W1 :=
 ⟨h.keep.mono (fun k h2 _ => ⟨Nat.le_trans hB h2.1, fun h3 => h2.2 (hp k h3)⟩), h.cells⟩
end

section
variable {P : Program} {n : Nat}
def StopsU (U : TypeId) {α : Type} (P : Program) (m k : Nat) (gf : Nat) (lb : Array Value) (encs : α → Array Value) (H : World → Prop) (En : List α → α → Prop) (S Sp : List α → Prop) : Prop :=
 ∀ (L : Nat) (J Jx : List α → BSet → World → Prop) (p : BSet) (W : World), KeepsOutU U W.heap.size J → KeepsOutU U W.heap.size Jx → (∀ pre p W, J pre p W → ∀ k, p k → k < W.heap.size) →
  (∀ pre x p W1, J pre p W1 → En pre x → YieldAt Fence.wide m P L (encs x) W1 fun e W' => ∃ p', Rnd p p' W1 W' ∧ ((e = .returned (.bool true) ∧ J (pre ++ [x]) p' W') ∨ (e = .returned (.bool false) ∧ Jx (pre ++ [x]) p' W'))) →
  J [] p W → (∀ k, p k → k < W.heap.size) → H W → (∀ O W1 W2, (∀ k, O k → p k ∨ W.heap.size ≤ k) → H W1 → Keep O W1 W2 → H W2) →
  CallsIn Fence.wide k P gf (#[.func (.yield L) #[] #[]] ++ lb) W fun e W' => (∃ v, e = .returned v) ∧ ∃ p', ((∃ xs, S xs ∧ J xs p' W') ∨ (∃ pre, Sp pre ∧ Jx pre p' W'))

def minePostU {α : Type} (I : List α → BSet → World → Prop) (Ix : Code → List α → BSet → World → Prop) (xs : List α) (p : BSet) (W : World) : Exit → Act → World → Prop
 | .normal, _, W' => ∃ p', Rnd p p' W W' ∧ I xs p' W'
 | .ret, _, W' => ∃ p', Rnd p p' W W' ∧ Ix .ret xs p' W'
 | .exit id, _, W' => ∃ p', Rnd p p' W W' ∧ Ix (.exit id) xs p' W'
 | .goto t, _, W' => ∃ p', Rnd p p' W W' ∧ Ix (.goto t) xs p' W'
 | .panic _, _, _ => False
 | .outgrown, _, _ => False

theorem wpIn_rangeFunc_U {U : TypeId} {α : Type} {g : Operand} {ps : Array Tmp} {assign body : Code} {Q : Exit → Act → World → Prop} {a : Act} {w : World} {m : Nat}
  {gf : Nat} {lb : Array Value} (hg : a.eval g = .func (.func gf) #[] lb) (eg : ∀ args w, (callFunc gf args).run P w = .ok (.enter gf args) w)
  {encs : α → Array Value} {H : World → Prop} {En : List α → α → Prop} {S Sp : List α → Prop} (hit : StopsU U P m (n - 1) gf lb encs H En S Sp) (hps : ∀ x, (encs x).size = ps.size)
  (I : List α → BSet → World → Prop) (Ix : Code → List α → BSet → World → Prop) (hI : KeepsOutU U w.heap.size I) (hIb : ∀ pre p W, I pre p W → ∀ k, p k → k < W.heap.size) (hIx : ∀ c, KeepsOutU U w.heap.size (Ix c)) {p0 : BSet} (h0 : I [] p0 w) (hp0 : ∀ k, p0 k → k < w.heap.size) (hH : H w) (hHk : ∀ O W1 W2, (∀ k, O k → p0 k ∨ w.heap.size ≤ k) → H W1 → Keep O W1 W2 → H W2)
  (Ax : List α → α → BSet → Act → World → Prop) (hAx : ∀ pre x a', KeepsOutU U w.heap.size (fun (_ : Unit) p W => Ax pre x p a' W))
  (hassign : ∀ (l : Nat) (pre : List α) (x : α) (p : BSet) (W : World), I pre p W → En pre x →
   assign.wpIn (Fence.wide.inRound l) m P (Exit.then (fun a' W' => ∃ p', Rnd p p' W W' ∧ Ax pre x p' a' W') (fun _ _ _ => False)) { tmps := (ps.zip (encs x)).foldl (fun t (p, v) => t.setIfInBounds p v) a.tmps, defers := [] } W)
  (hbody : ∀ (l : Nat) (pre : List α) (x : α) (p : BSet) (a' : Act) (W : World), En pre x → Ax pre x p a' W → body.wpIn (Fence.wide.inRound l) m P (minePostU I Ix (pre ++ [x]) p W) a' W)
  (hdone : ∀ (D : Nat) (xs : List α) (p : BSet) (W : World), w.heap.size ≤ D → ¬ p D → S xs → I xs p W → W.heap[D]? = some (.deferred (some [])) → Q .normal { a with defers := { target := .collected D, args := #[] } :: a.defers } W)
  (hstop : ∀ (D : Nat) (c : Code) (pre : List α) (p : BSet) (W : World), w.heap.size ≤ D → ¬ p D → Sp pre → Ix c pre p W → W.heap[D]? = some (.deferred (some [])) → c.wpIn Fence.wide n P Q { a with defers := { target := .collected D, args := #[] } :: a.defers } W) :
  (Code.rangeFunc g ps assign body).wpIn Fence.wide n P Q a w := by
 refine wpIn_rangeFunc fun fn _ => ?_
 obtain ⟨rec, hrec⟩ : ∃ rec : LoopState → Option Code → Loop, rec = fun st pe => { state := st, pending := pe, fn, tmps := a.tmps, params := ps, assign, body, defers := w.heap.size } := ⟨_, rfl⟩
 obtain ⟨W1, hW1⟩ : ∃ W1, (w.alloc (.deferred (some []))).alloc (.loop (rec .ready none)) = W1 := ⟨_, rfl⟩
 have hL1 : W1.heap[w.heap.size + 1]? = some (.loop (rec .ready none)) := by
  rw [← hW1]; have := World.alloc_heap_new (w.alloc (.deferred (some []))) (.loop (rec .ready none)); rwa [World.size_alloc] at this
 have hD1 : W1.heap[w.heap.size]? = some (.deferred (some [])) := by
  rw [← hW1]; exact (Below.heap_alloc _ _ _ (by simp)).trans (World.alloc_heap_new w _)
 have hs1 : W1.heap.size = w.heap.size + 2 := by rw [← hW1]; simp
 have hB1 : H W1 := by
  rw [← hW1]; exact hHk NoB _ _ (fun k h => h.elim) hH (((Keep.refl _ _).alloc _).alloc _)
 have hI1 : I [] p0 W1 := hI _ _ _ _ h0 (by rw [← hW1]; exact (IStepU.alloc _ (by intro _ _ h; cases h)).trans (IStepU.alloc _ (by intro _ _ h; cases h)))
 have hput : ∀ {β : Type} {I' : β → BSet → World → Prop} (_ : KeepsOutU U w.heap.size I') {s : β} {p : BSet} {W : World} (l' : Loop), I' s p W → ¬ p (w.heap.size + 1) → I' s p (W.putObj (w.heap.size + 1) (.loop l')) := by
  intro β I' h s p W l' hi hn
  exact h _ _ _ _ hi (IStepU.putObj _ (by intro _ _ h; cases h) (by omega) hn)
 refine ⟨w.heap.size + 1, [{ target := .collected w.heap.size, args := #[] }], W1, { target := .fn (.func gf) lb, args := #[.func (.yield (w.heap.size + 1)) #[] #[]] }, W1, gf,
  #[.func (.yield (w.heap.size + 1)) #[] #[]] ++ lb, W1, ?_, ?_, fun _ _ => trivial, ?_, (fun h => by cases h), ?_⟩
 ·rw [← hW1, hrec]; exact run_enterLoop_outer _ _ _ _ _
 ·simp only [resolve, hg]
  simp [go_sem]
 ·simp [invoke, go_sem, eg]
 refine (hit (w.heap.size + 1)
  (fun pre pj W => ∃ p, (pj = fun k => p k ∨ k = w.heap.size + 1) ∧ (¬ p (w.heap.size + 1) ∧ ¬ p w.heap.size) ∧ I pre p W ∧ W.heap[w.heap.size + 1]? = some (.loop (rec .ready none)) ∧ W.heap[w.heap.size]? = some (.deferred (some [])))
  (fun pre pj W => ∃ p, (pj = fun k => p k ∨ k = w.heap.size + 1) ∧ (¬ p (w.heap.size + 1) ∧ ¬ p w.heap.size) ∧ ∃ c, Ix c pre p W ∧ W.heap[w.heap.size + 1]? = some (.loop (rec .done (some c))) ∧ W.heap[w.heap.size]? = some (.deferred (some [])))
  (fun k => p0 k ∨ k = w.heap.size + 1) W1 ?_ ?_ ?_ ?_ ⟨p0, rfl, ⟨fun h => by have := hp0 _ h; omega, fun h => by have := hp0 _ h; omega⟩, hI1, hL1, hD1⟩ ?_ hB1 ?_).mono ?_
 ·rintro pre pj W W' ⟨p, rfl, hn, hi, hl, hd⟩ hk
  exact ⟨p, rfl, hn, hI _ _ _ _ hi (hk.mono (by omega) (fun k h2 => .inl h2)), (hk.keep.block _ (Array.getElem?_eq_some_iff.1 hl).1 (by rintro ⟨h, _⟩; omega)).trans hl, (hk.keep.block _ (Array.getElem?_eq_some_iff.1 hd).1 (by rintro ⟨h, _⟩; omega)).trans hd⟩
 ·rintro pre pj W W' ⟨p, rfl, hn, c, hi, hl, hd⟩ hk
  exact ⟨p, rfl, hn, c, hIx c _ _ _ _ hi (hk.mono (by omega) (fun k h2 => .inl h2)), (hk.keep.block _ (Array.getElem?_eq_some_iff.1 hl).1 (by rintro ⟨h, _⟩; omega)).trans hl, (hk.keep.block _ (Array.getElem?_eq_some_iff.1 hd).1 (by rintro ⟨h, _⟩; omega)).trans hd⟩
 ·rintro pre pj W ⟨p, rfl, _, hi, hl, _⟩ k (hk | rfl)
  ·exact hIb _ _ _ hi k hk
  ·exact (Array.getElem?_eq_some_iff.1 hl).1
 ·rintro pre x pj W ⟨p, rfl, ⟨hnl, hnd⟩, hi, hl, hd⟩ hen
  have hlt : w.heap.size + 1 < W.heap.size := (Array.getElem?_eq_some_iff.1 hl).1
  have hy := run_yield (P := P) (args := encs x) hl (by rw [hrec]; exact hps x)
  rw [hrec] at hy
  refine ⟨fn, _, assign, body, hy, roundIn_of_wpIn trivial (wpIn_mono (hassign _ pre x p W hi hen) ?_)⟩
  clear hy
  intro e a₁ Wa hq
  cases e with
  | normal =>
   obtain ⟨p1, hr1, hax⟩ := hq
   have hl1 := (hr1.same hlt hnl).trans hl
   have hd1 := (hr1.same (by omega) hnd).trans hd
   have hnl1 := hr1.not hlt hnl
   have hnd1 := hr1.not (by omega) hnd
   have hlt1 : w.heap.size + 1 < Wa.heap.size := (Array.getElem?_eq_some_iff.1 hl1).1
   refine ⟨_, run_beginRound hl1 (by rw [hrec]), ?_⟩
   have hl2 : (Wa.putObj (w.heap.size + 1) (.loop { rec .ready none with state := .busy })).heap[w.heap.size + 1]? = some (.loop { rec .ready none with state := .busy }) := World.putObj_heap_same hlt1
   have hd2 : (Wa.putObj (w.heap.size + 1) (.loop { rec .ready none with state := .busy })).heap[w.heap.size]? = some (.deferred (some [])) := (World.putObj_heap_other (by omega)).trans hd1
   have hkl : Keep (fun k => p k ∨ k = w.heap.size + 1) W (Wa.putObj (w.heap.size + 1) (.loop { rec .ready none with state := .busy })) :=
    (hr1.keep.mono (fun k h _ => .inl h)).grown (grownBy_putObj' Wa (w.heap.size + 1) _) (fun g e _ => by cases e; exact .inr rfl)
   have hz2 : (Wa.putObj (w.heap.size + 1) (.loop { rec .ready none with state := .busy })).heap.size = Wa.heap.size := by simp [World.putObj]
   refine wpIn_mono (hbody _ pre x p1 a₁ _ hen (hput (hAx pre x a₁) (s := ()) _ hax hnl1)) ?_
   have fin : ∀ (jump : Option Code) (p2 : BSet) (W3 : World), Rnd p1 p2 (Wa.putObj (w.heap.size + 1) (.loop { rec .ready none with state := .busy })) W3 →
     (Instr.endRound (w.heap.size + 1) jump).run P W3 = .ok (.bool jump.isNone) (W3.putObj (w.heap.size + 1) (.loop (rec (if jump.isNone then .ready else .done) jump))) ∧
     (W3.putObj (w.heap.size + 1) (.loop (rec (if jump.isNone then .ready else .done) jump))).heap[w.heap.size + 1]? = some (.loop (rec (if jump.isNone then .ready else .done) jump)) ∧
     (W3.putObj (w.heap.size + 1) (.loop (rec (if jump.isNone then .ready else .done) jump))).heap[w.heap.size]? = some (.deferred (some [])) ∧
     (¬ p2 (w.heap.size + 1) ∧ ¬ p2 w.heap.size) ∧
     Rnd (fun k => p k ∨ k = w.heap.size + 1) (fun k => p2 k ∨ k = w.heap.size + 1) W (W3.putObj (w.heap.size + 1) (.loop (rec (if jump.isNone then .ready else .done) jump))) := fun jump p2 W3 hr2 => by
    have hl3 := (hr2.same (by rw [hz2]; exact hlt1) hnl1).trans hl2
    have hd3 := (hr2.same (by rw [hz2]; omega) hnd1).trans hd2
    have := run_endRound (P := P) jump hl3
    rw [hrec] at this ⊢
    refine ⟨this, World.putObj_heap_same (Array.getElem?_eq_some_iff.1 hl3).1, (World.putObj_heap_other (by omega)).trans hd3, ⟨hr2.not (by rw [hz2]; exact hlt1) hnl1, hr2.not (by rw [hz2]; omega) hnd1⟩, ⟨fun k hk h => ?_, ?_⟩⟩
    ·rcases h with h | h
     ·exact .inl (hr1.own k hk (hr2.own k (by rw [hz2]; exact Nat.lt_of_lt_of_le hk hr1.keep.size) h))
     ·exact .inr h
    ·rw [hrec] at hkl hr2
     exact (hkl.trans hr2.keep (fun k h hk => .inl (hr1.own k hk h))).grown (grownBy_putObj' W3 (w.heap.size + 1) _) (fun g e _ => by cases e; exact .inr rfl)
   rintro e a3 W3 hp
   cases e with
   | normal =>
    obtain ⟨p2, hr2, hi3⟩ := hp
    obtain ⟨hr, hl4, hd4, hn4, hR⟩ := fin none p2 W3 hr2
    exact ⟨_, _, hr, ⟨_, hR, .inl ⟨rfl, p2, rfl, hn4, hput hI _ hi3 hn4.1, hl4, hd4⟩⟩⟩
   | ret =>
    obtain ⟨p2, hr2, hi3⟩ := hp
    obtain ⟨hr, hl4, hd4, hn4, hR⟩ := fin (some .ret) p2 W3 hr2
    exact ⟨_, _, hr, ⟨_, hR, .inr ⟨rfl, p2, rfl, hn4, .ret, hput (hIx _) _ hi3 hn4.1, hl4, hd4⟩⟩⟩
   | exit id =>
    obtain ⟨p2, hr2, hi3⟩ := hp
    obtain ⟨hr, hl4, hd4, hn4, hR⟩ := fin (some (.exit id)) p2 W3 hr2
    exact ⟨_, _, hr, ⟨_, hR, .inr ⟨rfl, p2, rfl, hn4, .exit id, hput (hIx _) _ hi3 hn4.1, hl4, hd4⟩⟩⟩
   | goto t =>
    obtain ⟨p2, hr2, hi3⟩ := hp
    obtain ⟨hr, hl4, hd4, hn4, hR⟩ := fin (some (.goto t)) p2 W3 hr2
    exact ⟨_, _, hr, ⟨_, hR, .inr ⟨rfl, p2, rfl, hn4, .goto t, hput (hIx _) _ hi3 hn4.1, hl4, hd4⟩⟩⟩
   | panic ch => exact hp.elim
   | outgrown => exact hp.elim
  | exit id => exact hq
  | goto t => exact hq
  | ret => exact hq
  | panic c => exact hq
  | outgrown => exact hq
 ·rintro k (h | h)
  ·have := hp0 k h; omega
  ·omega
 ·intro O X1 X2 hO h1 h2
  refine hHk O X1 X2 (fun k hk => ?_) h1 h2
  rcases hO k hk with (h | h) | h
  ·exact .inl h
  ·exact .inr (by omega)
  ·exact .inr (by omega)
 ·rintro e W2 ⟨⟨v, rfl⟩, pj, (⟨xs, hS, p, rfl, hn, hi, hl, hd⟩ | ⟨pre, hSp, p, rfl, hn, c, hi, hl, hd⟩)⟩
  ·exact ⟨none, _, by have := run_endLoop (P := P) hl (by rw [hrec]; simp); rw [hrec] at this; exact this, hdone _ xs p _ (Nat.le_refl _) hn.2 hS (hput hI _ hi hn.1) ((World.putObj_heap_other (by omega)).trans hd)⟩
  ·exact ⟨some c, _, by have := run_endLoop (P := P) hl (by rw [hrec]; simp); rw [hrec] at this; exact this, hstop _ c pre p _ (Nat.le_refl _) hn.2 hSp (hput (hIx c) _ hi hn.1) ((World.putObj_heap_other (by omega)).trans hd)⟩
end
end Go.Proofs.YtgnooffedmeenaaGreatDoor

namespace Go.Proofs.YtgnooffedmeenaaGreatDoor
open Go.RowKit Go.Maps

def pairV (x y : Int) : Value := .agg #[.int .i64 x, .int .i64 y]
structure PairKey (P : Program) (k : TypeId) : Prop where
 keyed : Keyed P k
 has : ∀ x y : Int, (Lit.int .i64 x).wf = true → (Lit.int .i64 y).wf = true → ∃ l, keyOf P k (pairV x y) = some l
def PMap (P : Program) (k e : TypeId) (b n : Nat) (f : Int → Int → Option Nat) (w : World) : Prop :=
 ∃ D : DataW Unit, w.ownsMap P k (plainElem P e) b n D ∧ IsMap D ∧ ∀ (x y : Int) (l : Lit), keyOf P k (pairV x y) = some l → has D l = (f x y).isSome ∧ D.atKey l (.lit (.int .i64 0)) = .lit (.int .i64 (((f x y).getD 0 : Nat) : Int))
section
variable {P : Program} {k e t : TypeId} {b n : Nat} {f : Int → Int → Option Nat} {w w' : World}
theorem PMap.new (P : Program) (k e : TypeId) (w : World) : PMap P k e w.heap.size 0 (fun _ _ => none) (w.alloc (.map #[] 0)) :=
 ⟨.map [], World.ownsMap_made w P k _, isMap_empty, fun _ _ _ _ => ⟨rfl, rfl⟩⟩
theorem PMap.lt (h : PMap P k e b n f w) : b < w.heap.size := by obtain ⟨_, h, _⟩ := h; exact h.lt
theorem PMap.obj (h : PMap P k e b n f w) : ∃ es c, w.heap[b]? = some (.map es c) := by
 obtain ⟨_, ⟨es, c, hb, _⟩, _⟩ := h
 exact ⟨es, c, hb⟩
theorem PMap.keep {O : Nat → Prop} (h : PMap P k e b n f w) (hk : Keep O w w') (hb : ¬ O b) : PMap P k e b n f w' := by
 obtain ⟨D, ⟨es, c, h0, hr⟩, h2, h3⟩ := h
 exact ⟨D, ⟨es, c, (hk.block b (Array.getElem?_eq_some_iff.1 h0).1 hb).trans h0, hr⟩, h2, h3⟩
theorem PMap.same (h : PMap P k e b n f w) (hb : w'.heap[b]? = w.heap[b]?) : PMap P k e b n f w' := by
 obtain ⟨D, ⟨es, c, h0, hr⟩, h2, h3⟩ := h
 exact ⟨D, ⟨es, c, hb.trans h0, hr⟩, h2, h3⟩
theorem PMap.mono {m : Nat} (h : PMap P k e b n f w) (hm : n ≤ m) : PMap P k e b m f w := by
 obtain ⟨D, h1, h2, h3⟩ := h
 exact ⟨D, h1.mono hm, h2, h3⟩
theorem PMap.congr {g : Int → Int → Option Nat} (h : PMap P k e b n f w) (hg : ∀ x y, g x y = f x y) : PMap P k e b n g w := by
 obtain ⟨D, h1, h2, h3⟩ := h
 exact ⟨D, h1, h2, fun x y l hl => by rw [hg]; exact h3 x y l hl⟩
def setP (f : Int → Int → Option Nat) (x y : Int) (v : Nat) : Int → Int → Option Nat := fun a b => if a = x ∧ b = y then some v else f a b
theorem pairV_inj {a b x y : Int} (h : pairV a b = pairV x y) : a = x ∧ b = y := by
 unfold pairV at h
 injection h with h
 have h1 := congrArg (·[0]?) h
 have h2 := congrArg (·[1]?) h
 simp at h1 h2
 exact ⟨h1, h2⟩
theorem PMap.update (h : PMap P k e b n f w) (K : PairKey P k) (ht : P.underlying t = some (.map k e)) (he : P.underlying e = some (.int .i64)) (hn : n < maxLen) (x y : Int) (v : Nat) (hx : (Lit.int .i64 x).wf = true) (hy : (Lit.int .i64 y).wf = true) (hv : (Lit.int .i64 (v : Int)).wf = true) :
  ∃ w', (Instr.mapUpdate t (.map (some b)) (pairV x y) (.int .i64 (v : Int))).run P w = .ok () w' ∧ PMap P k e b (n + 1) (setP f x y v) w' ∧ w.grownBy w' (some b) := by
 obtain ⟨D, h1, h2, h3⟩ := h
 obtain ⟨kl, hkl⟩ := K.has x y hx hy
 obtain ⟨w', hrun, r1, r2⟩ := h1.update K.keyed ht hn hkl (plainElem_int he hv)
 refine ⟨w', hrun, ⟨_, r1, h2.put _ _, fun a c l hl => ?_⟩, r2⟩
 unfold setP
 by_cases hc : a = x ∧ c = y
 ·obtain ⟨rfl, rfl⟩ := hc
  rw [if_pos ⟨rfl, rfl⟩]
  rw [hkl] at hl
  injection hl with hl
  subst hl
  exact ⟨has_put_same h2 (K.keyed.key hkl) _, atKey_put_same h2 (K.keyed.key hkl) _ _⟩
 ·rw [if_neg hc]
  have hne : l ≠ kl := by
   rintro rfl
   exact hc (pairV_inj (K.keyed.inj hl hkl))
  rw [has_put_other hne, atKey_put_other hne]
  exact h3 a c l hl
theorem PMap.look (h : PMap P k e b n f w) (K : PairKey P k) (ht : P.underlying t = some (.map k e)) (he : P.underlying e = some (.int .i64)) (hz : (zeroValue e).run P w = .ok (.int .i64 0) w) (x y : Int) (hx : (Lit.int .i64 x).wf = true) (hy : (Lit.int .i64 y).wf = true) :
  (Instr.lookup t (.map (some b)) (pairV x y) false).run P w = .ok (.int .i64 (((f x y).getD 0 : Nat) : Int)) w := by
 obtain ⟨D, h1, h2, h3⟩ := h
 obtain ⟨kl, hkl⟩ := K.has x y hx hy
 obtain ⟨c, hrun, hat, _⟩ := h1.lookup_int K.keyed ht he hz hkl
 rw [(h3 x y kl hkl).2] at hat
 injection hat with hat
 injection hat with _ hat
 rw [hat]
 exact hrun
theorem PMap.look_ok (h : PMap P k e b n f w) (K : PairKey P k) (ht : P.underlying t = some (.map k e)) (he : P.underlying e = some (.int .i64)) (hz : (zeroValue e).run P w = .ok (.int .i64 0) w) (x y : Int) (hx : (Lit.int .i64 x).wf = true) (hy : (Lit.int .i64 y).wf = true) :
  (Instr.lookup t (.map (some b)) (pairV x y) true).run P w = .ok (.tuple #[.int .i64 (((f x y).getD 0 : Nat) : Int), .bool (f x y).isSome]) w := by
 obtain ⟨D, h1, h2, h3⟩ := h
 obtain ⟨kl, hkl⟩ := K.has x y hx hy
 obtain ⟨v, ps, hrun, hv⟩ := h1.look_ok K.keyed ht hz (plainElem_int he (by decide)) hkl
 obtain ⟨c, rfl, hc, _⟩ := plainElem_int_inv he hv
 rw [(h3 x y kl hkl).2] at hc
 rw [(h3 x y kl hkl).1] at hrun
 injection hc with hc _
 injection hc with hc
 injection hc with _ hc
 rw [hc]
 exact hrun
end
theorem pair_nil {P : Program} {k e t : TypeId} {w : World} (K : PairKey P k) (ht : P.underlying t = some (.map k e)) (hz : (zeroValue e).run P w = .ok (.int .i64 0) w) (x y : Int) (hx : (Lit.int .i64 x).wf = true) (hy : (Lit.int .i64 y).wf = true) :
  (Instr.lookup t (.map none) (pairV x y) true).run P w = .ok (.tuple #[.int .i64 0, .bool false]) w := by
 obtain ⟨kl, hkl⟩ := K.has x y hx hy
 exact look_nil true K.keyed ht hz hkl
theorem pairKey_of {P : Program} {k : TypeId} (K : Keyed P k) (h : ∀ x y : Int, (Lit.int .i64 x).wf = true → (Lit.int .i64 y).wf = true → ∃ l, keyOf P k (pairV x y) = some l) : PairKey P k := ⟨K, h⟩
end Go.Proofs.YtgnooffedmeenaaGreatDoor

namespace Go.Proofs.YtgnooffedmeenaaGreatDoor.M
open Go.RowKit W

abbrev sv (l : List Bs) : List Value := l.map fun s => .string (str s)
theorem str_of {S : ByteArray} {s : Bs} (h : S.data.toList = s) : S = str s := by
 subst h
 apply ByteArray.ext
 rfl

end Go.Proofs.YtgnooffedmeenaaGreatDoor.M

namespace Go.Proofs.YtgnooffedmeenaaGreatDoor.M
open Go.RowKit Go.Lib

/-! ### Up to the first one -/

/-! ### Fields -/

end Go.Proofs.YtgnooffedmeenaaGreatDoor.M

namespace Go.Proofs.YtgnooffedmeenaaGreatDoor.M
open Go.RowKit Go.Shelf Go.Lib W

end Go.Proofs.YtgnooffedmeenaaGreatDoor.M

namespace Go.Proofs.YtgnooffedmeenaaGreatDoor.M
open Go.RowKit W

end Go.Proofs.YtgnooffedmeenaaGreatDoor.M

namespace Go.Proofs.YtgnooffedmeenaaGreatDoor.M
open Go.RowKit Go.Shelf Go.Lib W

end Go.Proofs.YtgnooffedmeenaaGreatDoor.M

namespace Go.Proofs.YtgnooffedmeenaaGreatDoor.M
open Go.RowKit W

theorem bldAt_keep {T e : TypeId} {B b : Nat} {p : Value} {bs : List Value} {w w' : World} (h : Lib.BuilderAtF T e B b p bs w) (hk : Keep NoB w w') : Lib.BuilderAtF T e B b p bs w' := by
 obtain ⟨h1, v, h2, ⟨h3, h4⟩, h5⟩ := h
 have hb := hk.block b (Array.getElem?_eq_some_iff.1 h2).1 id
 refine ⟨h1, v, hb.trans h2, ⟨h3, ?_⟩, h5⟩
 rcases h4 with h4 | ⟨g, cap, cur, fz, e1, e2, e3, e4⟩
 ·exact .inl h4
 ·exact .inr ⟨g, cap, cur, fz, e1, e2, (hk.block g (Array.getElem?_eq_some_iff.1 e3).1 id).trans e3, e4⟩
theorem bld_keep {T e : TypeId} {B b : Nat} {bs : List Value} {w w' : World} (h : Lib.IsBuilderF T e B b bs w) (hk : Keep NoB w w') : Lib.IsBuilderF T e B b bs w' :=
 h.elim (fun h => .inl (bldAt_keep h hk)) (fun h => .inr (bldAt_keep h hk))
theorem str_cells (l : Bs) : Lib.strCells (str l) = Lib.byteCells l := by rw [Lib.strCells_eq]
abbrev Bld (b : Nat) (s : Bs) (w : World) : Prop := Lib.IsBuilderF 122 5 b b (Lib.byteCells s) w
theorem bld_new (w : World) : Bld w.heap.size [] (w.alloc (.cells #[.pointer none, .slice none 0 0] 122)) := Lib.IsBuilderF.of (Lib.fresh_isBuilder 122 5 w)
theorem write_any (b : Nat) (s t : Bs) (S : ByteArray) (w : World) (h : Bld b s w) (hS : S = str t) (hl : s.length + t.length ≤ 140737488355328) (hb : b ≤ w.heap.size) :
  Calls Tryz.prog 66 #[.pointer (some ⟨b, 0, none⟩), .string S] w fun e w' => (∃ u v, e = .returned (.tuple #[u, v])) ∧ Bld b (s ++ t) w' ∧ Below b w w' ∧ Lib.OthersKept 5 (some b) w w' := by
 subst hS
 have hsz : (str t).size = t.length := size_of (by simp)
 refine (Tryz.Builder_WriteString_k b b (Lib.byteCells s) (str t) w h (by rw [Lib.byteCells_length, hsz]; exact hl) hb).mono ?_
 rintro e w' ⟨rfl, h1, h2, h3⟩
 rw [str_cells, ← Lib.byteCells_append] at h1
 exact ⟨⟨_, _, rfl⟩, .inr h1, h2, h3⟩
theorem string_any (b : Nat) (s : Bs) (w : World) (h : Bld b s w) (hb : b ≤ w.heap.size) :
  Calls Tryz.prog 69 #[.pointer (some ⟨b, 0, none⟩)] w fun e w' => e = .returned (.string (str s)) ∧ Bld b s w' ∧ Below b w w' ∧ Lib.OthersKept 5 (some b) w w' :=
 (Tryz.Builder_String_any_k b b s w h hb).mono (by rintro e w' ⟨rfl, h1, h2, h3⟩; exact ⟨rfl, h1, h2, h3⟩)
end Go.Proofs.YtgnooffedmeenaaGreatDoor.M

namespace Go.Proofs.YtgnooffedmeenaaGreatDoor.M
open Go.RowKit Go.Shelf W
attribute [local go_sem] Oper.semAt_some

theorem npBelow {w W W' : World} {b : Nat} (hk : Keep NoB w W) (hb : Below b W W') (h : w.heap.size ≤ b) : Keep NoB w W' :=
 hk.trans (O' := fun k => b ≤ k) ⟨hb.os, hb.tape, hb.output, hb.size, fun k hk hn => hb.block k (by omega)⟩ (fun k hk hl => by omega)
theorem npPut {w W : World} {D : Nat} {o : Obj} (h : Keep NoB w W) (hD : w.heap.size ≤ D) : Keep NoB w (W.putObj D o) := h.grown (grownBy_putObj' W D o) (fun g e hl => by cases e; omega)
def bldP (b : Nat) (W : World) : BSet := fun k => k = b ∨ (b ≤ k ∧ ∃ c fz, W.heap[k]? = some (.cells c 5 fz))
theorem bldP_rnd {b : Nat} {W W' : World} (h1 : Below b W W') (h2 : Lib.OthersKept 5 (some b) W W') : Rnd (bldP b W) (bldP b W') W W' := by
 have key : ∀ k, k < W.heap.size → ¬ bldP b W k → W'.heap[k]? = W.heap[k]? := by
  intro k hk hn
  by_cases hb : k < b
  ·exact h1.block k hb
  ·have hne : k ≠ b := fun e => hn (.inl e)
   obtain ⟨o, ho⟩ : ∃ o, W.heap[k]? = some o := ⟨_, Array.getElem?_eq_getElem hk⟩
   rw [ho]
   exact h2 k o ho (by simpa using hne) (fun c fz e => hn (.inr ⟨by omega, c, fz, by rw [ho, e]⟩))
 refine ⟨fun k hk hp => ?_, ⟨h1.os, h1.tape, h1.output, h1.size, key⟩⟩
 apply Classical.byContradiction
 intro hn
 rcases hp with rfl | ⟨h3, c, fz, h4⟩
 ·exact hn (.inl rfl)
 ·rw [key k hk hn] at h4
  exact hn (.inr ⟨h3, c, fz, h4⟩)
theorem bldP_keep {b : Nat} {W W' : World} (h : Keep NoB W W') : Rnd (bldP b W) (bldP b W') W W' := by
 refine ⟨fun k hk hp => ?_, h.noB⟩
 rcases hp with rfl | ⟨h3, c, fz, h4⟩
 ·exact .inl rfl
 ·rw [h.block k hk id] at h4
  exact .inr ⟨h3, c, fz, h4⟩
theorem bld_lt {b : Nat} {s : Bs} {W : World} (h : Bld b s W) : b < W.heap.size := by
 rcases h with ⟨_, v, h2, _⟩ | ⟨_, v, h2, _⟩ <;> exact (Array.getElem?_eq_some_iff.1 h2).1

end Go.Proofs.YtgnooffedmeenaaGreatDoor.M

namespace Go.Proofs.YtgnooffedmeenaaGreatDoor.F
open Go.RowKit W

structure FV where
 S : ByteArray
 A : Option Addr
 na : Nat
 ca : Nat
 B : Option Addr
 nb : Nat
 cb : Nat
 L : Option Addr
 nl : Nat
 cl : Nat
 D : Option Addr
 nd : Nat
 cd : Nat
def FV.cells (v : FV) : Array Value := #[.string v.S, .slice v.A v.na v.ca, .slice v.B v.nb v.cb, .slice v.L v.nl v.cl, .slice v.D v.nd v.cd]
def FV.val (v : FV) : Value := .agg v.cells
structure FnAt (w : World) (v : FV) (f : Fu) : Prop where
 nm : v.S.data.toList = f.nm
 ra : Rd w v.A (ivs f.ar)
 rb : Rd w v.B (ivs f.rs)
 rl : Rd w v.L (ivs f.lc)
 rd : Rd w v.D (C.iis f.bd)
 la : f.ar.length = v.na
 lb : f.rs.length = v.nb
 ll : f.lc.length = v.nl
 ld : f.bd.length = v.nd
 hI : C.AllI f.bd
structure SmF (v : FV) : Prop where
 sz : v.S.size ≤ 100
 na : v.na ≤ 100
 nb : v.nb ≤ 100
 nl : v.nl ≤ 100
 nd : v.nd ≤ 600
theorem FnAt.keep {O : Nat → Prop} {w w' : World} {v : FV} {f : Fu} (h : FnAt w v f) (hk : Keep O w w') (hO : ∀ k, k < w.heap.size → ¬ O k) : FnAt w' v f :=
 have h2 : Keep NoB w w' := hk.mono (fun k ho hl => absurd ho (hO k hl))
 ⟨h.nm, h.ra.keepN h2, h.rb.keepN h2, h.rl.keepN h2, h.rd.keepN h2, h.la, h.lb, h.ll, h.ld, h.hI⟩
theorem FnAt.keepN {w w' : World} {v : FV} {f : Fu} (h : FnAt w v f) (hk : Keep NoB w w') : FnAt w' v f := h.keep hk (fun _ _ => id)
theorem sz_len {S : ByteArray} {s : List UInt8} (h : S.data.toList = s) : S.size = s.length := by rw [← h]; rfl
theorem blk5 {w : World} {g : Nat} {t : TypeId} {v : FV} (h : Blk w g t v.cells) : w.cell? ⟨g, 0, none⟩ = some (.string v.S) ∧ w.cell? ⟨g, 1, none⟩ = some (.slice v.A v.na v.ca) ∧ w.cell? ⟨g, 2, none⟩ = some (.slice v.B v.nb v.cb) ∧
  w.cell? ⟨g, 3, none⟩ = some (.slice v.L v.nl v.cl) ∧ w.cell? ⟨g, 4, none⟩ = some (.slice v.D v.nd v.cd) := ⟨h.cell 0, h.cell 1, h.cell 2, h.cell 3, h.cell 4⟩

end Go.Proofs.YtgnooffedmeenaaGreatDoor.F

namespace Go.Proofs.YtgnooffedmeenaaGreatDoor.F
open Go.RowKit W

theorem own_len {w : World} {O : Nat → Prop} {v : Value} {l : List Int} {n : Nat} (h : Own w 3 1 O v n (ivs l)) : l.length = n := by have := h.1.1; simpa using this

end Go.Proofs.YtgnooffedmeenaaGreatDoor.F

namespace Go.Proofs.YtgnooffedmeenaaGreatDoor.F
open Go.RowKit W

theorem letB_yes {c : UInt8} (h : (97 ≤ c.toNat ∧ c.toNat ≤ 122) ∨ (65 ≤ c.toNat ∧ c.toNat ≤ 90)) : letB c = true := (letB_iff c).2 h
theorem letB_no {c : UInt8} (h : ¬ ((97 ≤ c.toNat ∧ c.toNat ≤ 122) ∨ (65 ≤ c.toNat ∧ c.toNat ≤ 90))) : letB c = false := by
 cases hb : letB c
 ·rfl
 ·exact absurd ((letB_iff c).1 hb) h
theorem digB_yes {c : UInt8} (h : 48 ≤ c.toNat ∧ c.toNat ≤ 57) : digB c = true := (digB_iff c).2 h
theorem digB_no {c : UInt8} (h : ¬ (48 ≤ c.toNat ∧ c.toNat ≤ 57)) : digB c = false := by
 cases hb : digB c
 ·rfl
 ·exact absurd ((digB_iff c).1 hb) h

set_option maxRecDepth 100000 in
set_option maxHeartbeats 2000000 in
theorem letter_any (c : UInt8) (w : World) : Calls Tryz.prog 157 #[.int .u8 (c.toNat : Int)] w fun e w' => e = .returned (.bool (letB c)) ∧ w = w' := by
 have hc : c.toNat < 256 := UInt8.toNat_lt _
 have HY : Hid ((97 ≤ c.toNat ∧ c.toNat ≤ 122) ∨ (65 ≤ c.toNat ∧ c.toNat ≤ 90) → letB c = true) := letB_yes
 have HN : Hid (¬ ((97 ≤ c.toNat ∧ c.toNat ≤ 122) ∨ (65 ≤ c.toNat ∧ c.toNat ≤ 90)) → letB c = false) := letB_no
 generalize letB c = R at HY HN
 generalize c.toNat = n at hc HY HN
 by_cases h0 : n < 65
 ·skip
  obtain rfl : false = R := (HN.out (by omega)).symm
  clear HY HN
  go_enter Tryz.func157, Tryz.ntmps157
  go_wp2
  go_ret
  exact ⟨ret_bool (by first | rfl | (simp; done) | (simp; omega)), rfl⟩
 by_cases h1 : n ≤ 90
 ·skip
  obtain rfl : true = R := (HY.out (by omega)).symm
  clear HY HN
  go_enter Tryz.func157, Tryz.ntmps157
  go_wp2
  go_ret
  exact ⟨ret_bool (by first | rfl | (simp; done) | (simp; omega)), rfl⟩
 by_cases h2 : n < 97
 ·skip
  obtain rfl : false = R := (HN.out (by omega)).symm
  clear HY HN
  go_enter Tryz.func157, Tryz.ntmps157
  go_wp2
  go_ret
  exact ⟨ret_bool (by first | rfl | (simp; done) | (simp; omega)), rfl⟩
 by_cases h3 : n ≤ 122
 ·skip
  obtain rfl : true = R := (HY.out (by omega)).symm
  clear HY HN
  go_enter Tryz.func157, Tryz.ntmps157
  go_wp2
  go_ret
  exact ⟨ret_bool (by first | rfl | (simp; done) | (simp; omega)), rfl⟩
 obtain rfl : false = R := (HN.out (by omega)).symm
 clear HY HN
 go_enter Tryz.func157, Tryz.ntmps157
 go_wp2
 go_ret
 exact ⟨ret_bool (by first | rfl | (simp; done) | (simp; omega)), rfl⟩

set_option maxRecDepth 100000 in
set_option maxHeartbeats 2000000 in
theorem digit_any (c : UInt8) (w : World) : Calls Tryz.prog 158 #[.int .u8 (c.toNat : Int)] w fun e w' => e = .returned (.bool (digB c)) ∧ w = w' := by
 have hc : c.toNat < 256 := UInt8.toNat_lt _
 have HY : Hid (48 ≤ c.toNat ∧ c.toNat ≤ 57 → digB c = true) := digB_yes
 have HN : Hid (¬ (48 ≤ c.toNat ∧ c.toNat ≤ 57) → digB c = false) := digB_no
 generalize digB c = R at HY HN
 generalize c.toNat = n at hc HY HN
 by_cases h0 : n < 48
 ·skip
  obtain rfl : false = R := (HN.out (by omega)).symm
  clear HY HN
  go_enter Tryz.func158, Tryz.ntmps158
  go_wp2
  go_ret
  exact ⟨ret_bool (by first | rfl | (simp; done) | (simp; omega)), rfl⟩
 by_cases h1 : n ≤ 57
 ·skip
  obtain rfl : true = R := (HY.out (by omega)).symm
  clear HY HN
  go_enter Tryz.func158, Tryz.ntmps158
  go_wp2
  go_ret
  exact ⟨ret_bool (by first | rfl | (simp; done) | (simp; omega)), rfl⟩
 obtain rfl : false = R := (HN.out (by omega)).symm
 clear HY HN
 go_enter Tryz.func158, Tryz.ntmps158
 go_wp2
 go_ret
 exact ⟨ret_bool (by first | rfl | (simp; done) | (simp; omega)), rfl⟩

theorem in_step {l : List UInt8} {k : Nat} (hk : k < l.length) (h : (l.take k).all inB = true) (h2 : inB l[k] = true) : (l.take (k + 1)).all inB = true := by
 rw [List.take_succ_eq_append_getElem hk, List.all_append, h]; simp [h2]
theorem in_no {l : List UInt8} {k : Nat} (hk : k < l.length) (h2 : inB l[k] = false) : l.all inB = false := by
 cases h : l.all inB
 ·rfl
 ·rw [List.all_eq_true.1 h _ (List.getElem_mem hk)] at h2; cases h2
theorem str_at {S : ByteArray} {s : List UInt8} (hs : S.data.toList = s) {k : Nat} (hk : k < S.size) (hk2 : k < s.length) : S[k] = s[k] := by subst hs; rfl

set_option maxRecDepth 100000 in
set_option maxHeartbeats 4000000 in
theorem named_any (S : ByteArray) (s : List UInt8) (w : World) (hs : Hid (S.data.toList = s)) (hm : S.size ≤ 9223372036854775807) (R : Int) (hR : Hid (chkN s = R)) :
  Calls Tryz.prog 100 #[.string S] w fun e w' => e = .returned (.int .i64 R) ∧ w = w' := by
 have HZ : Hid (S.size = s.length) := sz_len hs.out
 have HL := Lib.hid (fun (c : UInt8) (w : World) => letter_any c w)
 have HD := Lib.hid (fun (c : UInt8) (w : World) => digit_any c w)
 by_cases h0 : S.size = 0
 ·obtain rfl : 71 = R := by rw [← hR.out]; exact (chkN_no (by rw [List.length_eq_zero_iff.1 (HZ.out.symm.trans h0)]; rfl)).symm
  clear hR
  go_enter Tryz.func100, Tryz.ntmps100
  go_wp2
  go_ret
  exact ⟨rfl, rfl⟩
 have hq0 : ((S.size : Int) == 0) = false := by rw [beq_eq_false_iff_ne]; omega
 by_cases h1 : 32 < S.size
 ·obtain rfl : 71 = R := by rw [← hR.out]; exact (chkN_no (okN_long (by rw [← HZ.out]; omega))).symm
  clear hR
  go_enter Tryz.func100, Tryz.ntmps100
  go_wp2
  go_ret
  exact ⟨rfl, rfl⟩
 have hp : 0 < S.size := by omega
 have HH : Hid (headB s = letB (S[0]'hp)) := by show _ = _; rw [str_at hs.out hp (by rw [← HZ.out]; omega)]; exact headB_at _
 cases hh : letB (S[0]'hp)
 ·obtain rfl : 71 = R := by rw [← hR.out]; exact (chkN_no (okN_head (HH.out.trans hh))).symm
  have HC := Lib.hid (fun w => HL.out (S[0]'hp) w)
  rw [hh] at HC
  clear hR HH hh
  go_enter Tryz.func100, Tryz.ntmps100
  go_wp2_with (go_at_call 157; refine (HC.out _).mono ?_; rintro e w1 ⟨rfl, rfl⟩)
  go_ret
  exact ⟨rfl, rfl⟩
 have HHT := Lib.hid (HH.out.trans hh)
 have HC := Lib.hid (fun w => HL.out (S[0]'hp) w)
 rw [hh] at HC
 clear HH hh
 go_enter Tryz.func100, Tryz.ntmps100
 go_wp2_with (go_at_call 157; refine (HC.out _).mono ?_; rintro e w1 ⟨rfl, rfl⟩)
 clear HC
 go_loop [20] (fun i => ∃ k : Nat, k ≤ S.size ∧ i = .int .i64 k ∧ Hid ((s.take k).all inB = true)) (fun i => S.size - (intOf i).toNat)
 case atStart => exact ⟨0, Nat.zero_le _, rfl, rfl⟩
 case round =>
  obtain ⟨k, hk, rfl, ht⟩ := hrel
  by_cases hlt : k < S.size
  ·have hks : k < s.length := by rw [← HZ.out]; exact hlt
   have HE := Lib.hid (str_at hs.out hlt hks)
   have HA := Lib.hid (fun w => HL.out (S[k]'hlt) w)
   have HB := Lib.hid (fun w => HD.out (S[k]'hlt) w)
   have HI : Hid (inB s[k] = (letB (S[k]'hlt) || digB (S[k]'hlt))) := by show _ = _; rw [HE.out]; rfl
   have HT := Lib.hid (fun h => in_step hks ht.out h)
   have HN := Lib.hid (fun h => in_no hks h)
   cases hl : letB (S[k]'hlt)
   ·rw [hl] at HA HI
    cases hd : digB (S[k]'hlt)
    ·rw [hd] at HB HI
     obtain rfl : 71 = R := by rw [← hR.out]; exact (chkN_no (okN_in (HN.out HI.out))).symm
     clear hR HT HN HI HE hl hd HHT ht
     go_wp2_with (first | (go_at_call 157; refine (HA.out _).mono ?_; rintro e w2 ⟨rfl, rfl⟩) | (go_at_call 158; refine (HB.out _).mono ?_; rintro e w2 ⟨rfl, rfl⟩))
     go_ret
     exact ⟨rfl, rfl⟩
    ·rw [hd] at HB HI
     have HV := Lib.hid (HT.out HI.out)
     clear HT HN HI HE hl hd
     go_wp2_with (first | (go_at_call 157; refine (HA.out _).mono ?_; rintro e w2 ⟨rfl, rfl⟩) | (go_at_call 158; refine (HB.out _).mono ?_; rintro e w2 ⟨rfl, rfl⟩))
     go_round
     case rel => exact ⟨k + 1, by omega, by go_num, HV⟩
     case measure => simp [intOf]; omega
   ·rw [hl] at HA HI
    have HV := Lib.hid (HT.out (by rw [HI.out]; rfl))
    clear HT HN HI HE hl HB
    go_wp2_with (go_at_call 157; refine (HA.out _).mono ?_; rintro e w2 ⟨rfl, rfl⟩)
    go_round
    case rel => exact ⟨k + 1, by omega, by go_num, HV⟩
    case measure => simp [intOf]; omega
  ·obtain rfl : 0 = R := by
    rw [← hR.out]
    have e1 := ht.out
    rw [List.take_of_length_le (by rw [← HZ.out]; omega)] at e1
    exact (chkN_ok ((okN_iff s).2 ⟨by rw [← HZ.out]; omega, HHT.out, e1⟩)).symm
   clear hR HHT
   go_wp2
   go_ret
   exact ⟨rfl, rfl⟩

end Go.Proofs.YtgnooffedmeenaaGreatDoor.F

namespace Go.Proofs.YtgnooffedmeenaaGreatDoor.F
open Go.RowKit

def askV (g : Nat) (caps : Array Value) : Value := .func (.func g) #[] caps

set_option maxRecDepth 100000 in
set_option maxHeartbeats 2000000 in
theorem every_any (A : Option Addr) (qs : List (Nat × Array Value)) (n c : Nat) (w : World) (hn : Hid (qs.length = n)) (hm : n ≤ 1000) (bs : Nat → Bool) (I : Nat → World → Prop) (J : World → Prop)
  (hcf : Hid (∀ q ∈ qs, ∀ args w, (callFunc q.1 args).run Tryz.prog w = .ok (.enter q.1 args) w))
  (hr : Hid (∀ i W, I i W → Rd W A (qs.map fun q => askV q.1 q.2)))
  (hq : Hid (∀ i (h : i < qs.length) W, I i W → Calls Tryz.prog qs[i].1 qs[i].2 W fun e W' => e = .returned (.bool (bs i)) ∧ (bs i = true → I (i + 1) W') ∧ (bs i = false → J W')))
  (h0 : I 0 w) :
  Calls Tryz.prog 96 #[.slice A n c] w fun e w' => (e = .returned (.bool true) ∧ (∀ i, i < n → bs i = true) ∧ I n w') ∨ (e = .returned (.bool false) ∧ (∃ i, i < n ∧ bs i = false) ∧ J w') := by
 go_enter Tryz.func96, Tryz.ntmps96
 go_wp2
 go_loopw [7] (fun i wr => ∃ k : Nat, k ≤ n ∧ i = .int .i64 k ∧ Hid (∀ j, j < k → bs j = true) ∧ Hid (I k wr)) (fun i _ => n - (intOf i).toNat)
 case atStart => exact ⟨0, Nat.zero_le _, rfl, fun j h => absurd h (by omega), h0⟩
 case round =>
  obtain ⟨k, hk, rfl, ht, hI⟩ := hrel
  clear h0
  by_cases hlt : k < n
  ·have hkq : k < qs.length := by rw [hn.out]; exact hlt
   obtain ⟨g0, off, rfl, hc⟩ := hr.out k _ hI.out (by simp; omega)
   have ck := hc k (askV qs[k].1 qs[k].2) (by simp [hkq])
   have hg := hcf.out qs[k] (List.getElem_mem hkq)
   have HQ := Lib.hid (hq.out k hkq _ hI.out)
   clear hc
   generalize qs[k] = q at ck hg HQ
   obtain ⟨g, caps⟩ := q
   dsimp only [askV] at ck hg HQ
   obtain ⟨b, hb⟩ : ∃ b, bs k = b := ⟨_, rfl⟩
   have HB := Lib.hid hb
   rw [hb] at HQ
   clear hb hI
   go_wp2_with fail
   refine HQ.out.mono ?_
   rintro e w1 ⟨rfl, hy, hno⟩
   have HY := Lib.hid hy
   have HNO := Lib.hid hno
   clear hy hno
   cases b
   ·go_wp2
    go_ret
    exact .inr ⟨rfl, ⟨k, hlt, HB.out⟩, HNO.out trivial⟩
   ·go_wp2
    go_roundw
    case rel => exact ⟨k + 1, by omega, by go_num, fun j hj => (by
     rcases Nat.lt_succ_iff_lt_or_eq.1 hj with h | rfl
     ·exact ht.out j h
     ·exact HB.out), HY.out trivial⟩
    case measure => simp [intOf]; omega
  ·obtain rfl : k = n := by omega
   go_wp2
   go_ret
   exact .inl ⟨rfl, ht.out, hI.out⟩

end Go.Proofs.YtgnooffedmeenaaGreatDoor.F

namespace Go.Proofs.YtgnooffedmeenaaGreatDoor.F
open Go.RowKit W

def AskV (k : Nat) (tc tp : TypeId) (chk : Value) (cells : Array Value) (v : Value) (w : World) : Prop :=
 ∃ c p, v = askV k #[.pointer (some ⟨c, 0, none⟩), .pointer (some ⟨p, 0, none⟩)] ∧ Blk w c tc #[chk] ∧ Blk w p tp cells
theorem AskV.keep {k : Nat} {tc tp : TypeId} {chk : Value} {cells : Array Value} {v : Value} {w w' : World} (h : AskV k tc tp chk cells v w) (hk : Keep NoB w w') : AskV k tc tp chk cells v w' := by
 obtain ⟨c, p, e, h1, h2⟩ := h
 exact ⟨c, p, e, h1.keep hk id, h2.keep hk id⟩
def fnV (k : Nat) : Value := .func (.func k) #[] #[]

theorem sig_size : (Tryz.prog.info? 34).map (·.size) = some 2 := by kernel_rfl
theorem ret_sig1 {fn : Func} {p : Tmp} {tmps : Array Value} {w : World} {g : Nat} {u v : Value} (h : fn.results = #[.cell p 34]) (hp : tmps.getD p undef = .pointer (some ⟨g, 0, none⟩)) (hb : Blk w g 34 #[u, v]) :
  (results fn tmps).run Tryz.prog w = .ok (.agg #[u, v]) w :=
 results_cell_row h tmps w g 34 #[u, v] (0, 0) _ hp hb Tryz.underlying34 rfl sig_size
set_option maxRecDepth 100000 in
set_option maxHeartbeats 2000000 in
theorem taking_any (L : Option Addr) (nl cl : Nat) (w : World) :
  Calls Tryz.prog 103 #[.slice L nl cl] w fun e w' => e = .returned (.agg #[.slice L nl cl, .slice none 0 0]) ∧ Keep NoB w w' := by
 have bz := Blk.new w 34 #[.slice L nl cl, .slice none 0 0]
 have k0 := (Keep.refl NoB w).alloc (.cells #[.slice L nl cl, .slice none 0 0] 34)
 go_enter Tryz.func103, Tryz.ntmps103
 go_wp2
 refine bodyPost_ret (ret_sig1 rfl rfl bz) rfl ?_
 exact ⟨rfl, k0⟩

set_option maxRecDepth 100000 in
set_option maxHeartbeats 2000000 in
theorem passesFun_any (k : Nat) (v : FV) (w : World) :
  Calls Tryz.prog 97 #[fnV k, v.val] w fun e w' => ∃ u, e = .returned u ∧ AskV 155 88 37 (fnV k) (v.cells) u w' ∧ Keep NoB w w' := by
 have hmf : ∀ (fn : Go.Fn) (first cap : Array Value) (w : World), (Instr.makeFunc fn first cap).run Tryz.prog w = .ok (.func fn first cap) w := fun _ _ _ _ => rfl
 have b1 := (Blk.new w 88 #[fnV k]).alloc (.cells (v.cells) 37)
 have b2 := Blk.new (w.alloc (.cells #[fnV k] 88)) 37 (v.cells)
 rw [World.size_alloc] at b2
 have k0 := ((Keep.refl NoB w).alloc (.cells #[fnV k] 88)).alloc (.cells (v.cells) 37)
 unfold fnV at *
 obtain ⟨S, A, na, ca, B, nb, cb, L, nl, cl, D, nd, cd⟩ := v
 dsimp only [FV.val, FV.cells] at *
 have HB1 := Lib.hid b1
 have HB2 := Lib.hid b2
 have HK := Lib.hid k0
 clear b1 b2 k0
 go_enter Tryz.func97, Tryz.ntmps97
 go_wp2
 go_ret
 exact ⟨_, rfl, ⟨w.heap.size, w.heap.size + 1, rfl, HB1.out, HB2.out⟩, HK.out⟩

set_option maxRecDepth 100000 in
set_option maxHeartbeats 2000000 in
theorem askedFun_any (k : Nat) (hcf : ∀ args w, (callFunc k args).run Tryz.prog w = .ok (.enter k args) w) (v : FV) (c p : Nat) (w : World) (hc : Blk w c 88 #[fnV k]) (hp : Blk w p 37 (v.cells)) (R : Int) (b : Bool) (hb : (R == 0) = b)
  (HG : Hid (Calls Tryz.prog k #[v.val] w fun e w' => e = .returned (.int .i64 R) ∧ Keep NoB w w')) :
  Calls Tryz.prog 155 #[.pointer (some ⟨c, 0, none⟩), .pointer (some ⟨p, 0, none⟩)] w fun e w' => e = .returned (.bool b) ∧ Keep NoB w w' := by
 obtain ⟨S, A, na, ca, B, nb, cb, L, nl, cl, D, nd, cd⟩ := v
 have cc := hc.cell 0
 unfold fnV at cc
 obtain ⟨c0, c1, c2, c3, c4⟩ := blk5 hp
 dsimp only [FV.val] at *
 clear hc hp
 go_enter Tryz.func155, Tryz.ntmps155
 go_wp2_with fail
 refine HG.out.mono ?_
 rintro e w1 ⟨rfl, k1⟩
 go_wp2
 go_ret
 exact ⟨rfl, k1⟩

set_option maxRecDepth 100000 in
set_option maxHeartbeats 2000000 in
theorem passesStr_any (k : Nat) (S : ByteArray) (w : World) :
  Calls Tryz.prog 99 #[fnV k, .string S] w fun e w' => ∃ u, e = .returned u ∧ AskV 156 159 9 (fnV k) (#[.string S]) u w' ∧ Keep NoB w w' := by
 have hmf : ∀ (fn : Go.Fn) (first cap : Array Value) (w : World), (Instr.makeFunc fn first cap).run Tryz.prog w = .ok (.func fn first cap) w := fun _ _ _ _ => rfl
 have b1 := (Blk.new w 159 #[fnV k]).alloc (.cells (#[.string S]) 9)
 have b2 := Blk.new (w.alloc (.cells #[fnV k] 159)) 9 (#[.string S])
 rw [World.size_alloc] at b2
 have k0 := ((Keep.refl NoB w).alloc (.cells #[fnV k] 159)).alloc (.cells (#[.string S]) 9)
 unfold fnV at *
 have HB1 := Lib.hid b1
 have HB2 := Lib.hid b2
 have HK := Lib.hid k0
 clear b1 b2 k0
 go_enter Tryz.func99, Tryz.ntmps99
 go_wp2
 go_ret
 exact ⟨_, rfl, ⟨w.heap.size, w.heap.size + 1, rfl, HB1.out, HB2.out⟩, HK.out⟩

set_option maxRecDepth 100000 in
set_option maxHeartbeats 2000000 in
theorem askedStr_any (k : Nat) (hcf : ∀ args w, (callFunc k args).run Tryz.prog w = .ok (.enter k args) w) (S : ByteArray) (c p : Nat) (w : World) (hc : Blk w c 159 #[fnV k]) (hp : Blk w p 9 (#[.string S])) (R : Int) (b : Bool) (hb : (R == 0) = b)
  (HG : Hid (Calls Tryz.prog k #[.string S] w fun e w' => e = .returned (.int .i64 R) ∧ Keep NoB w w')) :
  Calls Tryz.prog 156 #[.pointer (some ⟨c, 0, none⟩), .pointer (some ⟨p, 0, none⟩)] w fun e w' => e = .returned (.bool b) ∧ Keep NoB w w' := by
 have cc := hc.cell 0
 unfold fnV at cc
 have c0 := hp.cell 0
 clear hc hp
 go_enter Tryz.func156, Tryz.ntmps156
 go_wp2_with fail
 refine HG.out.mono ?_
 rintro e w1 ⟨rfl, k1⟩
 go_wp2
 go_ret
 exact ⟨rfl, k1⟩

set_option maxRecDepth 100000 in
set_option maxHeartbeats 2000000 in
theorem passesSig_any (k : Nat) (x y : Value) (w : World) :
  Calls Tryz.prog 101 #[fnV k, .agg #[x, y]] w fun e w' => ∃ u, e = .returned u ∧ AskV 159 161 34 (fnV k) (#[x, y]) u w' ∧ Keep NoB w w' := by
 have hmf : ∀ (fn : Go.Fn) (first cap : Array Value) (w : World), (Instr.makeFunc fn first cap).run Tryz.prog w = .ok (.func fn first cap) w := fun _ _ _ _ => rfl
 have b1 := (Blk.new w 161 #[fnV k]).alloc (.cells (#[x, y]) 34)
 have b2 := Blk.new (w.alloc (.cells #[fnV k] 161)) 34 (#[x, y])
 rw [World.size_alloc] at b2
 have k0 := ((Keep.refl NoB w).alloc (.cells #[fnV k] 161)).alloc (.cells (#[x, y]) 34)
 unfold fnV at *
 have HB1 := Lib.hid b1
 have HB2 := Lib.hid b2
 have HK := Lib.hid k0
 clear b1 b2 k0
 go_enter Tryz.func101, Tryz.ntmps101
 go_wp2
 go_ret
 exact ⟨_, rfl, ⟨w.heap.size, w.heap.size + 1, rfl, HB1.out, HB2.out⟩, HK.out⟩

set_option maxRecDepth 100000 in
set_option maxHeartbeats 2000000 in
theorem askedSig_any (k : Nat) (hcf : ∀ args w, (callFunc k args).run Tryz.prog w = .ok (.enter k args) w) (x y : Value) (c p : Nat) (w : World) (hc : Blk w c 161 #[fnV k]) (hp : Blk w p 34 (#[x, y])) (R : Int) (b : Bool) (hb : (R == 0) = b)
  (HG : Hid (Calls Tryz.prog k #[.agg #[x, y]] w fun e w' => e = .returned (.int .i64 R) ∧ Keep NoB w w')) :
  Calls Tryz.prog 159 #[.pointer (some ⟨c, 0, none⟩), .pointer (some ⟨p, 0, none⟩)] w fun e w' => e = .returned (.bool b) ∧ Keep NoB w w' := by
 have cc := hc.cell 0
 unfold fnV at cc
 obtain ⟨c0, c1⟩ := S.blk2 hp
 clear hc hp
 go_enter Tryz.func159, Tryz.ntmps159
 go_wp2_with fail
 refine HG.out.mono ?_
 rintro e w1 ⟨rfl, k1⟩
 go_wp2
 go_ret
 exact ⟨rfl, k1⟩

set_option maxRecDepth 100000 in
set_option maxHeartbeats 2000000 in
theorem passesBod_any (k : Nat) (D : Option Addr) (nd cd : Nat) (w : World) :
  Calls Tryz.prog 104 #[fnV k, .slice D nd cd] w fun e w' => ∃ u, e = .returned u ∧ AskV 163 164 35 (fnV k) (#[.slice D nd cd]) u w' ∧ Keep NoB w w' := by
 have hmf : ∀ (fn : Go.Fn) (first cap : Array Value) (w : World), (Instr.makeFunc fn first cap).run Tryz.prog w = .ok (.func fn first cap) w := fun _ _ _ _ => rfl
 have b1 := (Blk.new w 164 #[fnV k]).alloc (.cells (#[.slice D nd cd]) 35)
 have b2 := Blk.new (w.alloc (.cells #[fnV k] 164)) 35 (#[.slice D nd cd])
 rw [World.size_alloc] at b2
 have k0 := ((Keep.refl NoB w).alloc (.cells #[fnV k] 164)).alloc (.cells (#[.slice D nd cd]) 35)
 unfold fnV at *
 have HB1 := Lib.hid b1
 have HB2 := Lib.hid b2
 have HK := Lib.hid k0
 clear b1 b2 k0
 go_enter Tryz.func104, Tryz.ntmps104
 go_wp2
 go_ret
 exact ⟨_, rfl, ⟨w.heap.size, w.heap.size + 1, rfl, HB1.out, HB2.out⟩, HK.out⟩

set_option maxRecDepth 100000 in
set_option maxHeartbeats 2000000 in
theorem askedBod_any (k : Nat) (hcf : ∀ args w, (callFunc k args).run Tryz.prog w = .ok (.enter k args) w) (D : Option Addr) (nd cd : Nat) (c p : Nat) (w : World) (hc : Blk w c 164 #[fnV k]) (hp : Blk w p 35 (#[.slice D nd cd])) (R : Int) (b : Bool) (hb : (R == 0) = b)
  (HG : Hid (Calls Tryz.prog k #[.slice D nd cd] w fun e w' => e = .returned (.int .i64 R) ∧ Keep NoB w w')) :
  Calls Tryz.prog 163 #[.pointer (some ⟨c, 0, none⟩), .pointer (some ⟨p, 0, none⟩)] w fun e w' => e = .returned (.bool b) ∧ Keep NoB w w' := by
 have cc := hc.cell 0
 unfold fnV at cc
 have c0 := hp.cell 0
 clear hc hp
 go_enter Tryz.func163, Tryz.ntmps163
 go_wp2_with fail
 refine HG.out.mono ?_
 rintro e w1 ⟨rfl, k1⟩
 go_wp2
 go_ret
 exact ⟨rfl, k1⟩

end Go.Proofs.YtgnooffedmeenaaGreatDoor.F

namespace Go.Proofs.YtgnooffedmeenaaGreatDoor.F
open Go.RowKit W

end Go.Proofs.YtgnooffedmeenaaGreatDoor.F

namespace Go.Proofs.YtgnooffedmeenaaGreatDoor
open Go.RowKit
section
variable {P : Program} {md : Region.Mode} {ops : Array Oper}

def FrameI (a0 : Act) (d0 n : Nat) (a : Act) : Prop := a.defers = a0.defers ∧ a.tmps.size = a0.tmps.size ∧ ∀ s, (s < d0 ∨ d0 + n ≤ s) → a.tmps.getD s undef = a0.tmps.getD s undef

def fillT (t : Array Value) (d : Nat) : List Value → Array Value
 | [] => t
 | v :: vs => fillT (t.setIfInBounds d v) (d + 1) vs
theorem fillT_size : ∀ (vs : List Value) (t : Array Value) (d : Nat), (fillT t d vs).size = t.size
 | [], _, _ => rfl
 | v :: vs, t, d => by rw [fillT, fillT_size vs]; simp
theorem fillT_get : ∀ (vs : List Value) (t : Array Value) (d : Nat), d + vs.length ≤ t.size → ∀ s, (fillT t d vs).getD s undef = if d ≤ s ∧ s < d + vs.length then vs.getD (s - d) undef else t.getD s undef
 | [], t, d, _, s => by rw [fillT, if_neg (by simp)]
 | v :: vs, t, d, h, s => by
  simp only [List.length_cons] at h
  rw [fillT, fillT_get vs _ _ (by simp; omega)]
  by_cases e : s = d
  ·subst e
   rw [if_neg (by omega), if_pos (by constructor <;> simp <;> omega)]
   have hs : s < t.size := by omega
   simp [hs]
  ·have hset : (t.setIfInBounds d v).getD s undef = t.getD s undef := by
    simp only [Array.getD_eq_getD_getElem?, Array.getElem?_setIfInBounds]
    rw [if_neg (fun h => e h.symm)]
   rw [hset]
   by_cases h2 : d + 1 ≤ s ∧ s < d + 1 + vs.length
   ·rw [if_pos h2, if_pos (by simp; omega), show s - d = (s - (d + 1)) + 1 by omega, List.getD_cons_succ]
   ·rw [if_neg h2, if_neg (by simp; omega)]
theorem frame_fill {a0 a : Act} {d0 n : Nat} (h : FrameI a0 d0 n a) (hsz : d0 + n ≤ a0.tmps.size) : a = { tmps := fillT a0.tmps d0 ((List.range n).map fun i => a.tmps.getD (d0 + i) undef), defers := a0.defers } := by
 obtain ⟨h1, h2, h3⟩ := h
 have e : a.tmps = fillT a0.tmps d0 ((List.range n).map fun i => a.tmps.getD (d0 + i) undef) := by
  apply Array.ext
  ·rw [fillT_size, h2]
  ·intro i hi hi'
   have hg := fillT_get ((List.range n).map fun i => a.tmps.getD (d0 + i) undef) a0.tmps d0 (by simpa using hsz) i
   have e1 : (fillT a0.tmps d0 ((List.range n).map fun i => a.tmps.getD (d0 + i) undef)).getD i undef = (fillT a0.tmps d0 ((List.range n).map fun i => a.tmps.getD (d0 + i) undef))[i] := by rw [Array.getD_eq_getD_getElem?, Array.getElem?_eq_getElem hi']; rfl
   have e2 : a.tmps.getD i undef = a.tmps[i] := by rw [Array.getD_eq_getD_getElem?, Array.getElem?_eq_getElem hi]; rfl
   refine e2.symm.trans (Eq.trans ?_ (hg.symm.trans e1))
   simp only [List.length_map, List.length_range]
   by_cases hh : d0 ≤ i ∧ i < d0 + n
   ·rw [if_pos hh]
    have hlt : i - d0 < n := by omega
    rw [List.getD_eq_getElem?_getD, List.getElem?_map, List.getElem?_range hlt]
    simp only [Option.map_some, Option.getD_some]
    rw [show d0 + (i - d0) = i by omega]
   ·rw [if_neg hh]; exact h3 i (by omega)
 obtain ⟨t, d⟩ := a
 simp only at e h1 ⊢
 rw [← e, h1]
end
end Go.Proofs.YtgnooffedmeenaaGreatDoor

namespace Go.Proofs.YtgnooffedmeenaaGreatDoor
open Go.RowKit
section
variable {P : Program} {md : Region.Mode} {ops : Array Oper}

def propsG (ops : Array Oper) (d0 c : Nat) : Bool := (List.range ops.size).all fun i => match ops[i]? with
 | none => false
 | some o => (match o.dst with
  | none => i == c
  | some d => d == d0 + i) && o.after.all fun e => decide (e.on < i)
theorem propsG_at {d0 c : Nat} (h : propsG ops d0 c = true) {i : Nat} {o : Oper} (ho : ops[i]? = some o) : (o.dst = some (d0 + i) ∨ (o.dst = none ∧ i = c)) ∧ ∀ e ∈ o.after, e.on < i := by
 have hi := (Array.getElem?_eq_some_iff.1 ho).1
 have h1 := List.all_eq_true.1 h i (List.mem_range.2 hi)
 simp only [ho, Bool.and_eq_true] at h1
 obtain ⟨h1, h3⟩ := h1
 refine ⟨?_, fun e he => ?_⟩
 ·cases hd : o.dst with
  | none => rw [hd] at h1; exact .inr ⟨rfl, by simpa using h1⟩
  | some d => rw [hd] at h1; exact .inl (by simpa using h1)
 ·have := Array.all_eq_true_iff_forall_mem.1 h3 e he
  simpa using this
theorem no_readyG {d0 c : Nat} (hB : propsG ops d0 c = true) {listed : Array Bool} (hs : listed.size = ops.size) (hr : Region.ready md ops listed = []) : ∀ i, i < ops.size → listed.getD i true = true := by
 intro i
 induction i using Nat.strongRecOn with
 | ind i ih =>
  intro hi
  cases hl : listed.getD i true
  ·have ho : ops[i]? = some ops[i] := Array.getElem?_eq_getElem hi
   have : i ∈ Region.ready md ops listed := mem_ready.2 ⟨hl, ops[i], ho, fun e he _ => by
    have he2 := (propsG_at hB ho).2 e he
    have h1 := ih e.on he2 (by omega)
    have h2 : e.on < listed.size := by omega
    simpa [h2] using h1⟩
   rw [hr] at this; cases this
  ·rfl
theorem wanted_at {o : Oper} {tmps : Array Value} {j d : Nat} {want b : Bool} (hg : o.guard = some (j, want)) (hd : (ops[j]?).bind (·.dst) = some d) (hv : tmps.getD d undef = .bool b) : Region.wanted o (yielded ops tmps) = (b == want) := by
 have ht : tmps[d]? = some (.bool b) := by
  rw [Array.getD_eq_getD_getElem?] at hv
  cases h : tmps[d]? with
  | none => rw [h] at hv; simp [undef] at hv
  | some x => rw [h] at hv; simp at hv; rw [hv]
 unfold Region.wanted
 rw [hg]
 simp only [yielded, hd, Option.bind_some, ht]
 cases b <;> cases want <;> rfl
theorem yieldsR_mono {R R' : Value → World → Prop} (h : ∀ u w, R u w → R' u w) : ∀ (P : Program) (r : Result Next), yieldsR R P r → yieldsR R' P r := by
 intro P r hr
 cases r with
 | ok n w =>
  cases n with
  | value u => exact h _ _ hr
  | skip => exact h _ _ hr
  | enter f args => exact Calls.mono hr fun e w'' ⟨u, e1, h2⟩ => ⟨u, e1, h _ _ h2⟩
  | _ => exact hr.elim
 | _ => exact hr.elim
def Does (P : Program) (ops : Array Oper) (o : Oper) (a : Act) (w : World) (R : Value → World → Prop) : Prop :=
 (Region.wanted o (yielded ops a.tmps) = true ∧ yieldsK P o a w R) ∨ (Region.wanted o (yielded ops a.tmps) = false ∧ R undef w)
theorem Does.plain {o : Oper} {a : Act} {w : World} {R : Value → World → Prop} (hg : o.guard = none) (h : yieldsK P o a w R) : Does P ops o a w R := .inl ⟨by unfold Region.wanted; rw [hg], h⟩
theorem Does.yes {o : Oper} {a : Act} {w : World} {R : Value → World → Prop} {j d : Nat} {want : Bool} (hg : o.guard = some (j, want)) (hd : (ops[j]?).bind (·.dst) = some d) (hv : a.tmps.getD d undef = .bool want) (h : yieldsK P o a w R) : Does P ops o a w R :=
 .inl ⟨by rw [wanted_at hg hd hv]; cases want <;> rfl, h⟩
theorem wpAny_props2 {Q : Exit → Act → World → Prop} (d0 c : Nat) (O : Nat → Prop) (hB : propsG ops d0 c = true) (S : Nat → Value → World → Prop) (w0 : World) (a0 : Act) (hS : ∀ i v w w', Keep O w0 w → S i v w → Keep O w w' → S i v w') (hsz : d0 + ops.size ≤ a0.tmps.size)
  (hstep : ∀ i o (a : Act) (w : World), ops[i]? = some o → i ≠ c → FrameI a0 d0 ops.size a → Keep O w0 w → (∀ e ∈ o.after, Region.binds md e = true → S e.on (a.tmps.getD (d0 + e.on) undef) w) → Does P ops o a w fun u w' => S i u w' ∧ Keep NoB w w')
  (hspec : ∀ o (a : Act) (w : World), ops[c]? = some o → FrameI a0 d0 ops.size a → Keep NoB w0 w → (∀ e ∈ o.after, Region.binds md e = true → S e.on (a.tmps.getD (d0 + e.on) undef) w) → Does P ops o a w fun u w' => (∀ v, (o.dst.isSome = true → v = u) → S c v w') ∧ Keep O w w')
  (hend : ∀ (a : Act) (w : World), FrameI a0 d0 ops.size a → Keep O w0 w → (∀ i, i < ops.size → S i (a.tmps.getD (d0 + i) undef) w) → Q .normal a w) :
  ∀ (fuel : Nat) (listed : Array Bool) (a : Act) (w : World), listed.size = ops.size → (∃ L : List Nat, L.length ≤ fuel ∧ ∀ i, i < ops.size → listed.getD i true = false → i ∈ L) → FrameI a0 d0 ops.size a → Keep O w0 w → (listed.getD c true = false → Keep NoB w0 w) →
   (∀ i, i < ops.size → listed.getD i true = true → S i (a.tmps.getD (d0 + i) undef) w) → wpAny P md ops Q fuel listed a w := by
 have hNO : ∀ {X Y : World}, Keep NoB X Y → Keep O X Y := fun h => h.mono (fun _ hf _ => hf.elim)
 intro fuel
 induction fuel with
 | zero =>
  intro listed a w hs ⟨L, hL, hin⟩ hF hK hC hA
  obtain rfl : L = [] := List.length_eq_zero_iff.1 (by omega)
  have hall : ∀ i, i < ops.size → listed.getD i true = true := fun i hi => by
   cases h : listed.getD i true
   ·cases hin i hi h
   ·rfl
  refine ⟨?_, hend a w hF hK fun i hi => hA i hi (hall i hi)⟩
  rw [List.eq_nil_iff_forall_not_mem]
  intro i hi
  obtain ⟨h1, o, ho, _⟩ := mem_ready.1 hi
  rw [hall i (Array.getElem?_eq_some_iff.1 ho).1] at h1; cases h1
 | succ fuel ih =>
  intro listed a w hs ⟨L, hL, hin⟩ hF hK hC hA
  refine ⟨fun h0 => hend a w hF hK fun i hi => hA i hi (no_readyG hB hs h0 i hi), fun i hi => ?_⟩
  obtain ⟨h1, o, ho, hall⟩ := mem_ready.1 hi
  have hi' := (Array.getElem?_eq_some_iff.1 ho).1
  obtain ⟨hd, hlt⟩ := propsG_at hB ho
  have hdeps : ∀ e ∈ o.after, Region.binds md e = true → S e.on (a.tmps.getD (d0 + e.on) undef) w := fun e he hb => by
   have h2 := hall e he hb
   have h3 := hlt e he
   refine hA e.on (by omega) ?_
   have h4 : e.on < listed.size := by omega
   simpa [h4] using h2
  have hKO : (if i = c then Keep NoB w0 w else True) := by
   split
   ·rename_i e; subst e; exact hC h1
   ·trivial
  have hdoes : Does P ops o a w fun u w' => (∀ v, (o.dst.isSome = true → v = u) → S i v w') ∧ Keep O w w' ∧ (i ≠ c → Keep NoB w w') := by
   by_cases e : i = c
   ·subst e
    rw [if_pos rfl] at hKO
    rcases hspec o a w ho hF hKO hdeps with ⟨hw, hy⟩ | ⟨hw, h2, h3⟩
    ·refine .inl ⟨hw, ?_⟩
     unfold yieldsK at hy ⊢
     exact yieldsR_mono (fun u w' ⟨h2, h3⟩ => ⟨h2, h3, fun h => absurd rfl h⟩) _ _ hy
    ·exact .inr ⟨hw, h2, h3, fun h => absurd rfl h⟩
   ·have hsome : o.dst.isSome = true := by
     rcases hd with h | ⟨_, h⟩
     ·rw [h]; rfl
     ·exact absurd h e
    rcases hstep i o a w ho e hF hK hdeps with ⟨hw, hy⟩ | ⟨hw, h2, h3⟩
    ·refine .inl ⟨hw, ?_⟩
     unfold yieldsK at hy ⊢
     exact yieldsR_mono (fun u w' ⟨h2, h3⟩ => ⟨fun v hv => by rw [hv hsome]; exact h2, hNO h3, fun _ => h3⟩) _ _ hy
    ·exact .inr ⟨hw, fun v hv => by rw [hv hsome]; exact h2, hNO h3, fun _ => h3⟩
  have hnext : ∀ u w', (∀ v, (o.dst.isSome = true → v = u) → S i v w') → Keep O w w' → (i ≠ c → Keep NoB w w') → wpAny P md ops Q fuel (listed.setIfInBounds i true) (a.put o.dst u) w' := by
   intro u w' hSu hk hkn
   have hfr : FrameI a0 d0 ops.size (a.put o.dst u) ∧ (∀ k, k < ops.size → k ≠ i → (a.put o.dst u).tmps.getD (d0 + k) undef = a.tmps.getD (d0 + k) undef) ∧ (o.dst.isSome = true → (a.put o.dst u).tmps.getD (d0 + i) undef = u) := by
    rcases hd with hd | ⟨hd, _⟩
    ·rw [hd]
     have hds : d0 + i < a.tmps.size := by rw [hF.2.1]; omega
     have hget : ∀ s, (a.put (some (d0 + i)) u).tmps.getD s undef = if s = d0 + i then u else a.tmps.getD s undef := fun s => by
      unfold Act.put
      by_cases e : s = d0 + i
      ·subst e; simp [hds]
      ·rw [if_neg e]
       simp only [Array.getD_eq_getD_getElem?, Array.getElem?_setIfInBounds]
       rw [if_neg (fun h => e h.symm)]
     refine ⟨⟨hF.1, by unfold Act.put; simpa using hF.2.1, fun s hs' => ?_⟩, fun k hk' hki => ?_, fun _ => ?_⟩
     ·rw [hget, if_neg (by omega)]; exact hF.2.2 s hs'
     ·rw [hget, if_neg (by omega)]
     ·rw [hget, if_pos rfl]
    ·rw [hd]
     exact ⟨hF, fun _ _ _ => rfl, fun h => by cases h⟩
   obtain ⟨hF', hother, hself⟩ := hfr
   refine ih (listed.setIfInBounds i true) _ w' (by simpa using hs) ⟨L.erase i, ?_, fun k hk' hl => ?_⟩ hF' (hK.trans hk (fun _ h _ => h)) (fun hl => ?_) fun k hk' hl => ?_
   ·rw [List.length_erase_of_mem (hin i hi' h1)]; omega
   ·have hki : k ≠ i := by
     rintro rfl
     have : k < listed.size := by omega
     simp [this] at hl
    have hl2 : listed.getD k true = false := by rw [getD_set_ne true (Ne.symm hki)] at hl; exact hl
    exact (List.mem_erase_of_ne hki).2 (hin k hk' hl2)
   ·have hci : c ≠ i := by
     rintro rfl
     have : c < listed.size := by omega
     simp [this] at hl
    rw [getD_set_ne true (Ne.symm hci)] at hl
    exact keepN (hC hl) (hkn (Ne.symm hci))
   ·by_cases e : k = i
    ·subst e
     exact hSu _ hself
    ·rw [hother k hk' e]
     exact hS k _ _ _ hK (hA k hk' (by rw [getD_set_ne true (Ne.symm e)] at hl; exact hl)) hk
  unfold wpOp
  simp only [ho]
  rcases hdoes with ⟨hw, hy⟩ | ⟨hw, h2, h3, h4⟩
  ·rw [if_pos hw]
   exact .inl (Oper.wp_of_yields hy fun u w' ⟨h2, h3, h4⟩ => hnext u w' h2 h3 h4)
  ·rw [if_neg (by rw [hw]; decide)]
   exact hnext undef w h2 h3 h4
theorem wp_region_props2 {id : Nat} {Q : Exit → Act → World → Prop} {a0 : Act} {w : World} (d0 c : Nat) (O : Nat → Prop) (hm : P.follows .mixedOrders = true) (hB : propsG ops d0 c = true) (S : Nat → Value → World → Prop) (hS : ∀ i v w1 w', Keep O w w1 → S i v w1 → Keep O w1 w' → S i v w') (hsz : d0 + ops.size ≤ a0.tmps.size)
  (hstep : ∀ i o (a : Act) (w' : World), ops[i]? = some o → i ≠ c → FrameI a0 d0 ops.size a → Keep O w w' → (∀ e ∈ o.after, Region.binds .any e = true → S e.on (a.tmps.getD (d0 + e.on) undef) w') → Does P ops o a w' fun u w'' => S i u w'' ∧ Keep NoB w' w'')
  (hspec : ∀ o (a : Act) (w' : World), ops[c]? = some o → FrameI a0 d0 ops.size a → Keep NoB w w' → (∀ e ∈ o.after, Region.binds .any e = true → S e.on (a.tmps.getD (d0 + e.on) undef) w') → Does P ops o a w' fun u w'' => (∀ v, (o.dst.isSome = true → v = u) → S c v w'') ∧ Keep O w' w'')
  (hend : ∀ (a : Act) (w' : World), FrameI a0 d0 ops.size a → Keep O w w' → (∀ i, i < ops.size → S i (a.tmps.getD (d0 + i) undef) w') → Q .normal a w') : (Code.region id ops true).wp P Q a0 w :=
 wp_region_any hm (wpAny_props2 d0 c O hB S w a0 hS hsz hstep hspec hend _ _ a0 w.drew (by simp) ⟨List.range ops.size, by simp, fun i hi _ => List.mem_range.2 hi⟩ ⟨rfl, rfl, fun _ _ => rfl⟩ (Keep.refl O w).drew (fun _ => (Keep.refl NoB w).drew) fun i hi hl => by
  simp [hi] at hl)
end
end Go.Proofs.YtgnooffedmeenaaGreatDoor

namespace Go.Proofs.YtgnooffedmeenaaGreatDoor.F
open Go.RowKit W

def bsF (v : FV) (f : Fu) (i : Nat) : Bool := match i with
 | 0 => decide (v.na + v.nb + v.nl ≤ 64)
 | 1 => okN f.nm
 | 2 => S.okG f.ar f.rs
 | 3 => S.okG f.lc []
 | _ => C.okB f.bd
theorem bsF_all {v : FV} {f : Fu} {w : World} (h : FnAt w v f) (hb : ∀ i, i < 5 → bsF v f i = true) : okF f = true := by
 have h0 := of_decide_eq_true (hb 0 (by omega))
 have h1 : okN f.nm = true := hb 1 (by omega)
 have h2 : S.okG f.ar f.rs = true := hb 2 (by omega)
 have h3 : S.okG f.lc [] = true := hb 3 (by omega)
 have h4 : C.okB f.bd = true := hb 4 (by omega)
 rw [← h.la, ← h.lb, ← h.ll] at h0
 exact (okF_iff f).2 ⟨h1, h2, ((okG_one _).1 h3).2, h4, h0⟩
theorem bsF_not {v : FV} {f : Fu} {w : World} (h : FnAt w v f) (hb : ∃ i, i < 5 ∧ bsF v f i = false) : okF f = false := by
 refine okF_not fun ⟨h1, h2, h3, h4, h5⟩ => ?_
 obtain ⟨i, hi, hb⟩ := hb
 rw [h.la, h.lb, h.ll] at h5
 have hl : S.okG f.lc [] = true := (okG_one _).2 ⟨by rw [h.ll]; omega, h3⟩
 have hi : i = 0 ∨ i = 1 ∨ i = 2 ∨ i = 3 ∨ i = 4 := by omega
 rcases hi with rfl | rfl | rfl | rfl | rfl
 ·exact absurd h5 (of_decide_eq_false hb)
 ·rw [show bsF v f 1 = okN f.nm from rfl, h1] at hb; cases hb
 ·rw [show bsF v f 2 = S.okG f.ar f.rs from rfl, h2] at hb; cases hb
 ·rw [show bsF v f 3 = S.okG f.lc [] from rfl, hl] at hb; cases hb
 ·rw [show bsF v f 4 = C.okB f.bd from rfl, h4] at hb; cases hb
theorem few_eq (v : FV) (f : Fu) : (((if v.na + v.nb + v.nl ≤ 64 then (0 : Int) else 70)) == 0) = bsF v f 0 := by
 show _ = decide _
 by_cases h : v.na + v.nb + v.nl ≤ 64
 ·rw [if_pos h, decide_eq_true h]; rfl
 ·rw [if_neg h, decide_eq_false h]; rfl
theorem chkN_eq (s : List UInt8) : (chkN s == 0) = okN s := by
 cases h : okN s
 ·rw [chkN_no h]; rfl
 ·rw [chkN_ok h]; rfl
theorem chkG_eq (a r : List Int) : (S.chkG a r == 0) = S.okG a r := by
 cases h : S.okG a r
 ·rw [S.chkG_no h]; rfl
 ·rw [S.chkG_ok h]; rfl
theorem chkB_eq (l : List C.I3) : (C.chkB l == 0) = C.okB l := by
 cases h : C.okB l
 ·rw [C.chkB_no h]; rfl
 ·rw [C.chkB_ok h]; rfl
def SC (v : FV) (f : Fu) (b : Nat) : Nat → Value → World → Prop
 | 0 => fun u _ => u = v.val
 | 1 => AskV 155 88 37 (fnV 98) (v.cells)
 | 2 => fun u _ => u = .pointer (some ⟨b, 0, none⟩)
 | 3 => fun u _ => u = .string v.S
 | 4 => AskV 156 159 9 (fnV 100) (#[.string v.S])
 | 5 => fun u _ => u = .pointer (some ⟨b, 1, none⟩)
 | 6 => fun u _ => u = .agg #[.slice v.A v.na v.ca, .slice v.B v.nb v.cb]
 | 7 => AskV 159 161 34 (fnV 102) (#[.slice v.A v.na v.ca, .slice v.B v.nb v.cb])
 | 8 => fun u _ => u = .pointer (some ⟨b, 3, none⟩)
 | 9 => fun u _ => u = .slice v.L v.nl v.cl
 | 10 => fun u _ => u = .agg #[.slice v.L v.nl v.cl, .slice none 0 0]
 | 11 => AskV 159 161 34 (fnV 102) (#[.slice v.L v.nl v.cl, .slice none 0 0])
 | 12 => fun u _ => u = .pointer (some ⟨b, 4, none⟩)
 | 13 => fun u _ => u = .slice v.D v.nd v.cd
 | 14 => AskV 163 164 35 (fnV 105) (#[.slice v.D v.nd v.cd])
 | 15 => fun u w => ∃ g u0 u1 u2 u3 u4, u = .slice (some ⟨g, 0, none⟩) 5 5 ∧ Blk w g 57 #[u0, u1, u2, u3, u4] ∧ AskV 155 88 37 (fnV 98) (v.cells) u0 w ∧ AskV 156 159 9 (fnV 100) (#[.string v.S]) u1 w ∧ AskV 159 161 34 (fnV 102) (#[.slice v.A v.na v.ca, .slice v.B v.nb v.cb]) u2 w ∧ AskV 159 161 34 (fnV 102) (#[.slice v.L v.nl v.cl, .slice none 0 0]) u3 w ∧ AskV 163 164 35 (fnV 105) (#[.slice v.D v.nd v.cd]) u4 w
 | 16 => fun u _ => u = .bool (okF f)
 | 17 => fun u _ => u = .bool (!okF f)
 | _ => fun _ _ => True
theorem SC_stable (v : FV) (f : Fu) (b : Nat) : ∀ i u w w', SC v f b i u w → Keep NoB w w' → SC v f b i u w'
 | 0, _, _, _, h, _ => h
 | 1, _, _, _, h, hk => AskV.keep h hk
 | 2, _, _, _, h, _ => h
 | 3, _, _, _, h, _ => h
 | 4, _, _, _, h, hk => AskV.keep h hk
 | 5, _, _, _, h, _ => h
 | 6, _, _, _, h, _ => h
 | 7, _, _, _, h, hk => AskV.keep h hk
 | 8, _, _, _, h, _ => h
 | 9, _, _, _, h, _ => h
 | 10, _, _, _, h, _ => h
 | 11, _, _, _, h, hk => AskV.keep h hk
 | 12, _, _, _, h, _ => h
 | 13, _, _, _, h, _ => h
 | 14, _, _, _, h, hk => AskV.keep h hk
 | 15, _, _, _, ⟨g, u0, u1, u2, u3, u4, e, hb, a0, a1, a2, a3, a4⟩, hk => ⟨g, u0, u1, u2, u3, u4, e, hb.keep hk id, a0.keep hk, a1.keep hk, a2.keep hk, a3.keep hk, a4.keep hk⟩
 | 16, _, _, _, h, _ => h
 | 17, _, _, _, h, _ => h
 | _ + 18, _, _, _, h, _ => h

end Go.Proofs.YtgnooffedmeenaaGreatDoor.F

namespace Go.Proofs.YtgnooffedmeenaaGreatDoor.F
open Go.RowKit W

set_option maxRecDepth 100000 in
set_option maxHeartbeats 4000000 in
theorem great_no (v : FV) (w : World) (hs : SmF v) : Calls Tryz.prog 17 #[v.val] w fun e w' => e = .returned (.int .i64 0) ∧ Keep NoB w w' := by
 obtain ⟨s0, A, na, ca, B, nb, cb, L, nl, cl, D, nd, cd⟩ := v
 obtain ⟨h1, h2, h3, h4, h5⟩ := hs
 dsimp only at h1 h2 h3 h4 h5
 have k0 := (Keep.refl NoB w).alloc (.cells (FV.cells ⟨s0, A, na, ca, B, nb, cb, L, nl, cl, D, nd, cd⟩) 37)
 have HG := Lib.hid (fun w => S.great_no none A B 0 0 na ca nb cb w (Nat.zero_le _) h2 h3)
 unfold FV.val FV.cells at *
 go_enter Tryz.func17, Tryz.ntmps17
 go_wp2_with (go_at_call 44; refine (HG.out _).mono ?_; rintro e w1 ⟨rfl, k1⟩)
 go_ret
 exact ⟨rfl, keepN k0 k1⟩
theorem not_small {v : FV} (hs : ¬ SmF v) : 100 < v.S.size ∨ (v.S.size ≤ 100 ∧ 100 < v.nl) ∨ (v.S.size ≤ 100 ∧ v.nl ≤ 100 ∧ 600 < v.nd) ∨ (v.S.size ≤ 100 ∧ v.nl ≤ 100 ∧ v.nd ≤ 600 ∧ ¬ (0 ≤ 100 ∧ v.na ≤ 100 ∧ v.nb ≤ 100)) := by
 by_cases h1 : v.S.size ≤ 100
 ·by_cases h2 : v.nl ≤ 100
  ·by_cases h3 : v.nd ≤ 600
   ·exact .inr (.inr (.inr ⟨h1, h2, h3, fun h => hs ⟨h1, h.2.1, h.2.2, h2, h3⟩⟩))
   ·exact .inr (.inr (.inl ⟨h1, h2, by omega⟩))
  ·exact .inr (.inl ⟨h1, by omega⟩)
 ·exact .inl (by omega)
set_option maxRecDepth 100000 in
set_option maxHeartbeats 4000000 in
theorem great_yes (v : FV) (w : World) (hs : ¬ SmF v) : Calls Tryz.prog 17 #[v.val] w fun e w' => e = .returned (.int .i64 1) ∧ Keep NoB w w' := by
 have hn := not_small hs
 obtain ⟨s0, A, na, ca, B, nb, cb, L, nl, cl, D, nd, cd⟩ := v
 dsimp only at hn
 have k0 := (Keep.refl NoB w).alloc (.cells (FV.cells ⟨s0, A, na, ca, B, nb, cb, L, nl, cl, D, nd, cd⟩) 37)
 unfold FV.val FV.cells at *
 clear hs
 rcases hn with h1 | ⟨h1, h2⟩ | ⟨h1, h2, h3⟩ | ⟨h1, h2, h3, h4⟩
 ·go_enter Tryz.func17, Tryz.ntmps17
  go_wp2
  go_ret
  exact ⟨rfl, k0⟩
 ·go_enter Tryz.func17, Tryz.ntmps17
  go_wp2
  go_ret
  exact ⟨rfl, k0⟩
 ·go_enter Tryz.func17, Tryz.ntmps17
  go_wp2
  go_ret
  exact ⟨rfl, k0⟩
 ·have HG := Lib.hid (fun w => S.great_yes none A B 0 0 na ca nb cb w h4)
  clear h4
  go_enter Tryz.func17, Tryz.ntmps17
  go_wp2_with (go_at_call 44; refine (HG.out _).mono ?_; rintro e w1 ⟨rfl, k1⟩)
  go_ret
  exact ⟨rfl, keepN k0 k1⟩

end Go.Proofs.YtgnooffedmeenaaGreatDoor.F

namespace Go.Proofs.YtgnooffedmeenaaGreatDoor.C
open Go.RowKit O

end Go.Proofs.YtgnooffedmeenaaGreatDoor.C

namespace Go.Proofs.YtgnooffedmeenaaGreatDoor.C
open Go.RowKit O

/-! ### counts -/
/-! ### stretches -/
end Go.Proofs.YtgnooffedmeenaaGreatDoor.C

namespace Go.Proofs.YtgnooffedmeenaaGreatDoor.C
open Go.RowKit O

end Go.Proofs.YtgnooffedmeenaaGreatDoor.C

namespace Go.Proofs.YtgnooffedmeenaaGreatDoor.C
open Go.RowKit O

end Go.Proofs.YtgnooffedmeenaaGreatDoor.C

namespace Go.Proofs.YtgnooffedmeenaaGreatDoor.C
open Go.RowKit O

end Go.Proofs.YtgnooffedmeenaaGreatDoor.C

namespace Go.Proofs.YtgnooffedmeenaaGreatDoor.O
open Go.RowKit

/-! ### Decode -/

end Go.Proofs.YtgnooffedmeenaaGreatDoor.O

namespace Go.Proofs.YtgnooffedmeenaaGreatDoor.O
open Go.RowKit

end Go.Proofs.YtgnooffedmeenaaGreatDoor.O

namespace Go.Proofs.YtgnooffedmeenaaGreatDoor.C
open Go.RowKit O

end Go.Proofs.YtgnooffedmeenaaGreatDoor.C

namespace Go.Proofs.YtgnooffedmeenaaGreatDoor.C
open Go.RowKit O

end Go.Proofs.YtgnooffedmeenaaGreatDoor.C

namespace Go.Proofs.YtgnooffedmeenaaGreatDoor.F
open Go.RowKit W

structure OwnF (W : World) (P : Nat → Prop) (v : FV) (f : Fu) : Prop where
 nm : v.S.data.toList = f.nm
 oa : Own W 3 1 P (.slice v.A v.na v.ca) v.na (ivs f.ar)
 ob : Own W 3 1 P (.slice v.B v.nb v.cb) v.nb (ivs f.rs)
 ol : Own W 3 1 P (.slice v.L v.nl v.cl) v.nl (ivs f.lc)
 od : Own W 55 3 P (.slice v.D v.nd v.cd) v.nd (C.iis f.bd)
 hI : C.AllI f.bd
theorem OwnF.keep {W W' : World} {P O : Nat → Prop} {v : FV} {f : Fu} (h : OwnF W P v f) (hk : Keep O W W') (hn : ∀ k, P k → ¬ O k) : OwnF W' P v f :=
 ⟨h.nm, h.oa.keep hk hn, h.ob.keep hk hn, h.ol.keep hk hn, h.od.keep hk hn, h.hI⟩
theorem OwnF.mono {W : World} {P P' : Nat → Prop} {v : FV} {f : Fu} (h : OwnF W P v f) (hP : ∀ k, P k → k < W.heap.size → P' k) : OwnF W P' v f :=
 ⟨h.nm, h.oa.mono hP, h.ob.mono hP, h.ol.mono hP, h.od.mono hP, h.hI⟩
theorem own_rdS {w : World} {E size n : Nat} {P : Nat → Prop} {A : Option Addr} {c : Nat} {xs : List Value} (h : Own w E size P (.slice A n c) n xs) : Rd w A xs := by
 obtain ⟨A', c', e, _, _, hr, _⟩ := h.form
 injection e with e1 e2 e3
 subst e1; exact hr
theorem own_lenD {w : World} {O : Nat → Prop} {v : Value} {l : List C.I3} {n : Nat} (h : Own w 55 3 O v n (C.iis l)) : l.length = n := by have := h.1.1; rw [C.iis_length] at this; omega
theorem OwnF.fn {W : World} {P : Nat → Prop} {v : FV} {f : Fu} (h : OwnF W P v f) : FnAt W v f :=
 ⟨h.nm, own_rdS h.oa, own_rdS h.ob, own_rdS h.ol, own_rdS h.od, own_len h.oa, own_len h.ob, own_len h.ol, own_lenD h.od, h.hI⟩
end Go.Proofs.YtgnooffedmeenaaGreatDoor.F

namespace Go.Proofs.YtgnooffedmeenaaGreatDoor.F
open Go.RowKit W

def nilV : FV := ⟨⟨#[]⟩, none, 0, 0, none, 0, 0, none, 0, 0, none, 0, 0⟩
end Go.Proofs.YtgnooffedmeenaaGreatDoor.F

namespace Go.Proofs.YtgnooffedmeenaaGreatDoor.V
open Go.ChangeShapes Go.WideShapes Go.ChangeAt Go.RowKit

section
variable {H : Type} {enc : TypeId × Value → H} {w : World} {base b0 : Nat} {spare : Nat → Bool} {held : Bool} {r : Reach} {v : Value} {d : DataW H} {p : List MemPlace}
end

end Go.Proofs.YtgnooffedmeenaaGreatDoor.V

namespace Go.Proofs.YtgnooffedmeenaaGreatDoor.F
open Go.RowKit Go.ChangeShapes Go.WideShapes W

end Go.Proofs.YtgnooffedmeenaaGreatDoor.F

namespace Go.Proofs.YtgnooffedmeenaaGreatDoor.I
open Go.RowKit W

structure SV where
 A : Option Addr
 n : Nat
 c : Nat
def SV.val (s : SV) : Value := .slice s.A s.n s.c
def ShAt (w : World) (s : SV) (l : List Int) : Prop := Rd w s.A (ivs l) ∧ l.length = s.n
theorem ShAt.keep {O : Nat → Prop} {w w' : World} {s : SV} {l : List Int} (h : ShAt w s l) (hk : Keep O w w') (hO : ∀ k, k < w.heap.size → ¬ O k) : ShAt w' s l :=
 ⟨h.1.keepN (hk.mono (fun k ho hl => absurd ho (hO k hl))), h.2⟩
structure IV where
 X : Option Addr
 nx : Nat
 cx : Nat
 Y : Option Addr
 ny : Nat
 cy : Nat
def IV.cells (v : IV) : Array Value := #[.slice v.X v.nx v.cx, .slice v.Y v.ny v.cy]
def IV.val (v : IV) : Value := .agg v.cells
abbrev SE := SV × List Int
abbrev FE := F.FV × F.Fu
def svs (es : List SE) : List Value := es.map fun e => e.1.val
def fvs (fs : List FE) : List Value := fs.flatMap fun e => e.1.cells.toList
def imOf (es : List SE) (fs : List FE) : Im := ⟨es.map fun e => e.2, fs.map fun e => e.2⟩
theorem cells_len (v : F.FV) : v.cells.toList.length = 5 := rfl
theorem fvs_one (fs : List FE) : ∀ u ∈ fvs fs, u.oneCell' = true := by
 intro u hu
 obtain ⟨b, _, hb⟩ := List.mem_flatMap.1 hu
 unfold F.FV.cells at hb
 simp only [List.mem_cons, List.not_mem_nil, or_false] at hb
 rcases hb with rfl | rfl | rfl | rfl | rfl <;> rfl
theorem fvs_length (fs : List FE) : (fvs fs).length = fs.length * 5 := by
 induction fs with
 | nil => rfl
 | cons v l ih =>
  unfold fvs at ih ⊢
  rw [List.flatMap_cons, List.length_append, ih, cells_len, List.length_cons]; omega
theorem svs_length (es : List SE) : (svs es).length = es.length := by simp [svs]
theorem fvs_append (l r : List FE) : fvs (l ++ r) = fvs l ++ fvs r := by simp [fvs]
theorem fvs_at : ∀ (fs : List FE) (i j : Nat) (h : i < fs.length), j < 5 → (fvs fs)[i * 5 + j]? = fs[i].1.cells.toList[j]?
 | v :: l, 0, j, _, hj => by
  unfold fvs
  rw [List.flatMap_cons, Nat.zero_mul, Nat.zero_add, List.getElem?_append_left (by rw [cells_len]; exact hj)]; rfl
 | v :: l, i + 1, j, h, hj => by
  have := fvs_at l i j (by simpa using h) hj
  unfold fvs at this ⊢
  rw [List.flatMap_cons, show (i + 1) * 5 + j = 5 + (i * 5 + j) by omega, List.getElem?_append_right (by rw [cells_len]; omega), cells_len, Nat.add_sub_cancel_left]
  exact this
theorem svs_at (es : List SE) (i : Nat) (h : i < es.length) : (svs es)[i]? = some es[i].1.val := by simp [svs, h]

structure ImAt (w : World) (v : IV) (es : List SE) (fs : List FE) : Prop where
 rx : Rd w v.X (svs es)
 ry : Rd w v.Y (fvs fs)
 lx : es.length = v.nx
 ly : fs.length = v.ny
 hs : ∀ e ∈ es, ShAt w e.1 e.2
 hf : ∀ e ∈ fs, F.FnAt w e.1 e.2
theorem ImAt.keep {O : Nat → Prop} {w w' : World} {v : IV} {es : List SE} {fs : List FE} (h : ImAt w v es fs) (hk : Keep O w w') (hO : ∀ k, k < w.heap.size → ¬ O k) : ImAt w' v es fs :=
 have h2 : Keep NoB w w' := hk.mono (fun k ho hl => absurd ho (hO k hl))
 ⟨h.rx.keepN h2, h.ry.keepN h2, h.lx, h.ly, fun e he => (h.hs e he).keep h2 (fun _ _ => id), fun e he => (h.hf e he).keepN h2⟩
theorem ImAt.keepN {w w' : World} {v : IV} {es : List SE} {fs : List FE} (h : ImAt w v es fs) (hk : Keep NoB w w') : ImAt w' v es fs := h.keep hk (fun _ _ => id)
structure SmI (es : List SE) (fs : List FE) : Prop where
 ns : es.length ≤ 70
 nf : fs.length ≤ 70
 sh : ∀ e ∈ es, e.1.n ≤ 100
 fn : ∀ e ∈ fs, F.SmF e.1
theorem shape_at {w : World} {X : Option Addr} {es : List SE} (h : Rd w X (svs es)) {i : Nat} (hi : i < es.length) : ∃ g off, X = some ⟨g, off, none⟩ ∧ w.cell? ⟨g, off + i, none⟩ = some (.slice es[i].1.A es[i].1.n es[i].1.c) := by
 obtain ⟨g, off, e, hc⟩ := h (by rw [svs_length]; omega)
 exact ⟨g, off, e, hc i _ (svs_at es i hi)⟩
theorem fun_at {w : World} {Y : Option Addr} {fs : List FE} (h : Rd w Y (fvs fs)) {i : Nat} (hi : i < fs.length) : ∃ g off, Y = some ⟨g, off, none⟩ ∧ w.cell? ⟨g, off + i * 5, none⟩ = some (.string fs[i].1.S) ∧ w.cell? ⟨g, off + i * 5 + 1, none⟩ = some (.slice fs[i].1.A fs[i].1.na fs[i].1.ca) ∧
  w.cell? ⟨g, off + i * 5 + 2, none⟩ = some (.slice fs[i].1.B fs[i].1.nb fs[i].1.cb) ∧ w.cell? ⟨g, off + i * 5 + 3, none⟩ = some (.slice fs[i].1.L fs[i].1.nl fs[i].1.cl) ∧ w.cell? ⟨g, off + i * 5 + 4, none⟩ = some (.slice fs[i].1.D fs[i].1.nd fs[i].1.cd) := by
 obtain ⟨g, off, e, hc⟩ := h (by rw [fvs_length]; omega)
 exact ⟨g, off, e, hc _ _ (fvs_at fs i 0 hi (by omega)), hc _ _ (fvs_at fs i 1 hi (by omega)), hc _ _ (fvs_at fs i 2 hi (by omega)), hc _ _ (fvs_at fs i 3 hi (by omega)), hc _ _ (fvs_at fs i 4 hi (by omega))⟩

structure OwnIm (W : World) (P : Nat → Prop) (v : IV) (es : List SE) (fs : List FE) : Prop where
 ox : Own W 68 1 P (.slice v.X v.nx v.cx) v.nx (svs es)
 oy : Own W 37 5 P (.slice v.Y v.ny v.cy) v.ny (fvs fs)
 hs : ∀ e ∈ es, Own W 3 1 P (.slice e.1.A e.1.n e.1.c) e.1.n (ivs e.2)
 hf : ∀ e ∈ fs, F.OwnF W P e.1 e.2
theorem OwnIm.keep {W W' : World} {P O : Nat → Prop} {v : IV} {es : List SE} {fs : List FE} (h : OwnIm W P v es fs) (hk : Keep O W W') (hn : ∀ k, P k → ¬ O k) : OwnIm W' P v es fs :=
 ⟨h.ox.keep hk hn, h.oy.keep hk hn, fun e he => (h.hs e he).keep hk hn, fun e he => (h.hf e he).keep hk hn⟩
theorem OwnIm.keepN {W W' : World} {P : Nat → Prop} {v : IV} {es : List SE} {fs : List FE} (h : OwnIm W P v es fs) (hk : Keep NoB W W') : OwnIm W' P v es fs := h.keep hk (fun _ _ => id)
theorem OwnIm.mono {W : World} {P P' : Nat → Prop} {v : IV} {es : List SE} {fs : List FE} (h : OwnIm W P v es fs) (hP : ∀ k, P k → k < W.heap.size → P' k) : OwnIm W P' v es fs :=
 ⟨h.ox.mono hP, h.oy.mono hP, fun e he => (h.hs e he).mono hP, fun e he => (h.hf e he).mono hP⟩
theorem OwnIm.im {W : World} {P : Nat → Prop} {v : IV} {es : List SE} {fs : List FE} (h : OwnIm W P v es fs) : ImAt W v es fs :=
 ⟨F.own_rdS h.ox, F.own_rdS h.oy, by have := h.ox.1.1; rw [svs_length] at this; omega, by have := h.oy.1.1; rw [fvs_length] at this; omega,
  fun e he => ⟨F.own_rdS (h.hs e he), F.own_len (h.hs e he)⟩, fun e he => (h.hf e he).fn⟩
def nilW : IV := ⟨none, 0, 0, none, 0, 0⟩
theorem nil_own (W : World) (P : Nat → Prop) : OwnIm W P nilW [] [] := ⟨Own.nil _ _ _ _, Own.nil _ _ _ _, (fun _ h => nomatch h), (fun _ h => nomatch h)⟩
end Go.Proofs.YtgnooffedmeenaaGreatDoor.I
