/-
  Part 9 of the proofs of LBackRow, LLabelsRow: what is laid, and what the functions that the law runs answer. Conditions: each theorem names its own.
-/
import Derived.DeepKeys4
import Derived.Laws.RangeAny
import Derived.Laws.RangeString
import Derived.Maps.Keyed
import Derived.Maps.Own
import Derived.Maps.OwnIn
import Derived.Maps.OwnOps
import Derived.Maps.OwnSet
import Derived.Maps.Views
import Derived.WalkArith
import Derived.Test.YtgnooffedmeenaaGreatDoorQB8
namespace Go.Proofs.YtgnooffedmeenaaGreatDoor
open Go.RowKit Go.Shelf

abbrev BSet := Nat → Prop
structure IStep (B : Nat) (p : BSet) (W W' : World) : Prop where
 keep : Keep (fun k => B ≤ k ∧ ¬ p k) W W'
 cells : ∀ (k : Nat) (o : Obj), W'.heap[k]? = some o → o.isCells = true → W.heap[k]? = some o
def KeepsOut {β : Type} (B : Nat) (I : β → BSet → World → Prop) : Prop := ∀ s p W W', I s p W → IStep B p W W' → I s p W'
theorem IStep.alloc {B : Nat} {p : BSet} {W : World} (o : Obj) (ho : o.isCells = false) : IStep B p W (W.alloc o) := by
 refine ⟨(Keep.refl _ _).alloc _, fun k o' hk hc => ?_⟩
 have hl := (Array.getElem?_eq_some_iff.1 hk).1
 rw [World.size_alloc] at hl
 by_cases e : k = W.heap.size
 ·subst e
  rw [World.alloc_heap_new] at hk
  cases hk
  rw [ho] at hc; cases hc
 ·rw [Below.heap_alloc _ _ _ (by omega)] at hk
  exact hk
theorem IStep.trans {B : Nat} {p : BSet} {W W1 W2 : World} (h : IStep B p W W1) (h' : IStep B p W1 W2) : IStep B p W W2 :=
 ⟨h.keep.trans h'.keep (fun _ h _ => h), fun k o hk hc => h.cells k o (h'.cells k o hk hc) hc⟩
theorem IStep.putObj {B l : Nat} {p : BSet} {W : World} (o : Obj) (ho : o.isCells = false) (hB : B ≤ l) (hp : ¬ p l) : IStep B p W (W.putObj l o) := by
 refine ⟨(Keep.refl _ W).grown (grownBy_putObj' W l o) (fun g e hl => by cases e; exact ⟨hB, hp⟩), fun k o' hk hc => ?_⟩
 by_cases e : k = l
 ·subst e
  have hl := (Array.getElem?_eq_some_iff.1 hk).1
  rw [World.putObj_heap_same (by simpa [World.putObj] using hl)] at hk
  cases hk
  rw [ho] at hc; cases hc
 ·rwa [World.putObj_heap_other e] at hk
theorem IStep.mono {B B' : Nat} {p p' : BSet} {W W' : World} (h : IStep B p W W') (hB : B' ≤ B) (hp : ∀ k, p' k → p k) : IStep B' p' W W' :=
 ⟨h.keep.mono (fun k h2 _ => ⟨Nat.le_trans hB h2.1, fun h3 => h2.2 (hp k h3)⟩), h.cells⟩
structure Rnd (p p' : BSet) (W W' : World) : Prop where
 own : ∀ k, k < W.heap.size → p' k → p k
 keep : Keep p W W'
theorem Rnd.refl (p : BSet) (W : World) : Rnd p p W W := ⟨fun _ _ h => h, Keep.refl _ _⟩
theorem Rnd.trans {p p1 p2 : BSet} {W W1 W2 : World} (h : Rnd p p1 W W1) (h' : Rnd p1 p2 W1 W2) : Rnd p p2 W W2 :=
 ⟨fun k hk h2 => h.own k hk (h'.own k (Nat.lt_of_lt_of_le hk h.keep.size) h2), h.keep.trans h'.keep (fun k h1 hk => h.own k hk h1)⟩
theorem Rnd.of_keep {p : BSet} {W W' : World} (h : Keep p W W') : Rnd p p W W' := ⟨fun _ _ h => h, h⟩
theorem Keep.noB {O : BSet} {W W' : World} (h : Keep NoB W W') : Keep O W W' := h.mono (fun _ hf => hf.elim)
theorem Rnd.not {p p' : BSet} {W W' : World} (h : Rnd p p' W W') {k : Nat} (hk : k < W.heap.size) (hn : ¬ p k) : ¬ p' k := fun h2 => hn (h.own k hk h2)
theorem Rnd.same {p p' : BSet} {W W' : World} (h : Rnd p p' W W') {k : Nat} (hk : k < W.heap.size) (hn : ¬ p k) : W'.heap[k]? = W.heap[k]? := h.keep.block k hk hn

section
variable {P : Program} {n : Nat}
def StopsM {α : Type} (P : Program) (m k : Nat) (gf : Nat) (lb : Array Value) (encs : α → Array Value) (bx : Nat) (o : Obj) (En : List α → α → Prop) (S Sp : List α → Prop) : Prop :=
 ∀ (L : Nat) (J Jx : List α → BSet → World → Prop) (p : BSet) (W : World), KeepsOut W.heap.size J → KeepsOut W.heap.size Jx →
  (∀ pre x p W1, J pre p W1 → En pre x → YieldAt Fence.wide m P L (encs x) W1 fun e W' => ∃ p', Rnd p p' W1 W' ∧ ((e = .returned (.bool true) ∧ J (pre ++ [x]) p' W') ∨ (e = .returned (.bool false) ∧ Jx (pre ++ [x]) p' W'))) →
  J [] p W → (∀ k, p k → k < W.heap.size) → W.heap[bx]? = some o → ¬ p bx →
  CallsIn Fence.wide k P gf (#[.func (.yield L) #[] #[]] ++ lb) W fun e W' => (∃ v, e = .returned v) ∧ ∃ p', ((∃ xs, S xs ∧ J xs p' W') ∨ (∃ pre, Sp pre ∧ Jx pre p' W'))

def minePost {α : Type} (I : List α → BSet → World → Prop) (Ix : Code → List α → BSet → World → Prop) (xs : List α) (p : BSet) (W : World) : Exit → Act → World → Prop
 | .normal, _, W' => ∃ p', Rnd p p' W W' ∧ I xs p' W'
 | .ret, _, W' => ∃ p', Rnd p p' W W' ∧ Ix .ret xs p' W'
 | .exit id, _, W' => ∃ p', Rnd p p' W W' ∧ Ix (.exit id) xs p' W'
 | .goto t, _, W' => ∃ p', Rnd p p' W W' ∧ Ix (.goto t) xs p' W'
 | .panic _, _, _ => False
 | .outgrown, _, _ => False

theorem wpIn_rangeFunc_mine {α : Type} {g : Operand} {ps : Array Tmp} {assign body : Code} {Q : Exit → Act → World → Prop} {a : Act} {w : World} {m : Nat}
  {gf : Nat} {lb : Array Value} (hg : a.eval g = .func (.func gf) #[] lb) (eg : ∀ args w, (callFunc gf args).run P w = .ok (.enter gf args) w)
  {encs : α → Array Value} {bx : Nat} {o : Obj} {En : List α → α → Prop} {S Sp : List α → Prop} (hit : StopsM P m (n - 1) gf lb encs bx o En S Sp) (hps : ∀ x, (encs x).size = ps.size)
  (I : List α → BSet → World → Prop) (Ix : Code → List α → BSet → World → Prop) (hI : KeepsOut w.heap.size I) (hIx : ∀ c, KeepsOut w.heap.size (Ix c)) {p0 : BSet} (h0 : I [] p0 w) (hp0 : ∀ k, p0 k → k < w.heap.size) (hbx : w.heap[bx]? = some o) (hpb : ¬ p0 bx)
  (Ax : List α → α → BSet → Act → World → Prop) (hAx : ∀ pre x a', KeepsOut w.heap.size (fun (_ : Unit) p W => Ax pre x p a' W))
  (hassign : ∀ (l : Nat) (pre : List α) (x : α) (p : BSet) (W : World), I pre p W → En pre x →
   assign.wpIn (Fence.wide.inRound l) m P (Exit.then (fun a' W' => ∃ p', Rnd p p' W W' ∧ Ax pre x p' a' W') (fun _ _ _ => False)) { tmps := (ps.zip (encs x)).foldl (fun t (p, v) => t.setIfInBounds p v) a.tmps, defers := [] } W)
  (hbody : ∀ (l : Nat) (pre : List α) (x : α) (p : BSet) (a' : Act) (W : World), En pre x → Ax pre x p a' W → body.wpIn (Fence.wide.inRound l) m P (minePost I Ix (pre ++ [x]) p W) a' W)
  (hdone : ∀ (D : Nat) (xs : List α) (p : BSet) (W : World), w.heap.size ≤ D → ¬ p D → S xs → I xs p W → W.heap[D]? = some (.deferred (some [])) → Q .normal { a with defers := { target := .collected D, args := #[] } :: a.defers } W)
  (hstop : ∀ (D : Nat) (c : Code) (pre : List α) (p : BSet) (W : World), w.heap.size ≤ D → ¬ p D → Sp pre → Ix c pre p W → W.heap[D]? = some (.deferred (some [])) → c.wpIn Fence.wide n P Q { a with defers := { target := .collected D, args := #[] } :: a.defers } W) :
  (Code.rangeFunc g ps assign body).wpIn Fence.wide n P Q a w := by
 have hbl : bx < w.heap.size := (Array.getElem?_eq_some_iff.1 hbx).1
 refine wpIn_rangeFunc fun fn _ => ?_
 obtain ⟨rec, hrec⟩ : ∃ rec : LoopState → Option Code → Loop, rec = fun st pe => { state := st, pending := pe, fn, tmps := a.tmps, params := ps, assign, body, defers := w.heap.size } := ⟨_, rfl⟩
 obtain ⟨W1, hW1⟩ : ∃ W1, (w.alloc (.deferred (some []))).alloc (.loop (rec .ready none)) = W1 := ⟨_, rfl⟩
 have hL1 : W1.heap[w.heap.size + 1]? = some (.loop (rec .ready none)) := by
  rw [← hW1]; have := World.alloc_heap_new (w.alloc (.deferred (some []))) (.loop (rec .ready none)); rwa [World.size_alloc] at this
 have hD1 : W1.heap[w.heap.size]? = some (.deferred (some [])) := by
  rw [← hW1]; exact (Below.heap_alloc _ _ _ (by simp)).trans (World.alloc_heap_new w _)
 have hs1 : W1.heap.size = w.heap.size + 2 := by rw [← hW1]; simp
 have hB1 : W1.heap[bx]? = some o := by
  rw [← hW1]; exact (Below.heap_alloc _ _ _ (by simp; omega)).trans ((Below.heap_alloc _ _ _ hbl).trans hbx)
 have hI1 : I [] p0 W1 := hI _ _ _ _ h0 (by rw [← hW1]; exact (IStep.alloc _ rfl).trans (IStep.alloc _ rfl))
 have hput : ∀ {β : Type} {I' : β → BSet → World → Prop} (_ : KeepsOut w.heap.size I') {s : β} {p : BSet} {W : World} (l' : Loop), I' s p W → ¬ p (w.heap.size + 1) → I' s p (W.putObj (w.heap.size + 1) (.loop l')) := by
  intro β I' h s p W l' hi hn
  exact h _ _ _ _ hi (IStep.putObj _ rfl (by omega) hn)
 refine ⟨w.heap.size + 1, [{ target := .collected w.heap.size, args := #[] }], W1, { target := .fn (.func gf) lb, args := #[.func (.yield (w.heap.size + 1)) #[] #[]] }, W1, gf,
  #[.func (.yield (w.heap.size + 1)) #[] #[]] ++ lb, W1, ?_, ?_, fun _ _ => trivial, ?_, (fun h => by cases h), ?_⟩
 ·rw [← hW1, hrec]; exact run_enterLoop_outer _ _ _ _ _
 ·simp only [resolve, hg]
  simp [go_sem]
 ·simp [invoke, go_sem, eg]
 refine (hit (w.heap.size + 1)
  (fun pre pj W => ∃ p, (pj = fun k => p k ∨ k = w.heap.size + 1) ∧ (¬ p (w.heap.size + 1) ∧ ¬ p w.heap.size) ∧ I pre p W ∧ W.heap[w.heap.size + 1]? = some (.loop (rec .ready none)) ∧ W.heap[w.heap.size]? = some (.deferred (some [])))
  (fun pre pj W => ∃ p, (pj = fun k => p k ∨ k = w.heap.size + 1) ∧ (¬ p (w.heap.size + 1) ∧ ¬ p w.heap.size) ∧ ∃ c, Ix c pre p W ∧ W.heap[w.heap.size + 1]? = some (.loop (rec .done (some c))) ∧ W.heap[w.heap.size]? = some (.deferred (some [])))
  (fun k => p0 k ∨ k = w.heap.size + 1) W1 ?_ ?_ ?_ ⟨p0, rfl, ⟨fun h => by have := hp0 _ h; omega, fun h => by have := hp0 _ h; omega⟩, hI1, hL1, hD1⟩ ?_ hB1 ?_).mono ?_
 ·rintro pre pj W W' ⟨p, rfl, hn, hi, hl, hd⟩ hk
  exact ⟨p, rfl, hn, hI _ _ _ _ hi (hk.mono (by omega) (fun k h2 => .inl h2)), (hk.keep.block _ (Array.getElem?_eq_some_iff.1 hl).1 (by rintro ⟨h, _⟩; omega)).trans hl, (hk.keep.block _ (Array.getElem?_eq_some_iff.1 hd).1 (by rintro ⟨h, _⟩; omega)).trans hd⟩
 ·rintro pre pj W W' ⟨p, rfl, hn, c, hi, hl, hd⟩ hk
  exact ⟨p, rfl, hn, c, hIx c _ _ _ _ hi (hk.mono (by omega) (fun k h2 => .inl h2)), (hk.keep.block _ (Array.getElem?_eq_some_iff.1 hl).1 (by rintro ⟨h, _⟩; omega)).trans hl, (hk.keep.block _ (Array.getElem?_eq_some_iff.1 hd).1 (by rintro ⟨h, _⟩; omega)).trans hd⟩
 ·rintro pre x pj W ⟨p, rfl, ⟨hnl, hnd⟩, hi, hl, hd⟩ hen
  have hlt : w.heap.size + 1 < W.heap.size := (Array.getElem?_eq_some_iff.1 hl).1
  have hy := run_yield (P := P) (args := encs x) hl (by rw [hrec]; exact hps x)
  rw [hrec] at hy
  refine ⟨fn, _, assign, body, hy, roundIn_of_wpIn trivial (wpIn_mono (hassign _ pre x p W hi hen) ?_)⟩
  clear hy
  intro e a₁ Wa hq
  cases e with
  | normal =>
   obtain ⟨p1, hr1, hax⟩ := hq
   have hl1 := (hr1.same hlt hnl).trans hl
   have hd1 := (hr1.same (by omega) hnd).trans hd
   have hnl1 := hr1.not hlt hnl
   have hnd1 := hr1.not (by omega) hnd
   have hlt1 : w.heap.size + 1 < Wa.heap.size := (Array.getElem?_eq_some_iff.1 hl1).1
   refine ⟨_, run_beginRound hl1 (by rw [hrec]), ?_⟩
   have hl2 : (Wa.putObj (w.heap.size + 1) (.loop { rec .ready none with state := .busy })).heap[w.heap.size + 1]? = some (.loop { rec .ready none with state := .busy }) := World.putObj_heap_same hlt1
   have hd2 : (Wa.putObj (w.heap.size + 1) (.loop { rec .ready none with state := .busy })).heap[w.heap.size]? = some (.deferred (some [])) := (World.putObj_heap_other (by omega)).trans hd1
   have hkl : Keep (fun k => p k ∨ k = w.heap.size + 1) W (Wa.putObj (w.heap.size + 1) (.loop { rec .ready none with state := .busy })) :=
    (hr1.keep.mono (fun k h _ => .inl h)).grown (grownBy_putObj' Wa (w.heap.size + 1) _) (fun g e _ => by cases e; exact .inr rfl)
   have hz2 : (Wa.putObj (w.heap.size + 1) (.loop { rec .ready none with state := .busy })).heap.size = Wa.heap.size := by simp [World.putObj]
   refine wpIn_mono (hbody _ pre x p1 a₁ _ hen (hput (hAx pre x a₁) (s := ()) _ hax hnl1)) ?_
   have fin : ∀ (jump : Option Code) (p2 : BSet) (W3 : World), Rnd p1 p2 (Wa.putObj (w.heap.size + 1) (.loop { rec .ready none with state := .busy })) W3 →
     (Instr.endRound (w.heap.size + 1) jump).run P W3 = .ok (.bool jump.isNone) (W3.putObj (w.heap.size + 1) (.loop (rec (if jump.isNone then .ready else .done) jump))) ∧
     (W3.putObj (w.heap.size + 1) (.loop (rec (if jump.isNone then .ready else .done) jump))).heap[w.heap.size + 1]? = some (.loop (rec (if jump.isNone then .ready else .done) jump)) ∧
     (W3.putObj (w.heap.size + 1) (.loop (rec (if jump.isNone then .ready else .done) jump))).heap[w.heap.size]? = some (.deferred (some [])) ∧
     (¬ p2 (w.heap.size + 1) ∧ ¬ p2 w.heap.size) ∧
     Rnd (fun k => p k ∨ k = w.heap.size + 1) (fun k => p2 k ∨ k = w.heap.size + 1) W (W3.putObj (w.heap.size + 1) (.loop (rec (if jump.isNone then .ready else .done) jump))) := fun jump p2 W3 hr2 => by
    have hl3 := (hr2.same (by rw [hz2]; exact hlt1) hnl1).trans hl2
    have hd3 := (hr2.same (by rw [hz2]; omega) hnd1).trans hd2
    have := run_endRound (P := P) jump hl3
    rw [hrec] at this ⊢
    refine ⟨this, World.putObj_heap_same (Array.getElem?_eq_some_iff.1 hl3).1, (World.putObj_heap_other (by omega)).trans hd3, ⟨hr2.not (by rw [hz2]; exact hlt1) hnl1, hr2.not (by rw [hz2]; omega) hnd1⟩, ⟨fun k hk h => ?_, ?_⟩⟩
    ·rcases h with h | h
     ·exact .inl (hr1.own k hk (hr2.own k (by rw [hz2]; exact Nat.lt_of_lt_of_le hk hr1.keep.size) h))
     ·exact .inr h
    ·rw [hrec] at hkl hr2
     exact (hkl.trans hr2.keep (fun k h hk => .inl (hr1.own k hk h))).grown (grownBy_putObj' W3 (w.heap.size + 1) _) (fun g e _ => by cases e; exact .inr rfl)
   rintro e a3 W3 hp
   cases e with
   | normal =>
    obtain ⟨p2, hr2, hi3⟩ := hp
    obtain ⟨hr, hl4, hd4, hn4, hR⟩ := fin none p2 W3 hr2
    exact ⟨_, _, hr, ⟨_, hR, .inl ⟨rfl, p2, rfl, hn4, hput hI _ hi3 hn4.1, hl4, hd4⟩⟩⟩
   | ret =>
    obtain ⟨p2, hr2, hi3⟩ := hp
    obtain ⟨hr, hl4, hd4, hn4, hR⟩ := fin (some .ret) p2 W3 hr2
    exact ⟨_, _, hr, ⟨_, hR, .inr ⟨rfl, p2, rfl, hn4, .ret, hput (hIx _) _ hi3 hn4.1, hl4, hd4⟩⟩⟩
   | exit id =>
    obtain ⟨p2, hr2, hi3⟩ := hp
    obtain ⟨hr, hl4, hd4, hn4, hR⟩ := fin (some (.exit id)) p2 W3 hr2
    exact ⟨_, _, hr, ⟨_, hR, .inr ⟨rfl, p2, rfl, hn4, .exit id, hput (hIx _) _ hi3 hn4.1, hl4, hd4⟩⟩⟩
   | goto t =>
    obtain ⟨p2, hr2, hi3⟩ := hp
    obtain ⟨hr, hl4, hd4, hn4, hR⟩ := fin (some (.goto t)) p2 W3 hr2
    exact ⟨_, _, hr, ⟨_, hR, .inr ⟨rfl, p2, rfl, hn4, .goto t, hput (hIx _) _ hi3 hn4.1, hl4, hd4⟩⟩⟩
   | panic ch => exact hp.elim
   | outgrown => exact hp.elim
  | exit id => exact hq
  | goto t => exact hq
  | ret => exact hq
  | panic c => exact hq
  | outgrown => exact hq
 ·rintro k (h | h)
  ·have := hp0 k h; omega
  ·omega
 ·rintro (h | h)
  ·exact hpb h
  ·omega
 ·rintro e W2 ⟨⟨v, rfl⟩, pj, (⟨xs, hS, p, rfl, hn, hi, hl, hd⟩ | ⟨pre, hSp, p, rfl, hn, c, hi, hl, hd⟩)⟩
  ·exact ⟨none, _, by have := run_endLoop (P := P) hl (by rw [hrec]; simp); rw [hrec] at this; exact this, hdone _ xs p _ (Nat.le_refl _) hn.2 hS (hput hI _ hi hn.1) ((World.putObj_heap_other (by omega)).trans hd)⟩
  ·exact ⟨some c, _, by have := run_endLoop (P := P) hl (by rw [hrec]; simp); rw [hrec] at this; exact this, hstop _ c pre p _ (Nat.le_refl _) hn.2 hSp (hput (hIx c) _ hi hn.1) ((World.putObj_heap_other (by omega)).trans hd)⟩
end
end Go.Proofs.YtgnooffedmeenaaGreatDoor

namespace Go.Proofs.YtgnooffedmeenaaGreatDoor
open Go.RowKit Go.Shelf

structure IStepU (U : TypeId) (B : Nat) (p : BSet) (W W' : World) : Prop where
 keep : Keep (fun k => B ≤ k ∧ ¬ p k) W W'
 cells : ∀ (k : Nat) c fz, W'.heap[k]? = some (.cells c U fz) → W.heap[k]? = some (.cells c U fz)
def KeepsOutU (U : TypeId) {β : Type} (B : Nat) (I : β → BSet → World → Prop) : Prop := ∀ s p W W', I s p W → IStepU U B p W W' → I s p W'
section
variable {U : TypeId} {B : Nat} {p : BSet} {W W1 W2 : World}
theorem IStepU.alloc (o : Obj) (ho : ∀ c fz, o ≠ .cells c U fz) : IStepU U B p W (W.alloc o) := by
 refine ⟨(Keep.refl _ _).alloc _, fun k c fz hk => ?_⟩
 have hl := (Array.getElem?_eq_some_iff.1 hk).1
 rw [World.size_alloc] at hl
 by_cases e : k = W.heap.size
 ·subst e
  rw [World.alloc_heap_new] at hk
  cases hk
  exact absurd rfl (ho _ _)
 ·rw [Below.heap_alloc _ _ _ (by omega)] at hk
  exact hk
theorem IStepU.trans (h : IStepU U B p W W1) (h' : IStepU U B p W1 W2) : IStepU U B p W W2 :=
 ⟨h.keep.trans h'.keep (fun _ h _ => h), fun k c fz hk => h.cells k c fz (h'.cells k c fz hk)⟩
theorem IStepU.putObj {l : Nat} (o : Obj) (ho : ∀ c fz, o ≠ .cells c U fz) (hB : B ≤ l) (hp : ¬ p l) : IStepU U B p W (W.putObj l o) := by
 refine ⟨(Keep.refl _ W).grown (grownBy_putObj' W l o) (fun g e hl => by cases e; exact ⟨hB, hp⟩), fun k c fz hk => ?_⟩
 by_cases e : k = l
 ·subst e
  have hl := (Array.getElem?_eq_some_iff.1 hk).1
  rw [World.putObj_heap_same (by simpa [World.putObj] using hl)] at hk
  cases hk
  exact absurd rfl (ho _ _)
 ·rwa [World.putObj_heap_other e] at hk
theorem IStepU.setCell {g : Nat} {T : TypeId} {cs : Array Value} (i : Nat) (v : Value) (hg : Blk W g T cs) (hT : T ≠ U) (hB : B ≤ g) (hp : ¬ p g) : IStepU U B p W (W.setCell ⟨g, i, none⟩ v) := by
 refine ⟨(Keep.refl _ W).setCell (p := ⟨g, i, none⟩) (fun _ => ⟨hB, hp⟩) v, fun k c fz hk => ?_⟩
 by_cases e : k = g
 ·subst e
  have h2 : (W.setCell ⟨k, i, none⟩ v).heap[k]? = some (.cells (cs.setIfInBounds i v) T (0, 0)) := hg.put i v
  rw [h2] at hk
  cases hk
  exact absurd rfl hT
 ·rwa [Below.heap_setCell _ _ _ _ e] at hk
theorem IStepU.mono {B' : Nat} {p' : BSet} (h : IStepU U B p W W1) (hB : B' ≤ B) (hp : ∀ k, p' k → p k) : IStepU U B' p' W W1 :=
 ⟨h.keep.mono (fun k h2 _ => ⟨Nat.le_trans hB h2.1, fun h3 => h2.2 (hp k h3)⟩), h.cells⟩
end

section
variable {P : Program} {n : Nat}
def StopsU (U : TypeId) {α : Type} (P : Program) (m k : Nat) (gf : Nat) (lb : Array Value) (encs : α → Array Value) (H : World → Prop) (En : List α → α → Prop) (S Sp : List α → Prop) : Prop :=
 ∀ (L : Nat) (J Jx : List α → BSet → World → Prop) (p : BSet) (W : World), KeepsOutU U W.heap.size J → KeepsOutU U W.heap.size Jx → (∀ pre p W, J pre p W → ∀ k, p k → k < W.heap.size) →
  (∀ pre x p W1, J pre p W1 → En pre x → YieldAt Fence.wide m P L (encs x) W1 fun e W' => ∃ p', Rnd p p' W1 W' ∧ ((e = .returned (.bool true) ∧ J (pre ++ [x]) p' W') ∨ (e = .returned (.bool false) ∧ Jx (pre ++ [x]) p' W'))) →
  J [] p W → (∀ k, p k → k < W.heap.size) → H W → (∀ O W1 W2, (∀ k, O k → p k ∨ W.heap.size ≤ k) → H W1 → Keep O W1 W2 → H W2) →
  CallsIn Fence.wide k P gf (#[.func (.yield L) #[] #[]] ++ lb) W fun e W' => (∃ v, e = .returned v) ∧ ∃ p', ((∃ xs, S xs ∧ J xs p' W') ∨ (∃ pre, Sp pre ∧ Jx pre p' W'))

def minePostU {α : Type} (I : List α → BSet → World → Prop) (Ix : Code → List α → BSet → World → Prop) (xs : List α) (p : BSet) (W : World) : Exit → Act → World → Prop
 | .normal, _, W' => ∃ p', Rnd p p' W W' ∧ I xs p' W'
 | .ret, _, W' => ∃ p', Rnd p p' W W' ∧ Ix .ret xs p' W'
 | .exit id, _, W' => ∃ p', Rnd p p' W W' ∧ Ix (.exit id) xs p' W'
 | .goto t, _, W' => ∃ p', Rnd p p' W W' ∧ Ix (.goto t) xs p' W'
 | .panic _, _, _ => False
 | .outgrown, _, _ => False

theorem wpIn_rangeFunc_U {U : TypeId} {α : Type} {g : Operand} {ps : Array Tmp} {assign body : Code} {Q : Exit → Act → World → Prop} {a : Act} {w : World} {m : Nat}
  {gf : Nat} {lb : Array Value} (hg : a.eval g = .func (.func gf) #[] lb) (eg : ∀ args w, (callFunc gf args).run P w = .ok (.enter gf args) w)
  {encs : α → Array Value} {H : World → Prop} {En : List α → α → Prop} {S Sp : List α → Prop} (hit : StopsU U P m (n - 1) gf lb encs H En S Sp) (hps : ∀ x, (encs x).size = ps.size)
  (I : List α → BSet → World → Prop) (Ix : Code → List α → BSet → World → Prop) (hI : KeepsOutU U w.heap.size I) (hIb : ∀ pre p W, I pre p W → ∀ k, p k → k < W.heap.size) (hIx : ∀ c, KeepsOutU U w.heap.size (Ix c)) {p0 : BSet} (h0 : I [] p0 w) (hp0 : ∀ k, p0 k → k < w.heap.size) (hH : H w) (hHk : ∀ O W1 W2, (∀ k, O k → p0 k ∨ w.heap.size ≤ k) → H W1 → Keep O W1 W2 → H W2)
  (Ax : List α → α → BSet → Act → World → Prop) (hAx : ∀ pre x a', KeepsOutU U w.heap.size (fun (_ : Unit) p W => Ax pre x p a' W))
  (hassign : ∀ (l : Nat) (pre : List α) (x : α) (p : BSet) (W : World), I pre p W → En pre x →
   assign.wpIn (Fence.wide.inRound l) m P (Exit.then (fun a' W' => ∃ p', Rnd p p' W W' ∧ Ax pre x p' a' W') (fun _ _ _ => False)) { tmps := (ps.zip (encs x)).foldl (fun t (p, v) => t.setIfInBounds p v) a.tmps, defers := [] } W)
  (hbody : ∀ (l : Nat) (pre : List α) (x : α) (p : BSet) (a' : Act) (W : World), En pre x → Ax pre x p a' W → body.wpIn (Fence.wide.inRound l) m P (minePostU I Ix (pre ++ [x]) p W) a' W)
  (hdone : ∀ (D : Nat) (xs : List α) (p : BSet) (W : World), w.heap.size ≤ D → ¬ p D → S xs → I xs p W → W.heap[D]? = some (.deferred (some [])) → Q .normal { a with defers := { target := .collected D, args := #[] } :: a.defers } W)
  (hstop : ∀ (D : Nat) (c : Code) (pre : List α) (p : BSet) (W : World), w.heap.size ≤ D → ¬ p D → Sp pre → Ix c pre p W → W.heap[D]? = some (.deferred (some [])) → c.wpIn Fence.wide n P Q { a with defers := { target := .collected D, args := #[] } :: a.defers } W) :
  (Code.rangeFunc g ps assign body).wpIn Fence.wide n P Q a w := by
 refine wpIn_rangeFunc fun fn _ => ?_
 obtain ⟨rec, hrec⟩ : ∃ rec : LoopState → Option Code → Loop, rec = fun st pe => { state := st, pending := pe, fn, tmps := a.tmps, params := ps, assign, body, defers := w.heap.size } := ⟨_, rfl⟩
 obtain ⟨W1, hW1⟩ : ∃ W1, (w.alloc (.deferred (some []))).alloc (.loop (rec .ready none)) = W1 := ⟨_, rfl⟩
 have hL1 : W1.heap[w.heap.size + 1]? = some (.loop (rec .ready none)) := by
  rw [← hW1]; have := World.alloc_heap_new (w.alloc (.deferred (some []))) (.loop (rec .ready none)); rwa [World.size_alloc] at this
 have hD1 : W1.heap[w.heap.size]? = some (.deferred (some [])) := by
  rw [← hW1]; exact (Below.heap_alloc _ _ _ (by simp)).trans (World.alloc_heap_new w _)
 have hs1 : W1.heap.size = w.heap.size + 2 := by rw [← hW1]; simp
 have hB1 : H W1 := by
  rw [← hW1]; exact hHk NoB _ _ (fun k h => h.elim) hH (((Keep.refl _ _).alloc _).alloc _)
 have hI1 : I [] p0 W1 := hI _ _ _ _ h0 (by rw [← hW1]; exact (IStepU.alloc _ (by intro _ _ h; cases h)).trans (IStepU.alloc _ (by intro _ _ h; cases h)))
 have hput : ∀ {β : Type} {I' : β → BSet → World → Prop} (_ : KeepsOutU U w.heap.size I') {s : β} {p : BSet} {W : World} (l' : Loop), I' s p W → ¬ p (w.heap.size + 1) → I' s p (W.putObj (w.heap.size + 1) (.loop l')) := by
  intro β I' h s p W l' hi hn
  exact h _ _ _ _ hi (IStepU.putObj _ (by intro _ _ h; cases h) (by omega) hn)
 refine ⟨w.heap.size + 1, [{ target := .collected w.heap.size, args := #[] }], W1, { target := .fn (.func gf) lb, args := #[.func (.yield (w.heap.size + 1)) #[] #[]] }, W1, gf,
  #[.func (.yield (w.heap.size + 1)) #[] #[]] ++ lb, W1, ?_, ?_, fun _ _ => trivial, ?_, (fun h => by cases h), ?_⟩
 ·rw [← hW1, hrec]; exact run_enterLoop_outer _ _ _ _ _
 ·simp only [resolve, hg]
  simp [go_sem]
 ·simp [invoke, go_sem, eg]
 refine (hit (w.heap.size + 1)
  (fun pre pj W => ∃ p, (pj = fun k => p k ∨ k = w.heap.size + 1) ∧ (¬ p (w.heap.size + 1) ∧ ¬ p w.heap.size) ∧ I pre p W ∧ W.heap[w.heap.size + 1]? = some (.loop (rec .ready none)) ∧ W.heap[w.heap.size]? = some (.deferred (some [])))
  (fun pre pj W => ∃ p, (pj = fun k => p k ∨ k = w.heap.size + 1) ∧ (¬ p (w.heap.size + 1) ∧ ¬ p w.heap.size) ∧ ∃ c, Ix c pre p W ∧ W.heap[w.heap.size + 1]? = some (.loop (rec .done (some c))) ∧ W.heap[w.heap.size]? = some (.deferred (some [])))
  (fun k => p0 k ∨ k = w.heap.size + 1) W1 ?_ ?_ ?_ ?_ ⟨p0, rfl, ⟨fun h => by have := hp0 _ h; omega, fun h => by have := hp0 _ h; omega⟩, hI1, hL1, hD1⟩ ?_ hB1 ?_).mono ?_
 ·rintro pre pj W W' ⟨p, rfl, hn, hi, hl, hd⟩ hk
  exact ⟨p, rfl, hn, hI _ _ _ _ hi (hk.mono (by omega) (fun k h2 => .inl h2)), (hk.keep.block _ (Array.getElem?_eq_some_iff.1 hl).1 (by rintro ⟨h, _⟩; omega)).trans hl, (hk.keep.block _ (Array.getElem?_eq_some_iff.1 hd).1 (by rintro ⟨h, _⟩; omega)).trans hd⟩
 ·rintro pre pj W W' ⟨p, rfl, hn, c, hi, hl, hd⟩ hk
  exact ⟨p, rfl, hn, c, hIx c _ _ _ _ hi (hk.mono (by omega) (fun k h2 => .inl h2)), (hk.keep.block _ (Array.getElem?_eq_some_iff.1 hl).1 (by rintro ⟨h, _⟩; omega)).trans hl, (hk.keep.block _ (Array.getElem?_eq_some_iff.1 hd).1 (by rintro ⟨h, _⟩; omega)).trans hd⟩
 ·rintro pre pj W ⟨p, rfl, _, hi, hl, _⟩ k (hk | rfl)
  ·exact hIb _ _ _ hi k hk
  ·exact (Array.getElem?_eq_some_iff.1 hl).1
 ·rintro pre x pj W ⟨p, rfl, ⟨hnl, hnd⟩, hi, hl, hd⟩ hen
  have hlt : w.heap.size + 1 < W.heap.size := (Array.getElem?_eq_some_iff.1 hl).1
  have hy := run_yield (P := P) (args := encs x) hl (by rw [hrec]; exact hps x)
  rw [hrec] at hy
  refine ⟨fn, _, assign, body, hy, roundIn_of_wpIn trivial (wpIn_mono (hassign _ pre x p W hi hen) ?_)⟩
  clear hy
  intro e a₁ Wa hq
  cases e with
  | normal =>
   obtain ⟨p1, hr1, hax⟩ := hq
   have hl1 := (hr1.same hlt hnl).trans hl
   have hd1 := (hr1.same (by omega) hnd).trans hd
   have hnl1 := hr1.not hlt hnl
   have hnd1 := hr1.not (by omega) hnd
   have hlt1 : w.heap.size + 1 < Wa.heap.size := (Array.getElem?_eq_some_iff.1 hl1).1
   refine ⟨_, run_beginRound hl1 (by rw [hrec]), ?_⟩
   have hl2 : (Wa.putObj (w.heap.size + 1) (.loop { rec .ready none with state := .busy })).heap[w.heap.size + 1]? = some (.loop { rec .ready none with state := .busy }) := World.putObj_heap_same hlt1
   have hd2 : (Wa.putObj (w.heap.size + 1) (.loop { rec .ready none with state := .busy })).heap[w.heap.size]? = some (.deferred (some [])) := (World.putObj_heap_other (by omega)).trans hd1
   have hkl : Keep (fun k => p k ∨ k = w.heap.size + 1) W (Wa.putObj (w.heap.size + 1) (.loop { rec .ready none with state := .busy })) :=
    (hr1.keep.mono (fun k h _ => .inl h)).grown (grownBy_putObj' Wa (w.heap.size + 1) _) (fun g e _ => by cases e; exact .inr rfl)
   have hz2 : (Wa.putObj (w.heap.size + 1) (.loop { rec .ready none with state := .busy })).heap.size = Wa.heap.size := by simp [World.putObj]
   refine wpIn_mono (hbody _ pre x p1 a₁ _ hen (hput (hAx pre x a₁) (s := ()) _ hax hnl1)) ?_
   have fin : ∀ (jump : Option Code) (p2 : BSet) (W3 : World), Rnd p1 p2 (Wa.putObj (w.heap.size + 1) (.loop { rec .ready none with state := .busy })) W3 →
     (Instr.endRound (w.heap.size + 1) jump).run P W3 = .ok (.bool jump.isNone) (W3.putObj (w.heap.size + 1) (.loop (rec (if jump.isNone then .ready else .done) jump))) ∧
     (W3.putObj (w.heap.size + 1) (.loop (rec (if jump.isNone then .ready else .done) jump))).heap[w.heap.size + 1]? = some (.loop (rec (if jump.isNone then .ready else .done) jump)) ∧
     (W3.putObj (w.heap.size + 1) (.loop (rec (if jump.isNone then .ready else .done) jump))).heap[w.heap.size]? = some (.deferred (some [])) ∧
     (¬ p2 (w.heap.size + 1) ∧ ¬ p2 w.heap.size) ∧
     Rnd (fun k => p k ∨ k = w.heap.size + 1) (fun k => p2 k ∨ k = w.heap.size + 1) W (W3.putObj (w.heap.size + 1) (.loop (rec (if jump.isNone then .ready else .done) jump))) := fun jump p2 W3 hr2 => by
    have hl3 := (hr2.same (by rw [hz2]; exact hlt1) hnl1).trans hl2
    have hd3 := (hr2.same (by rw [hz2]; omega) hnd1).trans hd2
    have := run_endRound (P := P) jump hl3
    rw [hrec] at this ⊢
    refine ⟨this, World.putObj_heap_same (Array.getElem?_eq_some_iff.1 hl3).1, (World.putObj_heap_other (by omega)).trans hd3, ⟨hr2.not (by rw [hz2]; exact hlt1) hnl1, hr2.not (by rw [hz2]; omega) hnd1⟩, ⟨fun k hk h => ?_, ?_⟩⟩
    ·rcases h with h | h
     ·exact .inl (hr1.own k hk (hr2.own k (by rw [hz2]; exact Nat.lt_of_lt_of_le hk hr1.keep.size) h))
     ·exact .inr h
    ·rw [hrec] at hkl hr2
     exact (hkl.trans hr2.keep (fun k h hk => .inl (hr1.own k hk h))).grown (grownBy_putObj' W3 (w.heap.size + 1) _) (fun g e _ => by cases e; exact .inr rfl)
   rintro e a3 W3 hp
   cases e with
   | normal =>
    obtain ⟨p2, hr2, hi3⟩ := hp
    obtain ⟨hr, hl4, hd4, hn4, hR⟩ := fin none p2 W3 hr2
    exact ⟨_, _, hr, ⟨_, hR, .inl ⟨rfl, p2, rfl, hn4, hput hI _ hi3 hn4.1, hl4, hd4⟩⟩⟩
   | ret =>
    obtain ⟨p2, hr2, hi3⟩ := hp
    obtain ⟨hr, hl4, hd4, hn4, hR⟩ := fin (some .ret) p2 W3 hr2
    exact ⟨_, _, hr, ⟨_, hR, .inr ⟨rfl, p2, rfl, hn4, .ret, hput (hIx _) _ hi3 hn4.1, hl4, hd4⟩⟩⟩
   | exit id =>
    obtain ⟨p2, hr2, hi3⟩ := hp
    obtain ⟨hr, hl4, hd4, hn4, hR⟩ := fin (some (.exit id)) p2 W3 hr2
    exact ⟨_, _, hr, ⟨_, hR, .inr ⟨rfl, p2, rfl, hn4, .exit id, hput (hIx _) _ hi3 hn4.1, hl4, hd4⟩⟩⟩
   | goto t =>
    obtain ⟨p2, hr2, hi3⟩ := hp
    obtain ⟨hr, hl4, hd4, hn4, hR⟩ := fin (some (.goto t)) p2 W3 hr2
    exact ⟨_, _, hr, ⟨_, hR, .inr ⟨rfl, p2, rfl, hn4, .goto t, hput (hIx _) _ hi3 hn4.1, hl4, hd4⟩⟩⟩
   | panic ch => exact hp.elim
   | outgrown => exact hp.elim
  | exit id => exact hq
  | goto t => exact hq
  | ret => exact hq
  | panic c => exact hq
  | outgrown => exact hq
 ·rintro k (h | h)
  ·have := hp0 k h; omega
  ·omega
 ·intro O X1 X2 hO h1 h2
  refine hHk O X1 X2 (fun k hk => ?_) h1 h2
  rcases hO k hk with (h | h) | h
  ·exact .inl h
  ·exact .inr (by omega)
  ·exact .inr (by omega)
 ·rintro e W2 ⟨⟨v, rfl⟩, pj, (⟨xs, hS, p, rfl, hn, hi, hl, hd⟩ | ⟨pre, hSp, p, rfl, hn, c, hi, hl, hd⟩)⟩
  ·exact ⟨none, _, by have := run_endLoop (P := P) hl (by rw [hrec]; simp); rw [hrec] at this; exact this, hdone _ xs p _ (Nat.le_refl _) hn.2 hS (hput hI _ hi hn.1) ((World.putObj_heap_other (by omega)).trans hd)⟩
  ·exact ⟨some c, _, by have := run_endLoop (P := P) hl (by rw [hrec]; simp); rw [hrec] at this; exact this, hstop _ c pre p _ (Nat.le_refl _) hn.2 hSp (hput (hIx c) _ hi hn.1) ((World.putObj_heap_other (by omega)).trans hd)⟩
end
end Go.Proofs.YtgnooffedmeenaaGreatDoor

namespace Go.Proofs.YtgnooffedmeenaaGreatDoor
open Go.RowKit Go.Maps

def pairV (x y : Int) : Value := .agg #[.int .i64 x, .int .i64 y]
structure PairKey (P : Program) (k : TypeId) : Prop where
 keyed : Keyed P k
 has : ∀ x y : Int, (Lit.int .i64 x).wf = true → (Lit.int .i64 y).wf = true → ∃ l, keyOf P k (pairV x y) = some l
def PMap (P : Program) (k e : TypeId) (b n : Nat) (f : Int → Int → Option Nat) (w : World) : Prop :=
 ∃ D : DataW Unit, w.ownsMap P k (plainElem P e) b n D ∧ IsMap D ∧ ∀ (x y : Int) (l : Lit), keyOf P k (pairV x y) = some l → has D l = (f x y).isSome ∧ D.atKey l (.lit (.int .i64 0)) = .lit (.int .i64 (((f x y).getD 0 : Nat) : Int))
section
variable {P : Program} {k e t : TypeId} {b n : Nat} {f : Int → Int → Option Nat} {w w' : World}
theorem PMap.new (P : Program) (k e : TypeId) (w : World) : PMap P k e w.heap.size 0 (fun _ _ => none) (w.alloc (.map #[] 0)) :=
 ⟨.map [], World.ownsMap_made w P k _, isMap_empty, fun _ _ _ _ => ⟨rfl, rfl⟩⟩
theorem PMap.lt (h : PMap P k e b n f w) : b < w.heap.size := by obtain ⟨_, h, _⟩ := h; exact h.lt
theorem PMap.obj (h : PMap P k e b n f w) : ∃ es c, w.heap[b]? = some (.map es c) := by
 obtain ⟨_, ⟨es, c, hb, _⟩, _⟩ := h
 exact ⟨es, c, hb⟩
theorem PMap.keep {O : Nat → Prop} (h : PMap P k e b n f w) (hk : Keep O w w') (hb : ¬ O b) : PMap P k e b n f w' := by
 obtain ⟨D, ⟨es, c, h0, hr⟩, h2, h3⟩ := h
 exact ⟨D, ⟨es, c, (hk.block b (Array.getElem?_eq_some_iff.1 h0).1 hb).trans h0, hr⟩, h2, h3⟩
theorem PMap.same (h : PMap P k e b n f w) (hb : w'.heap[b]? = w.heap[b]?) : PMap P k e b n f w' := by
 obtain ⟨D, ⟨es, c, h0, hr⟩, h2, h3⟩ := h
 exact ⟨D, ⟨es, c, hb.trans h0, hr⟩, h2, h3⟩
theorem PMap.mono {m : Nat} (h : PMap P k e b n f w) (hm : n ≤ m) : PMap P k e b m f w := by
 obtain ⟨D, h1, h2, h3⟩ := h
 exact ⟨D, h1.mono hm, h2, h3⟩
theorem PMap.congr {g : Int → Int → Option Nat} (h : PMap P k e b n f w) (hg : ∀ x y, g x y = f x y) : PMap P k e b n g w := by
 obtain ⟨D, h1, h2, h3⟩ := h
 exact ⟨D, h1, h2, fun x y l hl => by rw [hg]; exact h3 x y l hl⟩
def setP (f : Int → Int → Option Nat) (x y : Int) (v : Nat) : Int → Int → Option Nat := fun a b => if a = x ∧ b = y then some v else f a b
theorem pairV_inj {a b x y : Int} (h : pairV a b = pairV x y) : a = x ∧ b = y := by
 unfold pairV at h
 injection h with h
 have h1 := congrArg (·[0]?) h
 have h2 := congrArg (·[1]?) h
 simp at h1 h2
 exact ⟨h1, h2⟩
theorem PMap.update (h : PMap P k e b n f w) (K : PairKey P k) (ht : P.underlying t = some (.map k e)) (he : P.underlying e = some (.int .i64)) (hn : n < maxLen) (x y : Int) (v : Nat) (hx : (Lit.int .i64 x).wf = true) (hy : (Lit.int .i64 y).wf = true) (hv : (Lit.int .i64 (v : Int)).wf = true) :
  ∃ w', (Instr.mapUpdate t (.map (some b)) (pairV x y) (.int .i64 (v : Int))).run P w = .ok () w' ∧ PMap P k e b (n + 1) (setP f x y v) w' ∧ w.grownBy w' (some b) := by
 obtain ⟨D, h1, h2, h3⟩ := h
 obtain ⟨kl, hkl⟩ := K.has x y hx hy
 obtain ⟨w', hrun, r1, r2⟩ := h1.update K.keyed ht hn hkl (plainElem_int he hv)
 refine ⟨w', hrun, ⟨_, r1, h2.put _ _, fun a c l hl => ?_⟩, r2⟩
 unfold setP
 by_cases hc : a = x ∧ c = y
 ·obtain ⟨rfl, rfl⟩ := hc
  rw [if_pos ⟨rfl, rfl⟩]
  rw [hkl] at hl
  injection hl with hl
  subst hl
  exact ⟨has_put_same h2 (K.keyed.key hkl) _, atKey_put_same h2 (K.keyed.key hkl) _ _⟩
 ·rw [if_neg hc]
  have hne : l ≠ kl := by
   rintro rfl
   exact hc (pairV_inj (K.keyed.inj hl hkl))
  rw [has_put_other hne, atKey_put_other hne]
  exact h3 a c l hl
theorem PMap.look (h : PMap P k e b n f w) (K : PairKey P k) (ht : P.underlying t = some (.map k e)) (he : P.underlying e = some (.int .i64)) (hz : (zeroValue e).run P w = .ok (.int .i64 0) w) (x y : Int) (hx : (Lit.int .i64 x).wf = true) (hy : (Lit.int .i64 y).wf = true) :
  (Instr.lookup t (.map (some b)) (pairV x y) false).run P w = .ok (.int .i64 (((f x y).getD 0 : Nat) : Int)) w := by
 obtain ⟨D, h1, h2, h3⟩ := h
 obtain ⟨kl, hkl⟩ := K.has x y hx hy
 obtain ⟨c, hrun, hat, _⟩ := h1.lookup_int K.keyed ht he hz hkl
 rw [(h3 x y kl hkl).2] at hat
 injection hat with hat
 injection hat with _ hat
 rw [hat]
 exact hrun
theorem PMap.look_ok (h : PMap P k e b n f w) (K : PairKey P k) (ht : P.underlying t = some (.map k e)) (he : P.underlying e = some (.int .i64)) (hz : (zeroValue e).run P w = .ok (.int .i64 0) w) (x y : Int) (hx : (Lit.int .i64 x).wf = true) (hy : (Lit.int .i64 y).wf = true) :
  (Instr.lookup t (.map (some b)) (pairV x y) true).run P w = .ok (.tuple #[.int .i64 (((f x y).getD 0 : Nat) : Int), .bool (f x y).isSome]) w := by
 obtain ⟨D, h1, h2, h3⟩ := h
 obtain ⟨kl, hkl⟩ := K.has x y hx hy
 obtain ⟨v, ps, hrun, hv⟩ := h1.look_ok K.keyed ht hz (plainElem_int he (by decide)) hkl
 obtain ⟨c, rfl, hc, _⟩ := plainElem_int_inv he hv
 rw [(h3 x y kl hkl).2] at hc
 rw [(h3 x y kl hkl).1] at hrun
 injection hc with hc _
 injection hc with hc
 injection hc with _ hc
 rw [hc]
 exact hrun
end
theorem pair_nil {P : Program} {k e t : TypeId} {w : World} (K : PairKey P k) (ht : P.underlying t = some (.map k e)) (hz : (zeroValue e).run P w = .ok (.int .i64 0) w) (x y : Int) (hx : (Lit.int .i64 x).wf = true) (hy : (Lit.int .i64 y).wf = true) :
  (Instr.lookup t (.map none) (pairV x y) true).run P w = .ok (.tuple #[.int .i64 0, .bool false]) w := by
 obtain ⟨kl, hkl⟩ := K.has x y hx hy
 exact look_nil true K.keyed ht hz hkl
theorem pairKey_of {P : Program} {k : TypeId} (K : Keyed P k) (h : ∀ x y : Int, (Lit.int .i64 x).wf = true → (Lit.int .i64 y).wf = true → ∃ l, keyOf P k (pairV x y) = some l) : PairKey P k := ⟨K, h⟩
end Go.Proofs.YtgnooffedmeenaaGreatDoor

namespace Go.Proofs.YtgnooffedmeenaaGreatDoor.M
open Go.RowKit W

abbrev sv (l : List Bs) : List Value := l.map fun s => .string (str s)
theorem sv_len (l : List Bs) : (sv l).length = l.length := by simp
theorem rd_one {w : World} {T : TypeId} {v : Value} : Rd (w.alloc (.cells #[v] T)) (some ⟨w.heap.size, 0, none⟩) [v] := fun _ =>
 ⟨_, 0, rfl, fun j u hu => by rw [Nat.zero_add, (Blk.new w T #[v]).cell j, ← hu]; simp⟩
theorem sv_at {w : World} {A : Option Addr} {l : List Bs} (h : Rd w A (sv l)) (h0 : 0 < l.length) : ∃ g off, A = some ⟨g, off, none⟩ ∧ ∀ (i : Nat) (hi : i < l.length), w.cell? ⟨g, off + i, none⟩ = some (.string (str l[i])) := by
 obtain ⟨g, off, e, hc⟩ := h (by simpa using h0)
 exact ⟨g, off, e, fun i hi => hc i _ (by simp [hi])⟩
theorem extract_of {S : ByteArray} {s : Bs} (hs : S.data.toList = s) (f k : Nat) : S.extract f k = str ((s.drop f).take (k - f)) := by
 apply ByteArray.ext
 rw [ByteArray.data_extract]
 apply Array.ext'
 rw [Array.toList_extract, hs, List.extract_eq_take_drop]
theorem str_of {S : ByteArray} {s : Bs} (h : S.data.toList = s) : S = str s := by
 subst h
 apply ByteArray.ext
 rfl

end Go.Proofs.YtgnooffedmeenaaGreatDoor.M

namespace Go.Proofs.YtgnooffedmeenaaGreatDoor.M
open Go.RowKit Go.Lib

theorem decN_high (n b0 b1 b2 b3 : Nat) (h0 : 128 ≤ b0) (hn : 1 ≤ n) :
  128 ≤ (decodeN n b0 b1 b2 b3).1 ∧ 1 ≤ (decodeN n b0 b1 b2 b3).2 ∧ (decodeN n b0 b1 b2 b3).2 ≤ n ∧ (decodeN n b0 b1 b2 b3).2 ≤ 4 ∧ (2 ≤ (decodeN n b0 b1 b2 b3).2 → 128 ≤ b1) ∧ (3 ≤ (decodeN n b0 b1 b2 b3).2 → 128 ≤ b2) ∧ (4 ≤ (decodeN n b0 b1 b2 b3).2 → 128 ≤ b3) := by
 unfold decodeN
 repeat' split
 all_goals (simp only; omega)
theorem get_byte {S : ByteArray} {s : Bs} (hs : S.data.toList = s) {k : Nat} (hk : k < s.length) : S.get! k = s[k] := by
 subst hs
 have h : k < S.size := by simpa using hk
 simp [ByteArray.get!, getElem!_pos, h]
def asR (q : UInt8 → Bool) (r : Nat) : Bool := decide (r < 128) && q r.toUInt8
def lowQ (q : UInt8 → Bool) : Prop := ∀ c : UInt8, 128 ≤ c.toNat → q c = false
theorem toU8 (c : UInt8) : c.toNat.toUInt8 = c := by simp
theorem step_at {q : UInt8 → Bool} (hq : lowQ q) {S : ByteArray} {s : Bs} (hs : S.data.toList = s) {k : Nat} (hk : k < s.length) :
  ∃ r w, Utf8.decode S k = (r, w) ∧ 1 ≤ w ∧ k + w ≤ s.length ∧ ((asR q r = true ∧ w = 1 ∧ q s[k] = true ∧ r = s[k].toNat) ∨ (asR q r = false ∧ ∀ c ∈ (s.drop k).take w, q c = false)) := by
 have hsz : S.size = s.length := W.size_of hs
 have g0 := get_byte hs hk
 by_cases h : s[k].toNat < 128
 ·refine ⟨s[k].toNat, 1, ?_, Nat.le_refl _, by omega, ?_⟩
  ·rw [decode_at, g0]
   unfold decodeN
   rw [if_pos h]
  ·have e : asR q s[k].toNat = q s[k] := by unfold asR; rw [toU8, decide_eq_true h]; rfl
   cases hqk : q s[k] with
   | true => exact .inl ⟨by rw [e, hqk], rfl, rfl, rfl⟩
   | false =>
    refine .inr ⟨by rw [e, hqk], fun c hc => ?_⟩
    rw [List.drop_eq_getElem_cons hk] at hc
    rw [List.take_succ_cons, List.take_zero, List.mem_singleton] at hc
    rw [hc]; exact hqk
 ·obtain ⟨h1, h2, h3, h4, h5, h6, h7⟩ := decN_high (S.size - k) (S.get! k).toNat (S.get! (k + 1)).toNat (S.get! (k + 2)).toNat (S.get! (k + 3)).toNat (by rw [g0]; omega) (by omega)
  rw [← decode_at] at h1 h2 h3 h4 h5 h6 h7
  obtain ⟨r, w, e⟩ : ∃ r w, Utf8.decode S k = (r, w) := ⟨_, _, rfl⟩
  rw [e] at h1 h2 h3 h4 h5 h6 h7
  dsimp only at h1 h2 h3 h4 h5 h6 h7
  refine ⟨r, w, e, h2, by omega, .inr ⟨by unfold asR; rw [decide_eq_false (by omega)]; rfl, fun c hc => ?_⟩⟩
  obtain ⟨j, hj, rfl⟩ := List.mem_iff_getElem.1 hc
  simp at hj
  rw [List.getElem_take, List.getElem_drop]
  apply hq
  have hj2 : j = 0 ∨ j = 1 ∨ j = 2 ∨ j = 3 := by omega
  rcases hj2 with rfl | rfl | rfl | rfl
  ·exact by simpa using (by omega : 128 ≤ s[k].toNat)
  ·have := h5 (by omega); rwa [get_byte hs (by omega)] at this
  ·have := h6 (by omega); rwa [get_byte hs (by omega)] at this
  ·have := h7 (by omega); rwa [get_byte hs (by omega)] at this

/-! ### Up to the first one -/

def cutQ (q : UInt8 → Bool) (s : Bs) : Bs := s.takeWhile fun c => !q c
theorem idx_from {q : UInt8 → Bool} (hq : lowQ q) {S : ByteArray} {s : Bs} (hs : S.data.toList = s) : ∀ (f k : Nat), k ≤ s.length → s.length - k ≤ f →
  (idxFuncFrom (asR q) true S f k = -1 ∧ cutQ q (s.drop k) = s.drop k) ∨ (∃ i : Nat, idxFuncFrom (asR q) true S f k = (i : Int) ∧ k ≤ i ∧ i < s.length ∧ cutQ q (s.drop k) = (s.drop k).take (i - k))
 | 0, k, h1, h2 => by
  have : k = s.length := by omega
  subst this
  exact .inl ⟨rfl, by rw [List.drop_length]; rfl⟩
 | f + 1, k, h1, h2 => by
  have hsz : S.size = s.length := W.size_of hs
  by_cases hk : k < s.length
  ·obtain ⟨r, w, e, hw1, hw2, hcase⟩ := step_at hq hs hk
   unfold idxFuncFrom
   rw [if_pos (by omega), e]
   dsimp only
   rcases hcase with ⟨hp, _, hqk, _⟩ | ⟨hp, hall⟩
   ·rw [if_pos hp]
    refine .inr ⟨k, rfl, Nat.le_refl _, hk, ?_⟩
    rw [Nat.sub_self, List.take_zero, List.drop_eq_getElem_cons hk]
    unfold cutQ
    rw [List.takeWhile_cons_of_neg (by rw [hqk]; decide)]
   ·rw [if_neg (by rw [hp]; decide)]
    have hsp : s.drop k = (s.drop k).take w ++ s.drop (k + w) := by
     rw [← List.drop_drop]; exact (List.take_append_drop w _).symm
    have hcut : cutQ q (s.drop k) = (s.drop k).take w ++ cutQ q (s.drop (k + w)) := by
     conv => lhs; rw [hsp]
     unfold cutQ
     rw [List.takeWhile_append_of_pos (fun c hc => by rw [hall c hc]; rfl)]
    rcases idx_from hq hs f (k + w) hw2 (by omega) with ⟨h3, h4⟩ | ⟨i, h3, h4, h5, h6⟩
    ·exact .inl ⟨h3, by rw [hcut, h4]; exact hsp.symm⟩
    ·refine .inr ⟨i, h3, by omega, h5, ?_⟩
     rw [hcut, h6, show i - k = w + (i - (k + w)) by omega, List.take_add, List.drop_drop]
  ·have : k = s.length := by omega
   subst this
   rw [idxFuncFrom_end _ _ _ _ _ (by omega)]
   exact .inl ⟨rfl, by rw [List.drop_length]; rfl⟩
theorem idx_cut {q : UInt8 → Bool} (hq : lowQ q) {S : ByteArray} {s : Bs} (hs : S.data.toList = s) :
  (idxFunc (asR q) true S = -1 ∧ cutQ q s = s) ∨ (∃ i : Nat, idxFunc (asR q) true S = (i : Int) ∧ i < s.length ∧ cutQ q s = s.take i) := by
 have hsz : S.size = s.length := W.size_of hs
 unfold idxFunc
 rcases idx_from hq hs S.size 0 (Nat.zero_le _) (by omega) with ⟨h1, h2⟩ | ⟨i, h1, _, h3, h4⟩
 ·exact .inl ⟨h1, by simpa using h2⟩
 ·exact .inr ⟨i, h1, h3, by simpa using h4⟩

/-! ### Fields -/

theorem low_end : lowQ endB := by
 intro c h
 unfold endB
 rw [decide_eq_false_iff_not]
 rintro (rfl | rfl) <;> exact absurd h (by decide)
theorem low_gap : lowQ gapB := by
 intro c h
 unfold gapB
 rw [decide_eq_false_iff_not]
 rintro (rfl | rfl) <;> exact absurd h (by decide)
theorem wgo_cut : ∀ (s cur : Bs), wgo cur (cutQ endB s) = wgo cur s
 | [], cur => rfl
 | c :: r, cur => by
  unfold cutQ
  cases he : endB c with
  | true => rw [List.takeWhile_cons_of_neg (by rw [he]; decide), wgo_end he]; rfl
  | false =>
   rw [List.takeWhile_cons_of_pos (by rw [he]; decide)]
   cases hg : gapB c with
   | true => rw [wgo_gap he hg, wgo_gap he hg]; rw [show r.takeWhile (fun c => !endB c) = cutQ endB r from rfl, wgo_cut r []]
   | false => rw [wgo_byte he hg, wgo_byte he hg]; exact wgo_cut r _
theorem words_cut (s : Bs) : wordsL (cutQ endB s) = wordsL s := wgo_cut s []
theorem cut_all (q : UInt8 → Bool) (s : Bs) : ∀ c ∈ cutQ q s, q c = false := by
 induction s with
 | nil => intro c hc; cases hc
 | cons x r ih =>
  intro c hc
  unfold cutQ at hc
  cases hq : q x with
  | true => rw [List.takeWhile_cons_of_neg (by rw [hq]; decide)] at hc; cases hc
  | false =>
   rw [List.takeWhile_cons_of_pos (by rw [hq]; decide)] at hc
   rcases List.mem_cons.1 hc with rfl | hc
   ·exact hq
   ·exact ih c hc

def curOf (s : Bs) (pos : Nat) : Option Nat → Bs
 | some a => (s.drop a).take (pos - a)
 | none => []
def okSt (pos : Nat) : Option Nat → Prop
 | some a => a < pos
 | none => True
def outOf (S : ByteArray) (acc : List (Nat × Nat)) : List ByteArray := acc.map fun x => S.extract x.1 x.2
theorem spans_from {S : ByteArray} {s : Bs} (hs : S.data.toList = s) (hno : ∀ c ∈ s, endB c = false) : ∀ (f pos : Nat) (st : Option Nat) (acc : List (Nat × Nat)), pos ≤ s.length → s.length - pos ≤ f → okSt pos st →
  outOf S (closeSpans S (spansFromP (asR gapB) S f pos st acc)) = outOf S acc ++ (wgo (curOf s pos st) (s.drop pos)).map W.str := by
 have hsz : S.size = s.length := W.size_of hs
 have hdone : ∀ (pos : Nat) (st : Option Nat) (acc : List (Nat × Nat)), pos = s.length → okSt pos st → outOf S (closeSpans S (acc, st)) = outOf S acc ++ (wgo (curOf s pos st) (s.drop pos)).map W.str := by
  intro pos st acc hp hok
  subst hp
  rw [List.drop_length, wgo]
  cases st with
  | none =>
   show outOf S acc = outOf S acc ++ (fl []).map W.str
   rw [fl_nil]; simp
  | some a =>
   have ha : a < s.length := hok
   have hne : curOf s s.length (some a) ≠ [] := by
    intro e
    have := congrArg List.length e
    simp [curOf] at this
    omega
   rw [fl_some hne]
   unfold closeSpans outOf
   dsimp only
   rw [List.map_append]
   congr 1
   show [S.extract a S.size] = [W.str (curOf s s.length (some a))]
   rw [extract_of hs, hsz]
   rfl
 intro f
 induction f with
 | zero => intro pos st acc h1 h2 h3; exact hdone pos st acc (by omega) h3
 | succ f ih =>
  intro pos st acc h1 h2 h3
  by_cases hk : pos < s.length
  ·obtain ⟨r, w, e, hw1, hw2, hcase⟩ := step_at low_gap hs hk
   have hen : endB s[pos] = false := hno _ (List.getElem_mem _)
   unfold spansFromP
   rw [if_pos (by omega), e]
   dsimp only
   rcases hcase with ⟨hp, hw, hqk, _⟩ | ⟨hp, hall⟩
   ·subst hw
    rw [if_pos hp]
    cases st with
    | none =>
     dsimp only
     rw [ih (pos + 1) none acc hw2 (by omega) trivial]
     congr 1
     rw [List.drop_eq_getElem_cons hk, wgo_gap hen hqk]
     show (wgo [] _).map W.str = (fl [] ++ wgo [] _).map W.str
     rw [fl_nil, List.nil_append]
    | some a =>
     dsimp only
     have ha : a < pos := h3
     rw [ih (pos + 1) none (acc ++ [(a, pos)]) hw2 (by omega) trivial]
     have hne : curOf s pos (some a) ≠ [] := by
      intro e
      have := congrArg List.length e
      simp [curOf] at this
      omega
     conv => rhs; rw [List.drop_eq_getElem_cons hk, wgo_gap hen hqk, fl_some hne]
     unfold outOf
     rw [List.map_append, List.append_assoc]
     congr 1
     show [S.extract a pos] ++ (wgo [] _).map W.str = ([curOf s pos (some a)] ++ wgo [] _).map W.str
     rw [extract_of hs, List.map_append]
     rfl
   ·rw [if_neg (by rw [hp]; decide)]
    have hsp : s.drop pos = (s.drop pos).take w ++ s.drop (pos + w) := by
     rw [← List.drop_drop]; exact (List.take_append_drop w _).symm
    have hW : ((s.drop pos).take w).all inW = true := by
     rw [List.all_eq_true]
     intro c hc
     rw [inW_iff]
     exact ⟨hno c (List.mem_of_mem_drop (List.mem_of_mem_take hc)), hall c hc⟩
    cases st with
    | none =>
     dsimp only
     rw [ih (pos + w) (some pos) acc hw2 (by omega) (by show pos < pos + w; omega)]
     congr 2
     conv => rhs; rw [hsp, wgo_word hW]
     show wgo ((s.drop pos).take (pos + w - pos)) _ = wgo ([] ++ _) _
     rw [List.nil_append, show pos + w - pos = w by omega]
    | some a =>
     dsimp only
     have ha : a < pos := h3
     rw [ih (pos + w) (some a) acc hw2 (by omega) (by show a < pos + w; omega)]
     congr 2
     conv => rhs; rw [hsp, wgo_word hW]
     congr 1
     show (s.drop a).take (pos + w - a) = (s.drop a).take (pos - a) ++ (s.drop pos).take w
     have e2 : s.drop pos = (s.drop a).drop (pos - a) := by rw [List.drop_drop]; congr 1; omega
     rw [e2, show pos + w - a = (pos - a) + w by omega, List.take_add]
  ·rw [spansFromP_end _ _ _ _ _ _ (by omega)]
   exact hdone pos st acc (by omega) h3
theorem fields_words {S : ByteArray} {s : Bs} (hs : S.data.toList = s) (hno : ∀ c ∈ s, endB c = false) : goFieldsP (asR gapB) S = (wordsL s).map W.str := by
 have h := spans_from hs hno S.size 0 none [] (Nat.zero_le _) (by rw [W.size_of hs]; omega) trivial
 have h2 : outOf S [] = [] := rfl
 rw [h2, List.nil_append, List.drop_zero] at h
 exact h

end Go.Proofs.YtgnooffedmeenaaGreatDoor.M

namespace Go.Proofs.YtgnooffedmeenaaGreatDoor.M
open Go.RowKit Go.Shelf Go.Lib W

def numS (n : Nat) : List Bs → List (Nat × Bs)
 | [] => []
 | s :: r => (n, s) :: numS (n + 1) r
theorem sgo_word {w : Bs} (h : ∀ c ∈ w, c ≠ 10) (cur r : Bs) : sgo cur (w ++ r) = sgo (cur ++ w) r := by
 induction w generalizing cur with
 | nil => simp
 | cons c w ih =>
  rw [List.cons_append, sgo, if_neg (h c (by simp)), ih (fun d hd => h d (List.mem_cons_of_mem _ hd)), List.append_assoc]
  rfl
def isLF (c : UInt8) : Bool := decide (c = 10)
theorem low_lf : lowQ isLF := by
 intro c h
 unfold isLF
 rw [decide_eq_false_iff_not]
 rintro rfl
 exact absurd h (by decide)
theorem asR_lf (r : Nat) : asR isLF r = ((r : Int) == 10) := by
 unfold asR isLF
 rw [Bool.eq_iff_iff, Bool.and_eq_true, decide_eq_true_iff, decide_eq_true_iff, beq_iff_eq]
 constructor
 ·rintro ⟨h, h1⟩
  have := congrArg UInt8.toNat h1; simp at this; omega
 ·intro h
  obtain rfl : r = 10 := by omega
  exact ⟨by omega, rfl⟩
def LeftI (s : Bs) (pre : List (Nat × Bs)) (f k : Nat) : Prop := numS 1 (segs s) = pre ++ numS (pre.length + 1) (sgo ((s.drop f).take (k - f)) (s.drop k))
theorem left_start (s : Bs) : LeftI s [] 0 0 := by unfold LeftI segs; simp
theorem left_byte {s : Bs} {pre : List (Nat × Bs)} {f k w : Nat} (h : LeftI s pre f k) (hf : f ≤ k) (hno : ∀ c ∈ (s.drop k).take w, isLF c = false) : LeftI s pre f (k + w) := by
 unfold LeftI at h ⊢
 rw [h]
 have hsp : s.drop k = (s.drop k).take w ++ s.drop (k + w) := by
  rw [← List.drop_drop]; exact (List.take_append_drop w _).symm
 congr 2
 conv => lhs; rw [hsp]
 rw [sgo_word (fun c hc e => by have := hno c hc; unfold isLF at this; rw [e] at this; exact absurd this (by decide))]
 congr 1
 rw [show k + w - f = (k - f) + w by omega, List.take_add, List.drop_drop, show f + (k - f) = k by omega]
theorem left_line {s : Bs} {pre : List (Nat × Bs)} {f k : Nat} (h : LeftI s pre f k) (hk : k < s.length) (he : isLF s[k] = true) :
  numS 1 (segs s) = pre ++ (pre.length + 1, (s.drop f).take (k - f)) :: numS (pre.length + 1 + 1) (sgo [] (s.drop (k + 1))) := by
 unfold LeftI at h
 rw [h, List.drop_eq_getElem_cons hk, sgo, if_pos (of_decide_eq_true he)]
 rfl
theorem left_next {s : Bs} {pre : List (Nat × Bs)} {x : Bs} {k : Nat} (h : numS 1 (segs s) = pre ++ (pre.length + 1, x) :: numS (pre.length + 1 + 1) (sgo [] (s.drop (k + 1)))) : LeftI s (pre ++ [(pre.length + 1, x)]) (k + 1) (k + 1) := by
 unfold LeftI
 rw [h, Nat.sub_self, List.take_zero, List.length_append, List.append_assoc]
 rfl
theorem left_last {s : Bs} {pre : List (Nat × Bs)} {f k : Nat} (h : LeftI s pre f k) (hk : s.length ≤ k) (hf : f < s.length) : numS 1 (segs s) = pre ++ [(pre.length + 1, s.drop f)] := by
 unfold LeftI at h
 have e : (s.drop f).take (k - f) = s.drop f := List.take_of_length_le (by rw [List.length_drop]; omega)
 rw [h, List.drop_eq_nil_of_le hk, e, sgo, fl_some (fun e => by have := congrArg List.length e; simp at this; omega)]
 rfl
theorem left_none {s : Bs} {pre : List (Nat × Bs)} {f k : Nat} (h : LeftI s pre f k) (hk : s.length ≤ k) (hf : s.length ≤ f) : numS 1 (segs s) = pre := by
 unfold LeftI at h
 rw [h, List.drop_eq_nil_of_le hk, List.drop_eq_nil_of_le hf, List.take_nil, sgo, fl_nil]
 simp [numS]
theorem segs_count (s : Bs) : (segs s).length ≤ s.length := by
 have : ∀ (s cur : Bs), (sgo cur s).length ≤ s.length + (if cur = [] then 0 else 1) := by
  intro s
  induction s with
  | nil => intro cur; rw [sgo]; unfold fl; split <;> simp
  | cons c r ih =>
   intro cur
   by_cases hc : c = 10
   ·subst hc
    rw [sgo, if_pos rfl, List.length_cons, List.length_cons]
    have := ih []
    simp at this
    omega
   ·rw [sgo, if_neg hc]
    have := ih (cur ++ [c])
    rw [if_neg (by simp)] at this
    rw [List.length_cons]
    omega
 have h := this s []
 simp at h
 exact h
theorem numS_length : ∀ (n : Nat) (l : List Bs), (numS n l).length = l.length
 | _, [] => rfl
 | n, x :: r => by rw [numS, List.length_cons, List.length_cons, numS_length]
theorem pre_count {s : Bs} {pre post : List (Nat × Bs)} (h : numS 1 (segs s) = pre ++ post) : pre.length + post.length ≤ s.length := by
 have := congrArg List.length h
 rw [numS_length, List.length_append] at this
 have := segs_count s
 omega

abbrev lnV (x : Nat × Bs) : Array Value := #[.int .i64 (x.1 : Int), .string (str x.2)]
def EnL (s : Bs) (pre : List (Nat × Bs)) (x : Nat × Bs) : Prop := x.1 = pre.length + 1 ∧ ∃ post, numS 1 (segs s) = pre ++ x :: post
def ItI (J : List (Nat × Bs) → BSet → World → Prop) (S : ByteArray) (bx it : Nat) (pre : List (Nat × Bs)) (k : Nat) (W : World) : Prop :=
 ∃ p, J pre p W ∧ ¬ p it ∧ ¬ p bx ∧ W.heap[it]? = some (.stringIter S k) ∧ Blk W bx 9 #[.string S]

theorem step_iter {B : Nat} {p : BSet} {w : World} {it : Nat} {S : ByteArray} {k : Nat} (n : Nat) (h0 : w.heap[it]? = some (.stringIter S k)) (hB : B ≤ it) (hp : ¬ p it) : IStep B p w (w.iterAt it S n) := by
 refine ⟨⟨rfl, rfl, rfl, by rw [Lib.iterAt_size]; exact Nat.le_refl _, fun j _ hn => Lib.iterAt_other _ _ _ _ _ (fun e => by subst e; exact hn ⟨hB, hp⟩)⟩, fun j o hj hc => ?_⟩
 by_cases e : j = it
 ·subst e
  rw [Lib.iterAt_heap _ _ _ _ n h0] at hj
  cases hj; cases hc
 ·rwa [Lib.iterAt_other _ _ _ _ _ e] at hj
theorem ne_bool {r : Nat} (h : asR isLF r = false) : ((r : Int) == 10) = false := by rw [← asR_lf]; exact h
theorem sl_rest {S : ByteArray} {s : Bs} {f : Nat} (hs : S.data.toList = s) : S.extract f S.size = str (s.drop f) := by
 rw [extract_of hs, size_of hs]
 congr 1
 exact List.take_of_length_le (by rw [List.length_drop]; exact Nat.le_refl _)

set_option maxRecDepth 100000 in
set_option maxHeartbeats 4000000 in
theorem lines_stops (m k bx : Nat) (hk : 1 ≤ k) (hmk : m = k - 1) (S : ByteArray) (s : Bs) (hs : Hid (S.data.toList = s)) (hl : S.size ≤ 140000) :
  StopsM Tryz.prog m k 132 #[.pointer (some ⟨bx, 0, none⟩)] lnV bx (.cells #[.string S] 9 (0, 0)) (EnL s) (fun xs => xs = numS 1 (segs s)) (fun pre => ∃ post, numS 1 (segs s) = pre ++ post) := by
 subst hmk
 intro L J Jx p0 W hJ hJx hY h0 hp0 hbx hpb
 have hsz := size_of hs.out
 have HEX := Lib.hid (extract_of hs.out)
 have HY := Lib.hid hY
 have HJ := Lib.hid hJ
 have c1 : W.cell? ⟨bx, 0, none⟩ = some (.string S) := (show Blk W bx 9 #[.string S] from hbx).cell 0
 have hI0 : ItI J S bx W.heap.size [] 0 (W.iter S 0) := ⟨p0, hJ _ _ _ _ h0 (IStep.alloc _ rfl), fun h => Nat.lt_irrefl _ (hp0 _ h), hpb, World.iter_heap W S 0, (show Blk W bx 9 #[.string S] from hbx).alloc _⟩
 clear hY hJ hJx h0 hp0 hbx hpb
 refine callsIn_of_wp Tryz.func132 rfl trivial ?_ rfl
 simp only [Tryz.ntmps132, List.size_toArray, List.length_cons, List.length_nil, Nat.reduceAdd, Nat.reduceSub, Array.replicate_succ, Array.replicate_zero, List.push_toArray, List.append_toArray, List.nil_append, List.cons_append]
 gi_wp2
 gi_loopw [3, 4, 5, 6] (fun vn vf _ _ wr => ∃ (pre : List (Nat × Bs)) (f k n : Nat), vn = .int .i64 (n : Int) ∧ n = pre.length + 1 ∧ vf = .int .i64 (f : Int) ∧ f ≤ k ∧ k ≤ s.length ∧ Hid (LeftI s pre f k) ∧ ItI J S bx W.heap.size pre k wr)
  (fun _ _ _ _ wr => S.size - wr.iterPos W.heap.size)
 case atStart => exact ⟨[], 0, 0, 1, rfl, rfl, rfl, Nat.le_refl _, Nat.zero_le _, left_start s, hI0⟩
 case round =>
  obtain ⟨pre, f, k, n, rfl, hn1, rfl, hfk, hks, hL, p, hJp, hpi, hpb, hit, hB⟩ := hrel
  by_cases hps : k < s.length
  ·obtain ⟨r, w, hd, hw1, hw2, hcase⟩ := step_at low_lf hs.out hps
   have hnx : ∀ ty, (Instr.next (.pointer (some ⟨W.heap.size, 0, none⟩)) true ty).run Tryz.prog wr = _ := fun ty => Lib.run_next_any_at wr W.heap.size S k ty hit (by omega)
   rw [hd] at hnx
   dsimp only at hnx
   have hit2 := Lib.iterAt_heap wr W.heap.size S k (k + w) hit
   have hps1 : wr.iterPos W.heap.size = k := by unfold World.iterPos; rw [hit]
   rcases hcase with ⟨hp, rfl, hq, hr⟩ | ⟨hp, hall⟩
   ·have hten : s[k] = 10 := of_decide_eq_true hq
    obtain rfl : r = 10 := by rw [hr, hten]; rfl
    have hn := left_line hL.out hps hq
    have hJ2 := HJ.out pre p _ _ hJp (step_iter (k + 1) hit (Nat.le_refl _) hpi)
    have hB2 : Blk (wr.iterAt W.heap.size S (k + 1)) bx 9 #[.string S] := (Lib.iterAt_other _ _ _ _ _ (fun e => by subst e; exact absurd (hB.symm.trans hit) (by simp))).trans hB
    have c2 : (wr.iterAt W.heap.size S (k + 1)).cell? ⟨bx, 0, none⟩ = some (.string S) := hB2.cell 0
    rw [← hn1] at hn
    have hY2 := HY.out pre (n, (s.drop f).take (k - f)) p _ hJ2 ⟨hn1, _, hn⟩
    have hx : S.extract f k = str ((s.drop f).take (k - f)) := HEX.out f k
    have HPo : Hid (∃ post, numS 1 (segs s) = (pre ++ [(n, (s.drop f).take (k - f))]) ++ post) := ⟨_, by rw [hn, List.append_assoc]; rfl⟩
    have hcnt : pre.length ≤ 140000 := by have := pre_count hn; omega
    have hn14 : n ≤ 140001 := by omega
    have HN := Lib.hid (left_next (hn1 ▸ hn))
    rw [← hn1] at HN
    have hle : (0 : Int) ≤ (f : Int) ∧ (f : Int) ≤ (k : Int) ∧ (k : Int) ≤ (S.size : Int) := ⟨by omega, by omega, by omega⟩
    have hk14 : k ≤ 140000 := by omega
    dsimp only [lnV] at hY2
    generalize str ((s.drop f).take (k - f)) = T at hx hY2
    generalize (s.drop f).take (k - f) = x at hY2 HN HPo
    clear hp hq hr hten hn hJp hJ2 hL hd hw1 HY
    generalize wr.iterAt W.heap.size S (k + 1) = W2 at *
    have HN1 := Lib.hid hn1
    have HPost := HPo
    clear hn1
    obtain ⟨fn, tmps, assign, body, hy, hR⟩ := hY2
    gi_wp2
    refine hR.mono ?_
    rintro e W3 ⟨p', hrn, ⟨rfl, hJ3⟩ | ⟨rfl, hJx3⟩⟩
    ·have hit3 := (hrn.same (Array.getElem?_eq_some_iff.1 hit2).1 hpi).trans hit2
     have hB3 : Blk W3 bx 9 #[.string S] := (hrn.same hB2.lt hpb).trans hB2
     have hpi3 := hrn.not (Array.getElem?_eq_some_iff.1 hit2).1 hpi
     have hpb3 := hrn.not hB2.lt hpb
     have hps3 : W3.iterPos W.heap.size = k + 1 := by unfold World.iterPos; rw [hit3]
     clear hit2 hB2 hrn hit hB hy hnx
     gi_wp2
     go_roundw
     case rel => exact ⟨_, k + 1, k + 1, n + 1, rfl, by rw [HN1.out]; simp, rfl, Nat.le_refl _, by omega, HN, p', hJ3, hpi3, hpb3, hit3, hB3⟩
     case measure => rw [hps1, hps3]; omega
    ·gi_wp2
     refine bodyPost_ret (results_none rfl _ _ _) rfl ?_
     exact ⟨⟨_, rfl⟩, p', .inr ⟨_, HPost.out, hJx3⟩⟩
   ·have HL := Lib.hid (left_byte hL.out hfk hall)
    have hne := ne_bool hp
    have hJ2 := HJ.out pre p _ _ hJp (step_iter (k + w) hit (Nat.le_refl _) hpi)
    have hB2 : Blk (wr.iterAt W.heap.size S (k + w)) bx 9 #[.string S] := (Lib.iterAt_other _ _ _ _ _ (fun e => by subst e; exact absurd (hB.symm.trans hit) (by simp))).trans hB
    have hps3 : (wr.iterAt W.heap.size S (k + w)).iterPos W.heap.size = k + w := by unfold World.iterPos; rw [hit2]
    clear hp hall hJp hL hd HY
    generalize wr.iterAt W.heap.size S (k + w) = W2 at *
    gi_wp2
    go_roundw
    case rel => exact ⟨pre, f, k + w, n, rfl, hn1, rfl, by omega, hw2, HL, p, hJ2, hpi, hpb, hit2, hB2⟩
    case measure => rw [hps1, hps3]; omega
  ·have hnx : ∀ ty, (Instr.next (.pointer (some ⟨W.heap.size, 0, none⟩)) true ty).run Tryz.prog wr = _ := fun ty => Lib.run_next_end_at wr W.heap.size S k ty hit (by omega)
   have c2 : wr.cell? ⟨bx, 0, none⟩ = some (.string S) := hB.cell 0
   by_cases hf : f < s.length
   ·have hn := left_last hL.out (by omega) hf
    rw [← hn1] at hn
    have hY2 := HY.out pre (n, s.drop f) p _ hJp ⟨hn1, [], hn⟩
    have hx : S.extract f S.size = str (s.drop f) := sl_rest hs.out
    have HN := Lib.hid hn
    have hcnt : pre.length ≤ 140000 := by have := pre_count hn; omega
    have hn14 : n ≤ 140001 := by omega
    have hfS : f < S.size := by omega
    have hle : (0 : Int) ≤ (f : Int) ∧ (f : Int) ≤ (S.size : Int) := ⟨by omega, by omega⟩
    dsimp only [lnV] at hY2
    generalize str (s.drop f) = T at hx hY2
    generalize s.drop f = x at hY2 HN
    clear hn hJp hL HY hn1 hsz
    obtain ⟨fn, tmps, assign, body, hy, hR⟩ := hY2
    gi_wp2
    refine hR.mono ?_
    rintro e W3 ⟨p', hrn, ⟨rfl, hJ3⟩ | ⟨rfl, hJx3⟩⟩
    ·gi_wp2
     go_end0
     exact ⟨⟨_, rfl⟩, p', .inl ⟨_, rfl, by rw [HN.out]; exact hJ3⟩⟩
    ·gi_wp2
     go_end0
     exact ⟨⟨_, rfl⟩, p', .inr ⟨_, ⟨[], by rw [HN.out]; simp⟩, hJx3⟩⟩
   ·have HN := Lib.hid (left_none hL.out (by omega) (by omega))
    have hfS : ¬ f < S.size := by omega
    clear hL HY hsz
    gi_wp2
    go_end0
    exact ⟨⟨_, rfl⟩, p, .inl ⟨_, rfl, by rw [HN.out]; exact hJp⟩⟩

theorem lines_any (S : ByteArray) (w : World) : Calls Tryz.prog 64 #[.string S] w fun e w' =>
  e = .returned (.func (.func 132) #[] #[.pointer (some ⟨w.heap.size, 0, none⟩)]) ∧ w' = w.alloc (.cells #[.string S] 9) := by
 go_enter Tryz.func64, Tryz.ntmps64
 go_wp2
 go_ret
 exact ⟨rfl, rfl⟩

end Go.Proofs.YtgnooffedmeenaaGreatDoor.M

namespace Go.Proofs.YtgnooffedmeenaaGreatDoor.M
open Go.RowKit W

def WordsR (l : List Bs) (w : World) (e : Ending) (w' : World) : Prop :=
 ∃ A c, e = .returned (.slice A l.length c) ∧ Own w' 9 1 (Fresh w) (.slice A l.length c) l.length (sv l) ∧ Keep NoB w w'

end Go.Proofs.YtgnooffedmeenaaGreatDoor.M

namespace Go.Proofs.YtgnooffedmeenaaGreatDoor.M
open Go.RowKit Go.Shelf Go.Lib W

theorem asR_end (r : Nat) : asR endB r = (((r : Int) == 10) || ((r : Int) == 59)) := by
 unfold asR endB
 rw [Bool.eq_iff_iff, Bool.and_eq_true, decide_eq_true_iff, decide_eq_true_iff, Bool.or_eq_true, beq_iff_eq, beq_iff_eq]
 constructor
 ·rintro ⟨h, h1 | h1⟩
  ·left; have := congrArg UInt8.toNat h1; simp at this; omega
  ·right; have := congrArg UInt8.toNat h1; simp at this; omega
 ·rintro (h | h)
  ·obtain rfl : r = 10 := by omega
   exact ⟨by omega, .inl rfl⟩
  ·obtain rfl : r = 59 := by omega
   exact ⟨by omega, .inr rfl⟩
theorem asR_gap (r : Nat) : asR gapB r = (((r : Int) == 32) || ((r : Int) == 9)) := by
 unfold asR gapB
 rw [Bool.eq_iff_iff, Bool.and_eq_true, decide_eq_true_iff, decide_eq_true_iff, Bool.or_eq_true, beq_iff_eq, beq_iff_eq]
 constructor
 ·rintro ⟨h, h1 | h1⟩
  ·left; have := congrArg UInt8.toNat h1; simp at this; omega
  ·right; have := congrArg UInt8.toNat h1; simp at this; omega
 ·rintro (h | h)
  ·obtain rfl : r = 32 := by omega
   exact ⟨by omega, .inl rfl⟩
  ·obtain rfl : r = 9 := by omega
   exact ⟨by omega, .inr rfl⟩
theorem ends_pays (w : World) : PredAt Tryz.prog 134 #[] encR (asR endB) w := fun W r _ => by
 unfold FnGives
 rw [asR_end]
 cases h1 : (r : Int) == 10 <;> cases h2 : (r : Int) == 59
 all_goals
  go_enter Tryz.func134, Tryz.ntmps134
  go_wp2
  go_ret
  exact ⟨rfl, 0, rfl⟩
theorem parts_pays (w : World) : PredAt Tryz.prog 137 #[] encR (asR gapB) w := fun W r _ => by
 unfold FnGives
 rw [asR_gap]
 cases h1 : (r : Int) == 32 <;> cases h2 : (r : Int) == 9
 all_goals
  go_enter Tryz.func137, Tryz.ntmps137
  go_wp2
  go_ret
  exact ⟨rfl, 0, rfl⟩
theorem indexFunc_any (S : ByteArray) (w : World) : Calls Tryz.prog 133 #[.string S, .func (.func 134) #[] #[]] w fun e w' => e = .returned (.int .i64 (idxFunc (asR endB) true S)) ∧ Keep NoB w w' := by
 have H := Tryz.strings_indexFunc 134 #[] (enters_of Tryz.func134 (by kernel_rfl) rfl) (asR endB) true S w (ends_pays w)
 go_enter Tryz.func133, Tryz.ntmps133
 go_wp2_with fail
 refine H.mono ?_
 rintro e w1 ⟨rfl, hb⟩
 go_wp2
 go_ret
 exact ⟨rfl, Keep.of_below hb⟩
theorem clone_any (S : ByteArray) (w : World) (hl : S.size ≤ 140000) : Calls Tryz.prog 136 #[.string S] w fun e w' => e = .returned (.string S) ∧ Keep NoB w w' := by
 have H := Tryz.stringslite_Clone S w (by omega)
 go_enter Tryz.func136, Tryz.ntmps136
 go_wp2_with fail
 refine H.mono ?_
 rintro e w1 ⟨rfl, hb⟩
 go_wp2
 go_ret
 exact ⟨rfl, Keep.of_below hb⟩
theorem fieldsFunc_any (S : ByteArray) (s : Bs) (w : World) (hs : S.data.toList = s) (hno : ∀ c ∈ s, endB c = false) (hl : S.size ≤ 140000) :
  Calls Tryz.prog 135 #[.string S, .func (.func 137) #[] #[]] w (WordsR (wordsL s) w) := by
 have H := Tryz.strings_FieldsFunc 137 #[] (enters_of Tryz.func137 (by kernel_rfl) rfl) (asR gapB) S w (by omega) (parts_pays w)
 rw [fields_words hs hno, List.length_map, List.map_map] at H
 refine H.mono ?_
 rintro e w' ⟨A, rfl, hA, ho, hb⟩
 exact ⟨_, _, rfl, Own.of_row ho (fun k hk => hk), Keep.of_below hb⟩

set_option maxRecDepth 100000 in
set_option maxHeartbeats 2000000 in
theorem words_any (S : ByteArray) (s : Bs) (w : World) (hs : Hid (S.data.toList = s)) (hl : S.size ≤ 140000) :
  Calls Tryz.prog 65 #[.string S] w (WordsR (wordsL s) w) := by
 have H1 := Lib.hid (indexFunc_any S w)
 have hsz := size_of hs.out
 rcases idx_cut low_end hs.out with ⟨h1, h2⟩ | ⟨i, h1, h2, h3⟩
 ·rw [h1] at H1
  have hno : ∀ c ∈ s, endB c = false := by rw [← h2]; exact cut_all endB s
  have H2 := Lib.hid (fun W => clone_any S W hl)
  have H3 := Lib.hid (fun W => fieldsFunc_any S s W hs.out hno hl)
  clear h1 h2 hno
  go_enter Tryz.func65, Tryz.ntmps65
  go_wp2_with fail
  refine H1.out.mono ?_
  rintro e w1 ⟨rfl, k1⟩
  go_wp2_with fail
  refine (H2.out _).mono ?_
  rintro e w2 ⟨rfl, k2⟩
  go_wp2_with fail
  refine (H3.out _).mono ?_
  rintro e w3 ⟨A, c, rfl, ho, k3⟩
  go_wp2
  go_ret
  exact ⟨A, c, rfl, ho.mono (fun k hk _ => Nat.le_trans (keepN k1 k2).size hk), keepN (keepN k1 k2) k3⟩
 ·rw [h1] at H1
  have hx : S.extract 0 i = str (cutQ endB s) := by rw [extract_of hs.out, h3]; simp
  have hno : ∀ c ∈ cutQ endB s, endB c = false := cut_all endB s
  have hc : (str (cutQ endB s)).data.toList = cutQ endB s := by simp
  have hcl : (str (cutQ endB s)).size ≤ 140000 := by rw [size_of hc, h3, List.length_take]; omega
  have H2 := Lib.hid (fun W => clone_any _ W hcl)
  have H3 := Lib.hid (fun W => fieldsFunc_any _ _ W hc hno hcl)
  rw [words_cut] at H3
  have hi : i < S.size := by omega
  clear h1 h2 hno h3 hc hcl
  generalize str (cutQ endB s) = T at *
  have hb : (0 : Int) ≤ (i : Int) := by omega
  go_enter Tryz.func65, Tryz.ntmps65
  go_wp2_with fail
  refine H1.out.mono ?_
  rintro e w1 ⟨rfl, k1⟩
  go_wp2_with fail
  refine (H2.out _).mono ?_
  rintro e w2 ⟨rfl, k2⟩
  go_wp2_with fail
  refine (H3.out _).mono ?_
  rintro e w3 ⟨A, c, rfl, ho, k3⟩
  go_wp2
  go_ret
  exact ⟨A, c, rfl, ho.mono (fun k hk _ => Nat.le_trans (keepN k1 k2).size hk), keepN (keepN k1 k2) k3⟩

end Go.Proofs.YtgnooffedmeenaaGreatDoor.M

namespace Go.Proofs.YtgnooffedmeenaaGreatDoor.M
open Go.RowKit W

theorem bldAt_keep {T e : TypeId} {B b : Nat} {p : Value} {bs : List Value} {w w' : World} (h : Lib.BuilderAtF T e B b p bs w) (hk : Keep NoB w w') : Lib.BuilderAtF T e B b p bs w' := by
 obtain ⟨h1, v, h2, ⟨h3, h4⟩, h5⟩ := h
 have hb := hk.block b (Array.getElem?_eq_some_iff.1 h2).1 id
 refine ⟨h1, v, hb.trans h2, ⟨h3, ?_⟩, h5⟩
 rcases h4 with h4 | ⟨g, cap, cur, fz, e1, e2, e3, e4⟩
 ·exact .inl h4
 ·exact .inr ⟨g, cap, cur, fz, e1, e2, (hk.block g (Array.getElem?_eq_some_iff.1 e3).1 id).trans e3, e4⟩
theorem bld_keep {T e : TypeId} {B b : Nat} {bs : List Value} {w w' : World} (h : Lib.IsBuilderF T e B b bs w) (hk : Keep NoB w w') : Lib.IsBuilderF T e B b bs w' :=
 h.elim (fun h => .inl (bldAt_keep h hk)) (fun h => .inr (bldAt_keep h hk))
theorem str_cells (l : Bs) : Lib.strCells (str l) = Lib.byteCells l := by rw [Lib.strCells_eq]
abbrev Bld (b : Nat) (s : Bs) (w : World) : Prop := Lib.IsBuilderF 122 5 b b (Lib.byteCells s) w
theorem bld_new (w : World) : Bld w.heap.size [] (w.alloc (.cells #[.pointer none, .slice none 0 0] 122)) := Lib.IsBuilderF.of (Lib.fresh_isBuilder 122 5 w)
theorem write_any (b : Nat) (s t : Bs) (S : ByteArray) (w : World) (h : Bld b s w) (hS : S = str t) (hl : s.length + t.length ≤ 140737488355328) (hb : b ≤ w.heap.size) :
  Calls Tryz.prog 66 #[.pointer (some ⟨b, 0, none⟩), .string S] w fun e w' => (∃ u v, e = .returned (.tuple #[u, v])) ∧ Bld b (s ++ t) w' ∧ Below b w w' ∧ Lib.OthersKept 5 (some b) w w' := by
 subst hS
 have hsz : (str t).size = t.length := size_of (by simp)
 refine (Tryz.Builder_WriteString_k b b (Lib.byteCells s) (str t) w h (by rw [Lib.byteCells_length, hsz]; exact hl) hb).mono ?_
 rintro e w' ⟨rfl, h1, h2, h3⟩
 rw [str_cells, ← Lib.byteCells_append] at h1
 exact ⟨⟨_, _, rfl⟩, .inr h1, h2, h3⟩
theorem string_any (b : Nat) (s : Bs) (w : World) (h : Bld b s w) (hb : b ≤ w.heap.size) :
  Calls Tryz.prog 69 #[.pointer (some ⟨b, 0, none⟩)] w fun e w' => e = .returned (.string (str s)) ∧ Bld b s w' ∧ Below b w w' ∧ Lib.OthersKept 5 (some b) w w' :=
 (Tryz.Builder_String_any_k b b s w h hb).mono (by rintro e w' ⟨rfl, h1, h2, h3⟩; exact ⟨rfl, h1, h2, h3⟩)
end Go.Proofs.YtgnooffedmeenaaGreatDoor.M
