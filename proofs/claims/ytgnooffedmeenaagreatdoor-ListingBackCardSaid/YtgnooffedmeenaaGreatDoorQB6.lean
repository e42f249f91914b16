/-
  Part 6 of the proofs of LBackRow, LLabelsRow: what is laid, and what the functions that the law runs answer. Conditions: each theorem names its own.
-/
import Derived.Lib.AtoiBound
import Derived.Lib.DecodeN
import Derived.Lib.IndexBytes
import Derived.Lib.IndexMore
import Derived.Lib.OthersKept
import Derived.Lib.RuneBytes
import Derived.Test.YtgnooffedmeenaaGreatDoorQB5
namespace Go.Proofs.YtgnooffedmeenaaGreatDoor.O
open Go.RowKit

theorem blk_inst {w : World} {g : Nat} {t : TypeId} {a0 a1 a2 : Value} (h : Blk w g t #[a0, a1, a2]) : w.cell? ⟨g, 0, none⟩ = some a0 ∧ w.cell? ⟨g, 1, none⟩ = some a1 ∧ w.cell? ⟨g, 2, none⟩ = some a2 := ⟨h.cell 0, h.cell 1, h.cell 2⟩

end Go.Proofs.YtgnooffedmeenaaGreatDoor.O

namespace Go.Proofs.YtgnooffedmeenaaGreatDoor.O
open Go.RowKit

end Go.Proofs.YtgnooffedmeenaaGreatDoor.O

namespace Go.Proofs.YtgnooffedmeenaaGreatDoor.O
open Go.RowKit

end Go.Proofs.YtgnooffedmeenaaGreatDoor.O

namespace Go.Proofs.YtgnooffedmeenaaGreatDoor.O
open Go.RowKit

def nm (k : Nat) : ByteArray := str (rowAt (k : Int)).name
def findFrom (S : ByteArray) : Nat → Nat → Int
 | 0, _ => -1
 | n + 1, k => if nm k = S then (k : Int) else findFrom S n (k + 1)
def findI (S : ByteArray) : Int := findFrom S 30 0
def ofN (S : ByteArray) : Int := if findI S < 0 then 0 else findI S
def ofE (S : ByteArray) : Int := if findI S < 0 then 40 else 0

end Go.Proofs.YtgnooffedmeenaaGreatDoor.O

namespace Go.Proofs.YtgnooffedmeenaaGreatDoor
open Go.RowKit Go.Shelf

section
variable {P : Program} {n : Nat}

theorem Keep.grows {W W' : World} (h : Keep NoB W W') : W.grownBy W' none := ⟨h.os, h.tape, h.output, h.size, fun k hk _ => h.block k hk id⟩
theorem ownFrom_keeps {β : Type} {B : Nat} {I : β → World → Prop} (hI : OwnFrom B I) {s : β} {W W' : World} (h : I s W) (hk : Keep NoB W W') : I s W' := hI s W W' none h hk.grows (fun r e => by cases e)
theorem keepsFrom_keep {B : Nat} {W W' : World} (hk : Keep NoB W W') : KeepsFrom B W W' := ⟨hk.size, fun k _ _ h _ => (hk.block k (Array.getElem?_eq_some_iff.1 h).1 id).trans h⟩

theorem yieldAt_end {L m : Nat} {r : Loop} {args : Array Value} {W : World} {R : World → Prop} (hl : W.heap[L]? = some (.loop r)) (hr : r.state = .ready) (hp : r.pending = none) (hs : args.size = r.params.size)
  (h : r.assign.wpIn (Fence.wide.inRound L) m P (Exit.then (fun a₁ W₁ => W₁.heap[L]? = some (.loop r) ∧
    r.body.wpIn (Fence.wide.inRound L) m P (fun e _ W₃ => e = .normal ∧ W₃.heap[L]? = some (.loop { r with state := .busy }) ∧ R (W₃.putObj L (.loop r))) a₁ (W₁.putObj L (.loop { r with state := .busy })))
    (fun _ _ _ => False)) { tmps := (r.params.zip args).foldl (fun t (p, v) => t.setIfInBounds p v) r.tmps, defers := [] } W) :
  YieldAt Fence.wide m P L args W fun e W' => e = .returned (.bool true) ∧ R W' := by
 refine ⟨r.fn, _, r.assign, r.body, run_yield hl hs, roundIn_of_wpIn trivial (wpIn_mono h ?_)⟩
 intro e a₁ W₁ hq
 cases e with
 | normal =>
  obtain ⟨h1, h2⟩ := hq
  refine ⟨_, run_beginRound h1 hr, wpIn_mono h2 ?_⟩
  rintro e₃ a₃ W₃ ⟨rfl, h3, h4⟩
  refine ⟨_, _, run_endRound none h3, rfl, ?_⟩
  have hb : ({ r with state := .busy } : Loop) = { r with state := .busy } := rfl
  have he : ({ ({ r with state := .busy } : Loop) with state := if (none : Option Code).isNone then LoopState.ready else .done, pending := none } : Loop) = r := by
   cases r; simp_all
  rw [he]; exact h4
 | exit id => exact hq
 | goto t => exact hq
 | ret => exact hq
 | panic c => exact hq
 | outgrown => exact hq

def Brings {α : Type} (P : Program) (m k : Nat) (gf : Nat) (lb : Array Value) (encs : α → Array Value) (I : List α → World → Prop) (En : List α → α → World → Prop) (S : List α → Prop) : Prop :=
 ∀ (L : Nat) (J : List α → World → Prop), (∀ pre W W', J pre W → Keep NoB W W' → J pre W') → (∀ pre W, J pre W → I pre W) →
  (∀ pre x W, J pre W → En pre x W → YieldAt Fence.wide m P L (encs x) W fun e W' => e = .returned (.bool true) ∧ J (pre ++ [x]) W') →
  ∀ W, J [] W → CallsIn Fence.wide k P gf (#[.func (.yield L) #[] #[]] ++ lb) W fun e W' => (∃ v, e = .returned v) ∧ ∃ xs, S xs ∧ J xs W'

theorem wpIn_rangeFunc_brings {α : Type} {g : Operand} {ps : Array Tmp} {assign body : Code} {Q : Exit → Act → World → Prop} {a : Act} {w : World} {m : Nat}
  {gf : Nat} {lb : Array Value} (hg : a.eval g = .func (.func gf) #[] lb) (eg : ∀ args w, (callFunc gf args).run P w = .ok (.enter gf args) w)
  {encs : α → Array Value} {I : List α → World → Prop} {En : List α → α → World → Prop} {S : List α → Prop} (hit : Brings P m (n - 1) gf lb encs I En S) (hps : ∀ x, (encs x).size = ps.size)
  (hI : OwnFrom w.heap.size I) (h0 : I [] w) (Ax : List α → α → Act → World → Prop) (hAx : ∀ pre x a', OwnFrom w.heap.size (fun (_ : Unit) W => Ax pre x a' W))
  (hassign : ∀ (l : Nat) (pre : List α) (x : α) (W : World), I pre W → En pre x W →
   assign.wpIn (Fence.wide.inRound l) m P (Exit.then (fun a' W' => Ax pre x a' W' ∧ KeepsFrom w.heap.size W W') (fun _ _ _ => False)) { tmps := (ps.zip (encs x)).foldl (fun t (p, v) => t.setIfInBounds p v) a.tmps, defers := [] } W)
  (hbody : ∀ (l : Nat) (pre : List α) (x : α) (a' : Act) (W : World), Ax pre x a' W → body.wpIn (Fence.wide.inRound l) m P (fun e _ W' => e = .normal ∧ I (pre ++ [x]) W' ∧ KeepsFrom w.heap.size W W') a' W)
  (hdone : ∀ (D : Nat) (xs : List α) (W : World), w.heap.size ≤ D → S xs → I xs W → W.heap[D]? = some (.deferred (some [])) → Q .normal { a with defers := { target := .collected D, args := #[] } :: a.defers } W) :
  (Code.rangeFunc g ps assign body).wpIn Fence.wide n P Q a w := by
 refine wpIn_rangeFunc fun fn _ => ?_
 obtain ⟨r, hr⟩ : ∃ r : Loop, r = { state := .ready, pending := none, fn, tmps := a.tmps, params := ps, assign, body, defers := w.heap.size } := ⟨_, rfl⟩
 obtain ⟨W1, hW1⟩ : ∃ W1, (w.alloc (.deferred (some []))).alloc (.loop r) = W1 := ⟨_, rfl⟩
 have hL1 : W1.heap[w.heap.size + 1]? = some (.loop r) := by
  rw [← hW1]; have := World.alloc_heap_new (w.alloc (.deferred (some []))) (.loop r); rwa [World.size_alloc] at this
 have hD1 : W1.heap[w.heap.size]? = some (.deferred (some [])) := by
  rw [← hW1]; exact (Below.heap_alloc _ _ _ (by simp)).trans (World.alloc_heap_new w _)
 refine ⟨w.heap.size + 1, [{ target := .collected w.heap.size, args := #[] }], W1, { target := .fn (.func gf) lb, args := #[.func (.yield (w.heap.size + 1)) #[] #[]] }, W1, gf,
  #[.func (.yield (w.heap.size + 1)) #[] #[]] ++ lb, W1, ?_, ?_, fun _ _ => trivial, ?_, (fun h => by cases h), ?_⟩
 ·rw [← hW1, hr]; exact run_enterLoop_outer _ _ _ _ _
 ·simp only [resolve, hg]
  simp [go_sem]
 ·simp [invoke, go_sem, eg]
 refine (hit (w.heap.size + 1) (fun pre W => I pre W ∧ W.heap[w.heap.size + 1]? = some (.loop r) ∧ W.heap[w.heap.size]? = some (.deferred (some []))) ?_ (fun _ _ h => h.1) ?_ W1 ⟨by rw [← hW1]; exact hI.alloc _ (hI.alloc _ h0), hL1, hD1⟩).mono ?_
 ·rintro pre W W' ⟨h1, h2, h3⟩ hk
  exact ⟨ownFrom_keeps hI h1 hk, (hk.block _ (Array.getElem?_eq_some_iff.1 h2).1 id).trans h2, (hk.block _ (Array.getElem?_eq_some_iff.1 h3).1 id).trans h3⟩
 ·clear hL1 hW1 hD1
  subst hr
  rintro pre x W ⟨h1, h2, h3⟩ hen
  refine yieldAt_end h2 rfl rfl (hps x) ?_
  have ha := hassign (w.heap.size + 1) pre x W h1 hen
  refine wpIn_mono ha ?_
  intro e a₁ Wa hq
  cases e with
  | normal =>
   obtain ⟨hax, hka⟩ := hq
   have l2 := hka.same _ _ (by omega) h2 rfl
   have d2 := hka.same _ _ (Nat.le_refl _) h3 rfl
   refine ⟨l2, ?_⟩
   have lt2 := (Array.getElem?_eq_some_iff.1 l2).1
   refine wpIn_mono (hbody _ pre x a₁ _ ((hAx pre x a₁).putObj (s := ()) _ hax (by omega) l2 rfl)) ?_
   rintro e₃ a₃ W₃ ⟨rfl, h4, h5⟩
   have l3 := h5.same (w.heap.size + 1) _ (by omega) (World.putObj_heap_same lt2) rfl
   have d3 := h5.same w.heap.size _ (Nat.le_refl _) ((World.putObj_heap_other (by omega)).trans d2) rfl
   refine ⟨rfl, l3, hI.putObj _ h4 (by omega) l3 rfl, World.putObj_heap_same (Array.getElem?_eq_some_iff.1 l3).1, (World.putObj_heap_other (by omega)).trans d3⟩
  | exit id => exact hq
  | goto t => exact hq
  | ret => exact hq
  | panic c => exact hq
  | outgrown => exact hq
 ·rintro e W2 ⟨⟨v, rfl⟩, xs, hS, h1, h2, h3⟩
  have hp : r.pending = none := by rw [hr]
  exact ⟨none, _, by have := run_endLoop (P := P) h2 (by rw [hr]; simp); rw [hp] at this; exact this, hdone _ xs _ (Nat.le_refl _) hS (hI.putObj _ h1 (by omega) h2 rfl) ((World.putObj_heap_other (by omega)).trans h3)⟩
end
end Go.Proofs.YtgnooffedmeenaaGreatDoor

namespace Go.Proofs.YtgnooffedmeenaaGreatDoor.O
open Go.RowKit Go.Shelf
attribute [local go_sem] Oper.semAt_some

structure Part where
 k : Int
 n : Int
 sh : Value
 gu : Value
def Part.key (x : Part) : Int × Int := (x.k, x.n)
abbrev partE (x : Part) : Array Value := #[opV x.k x.sh x.gu, .int .i64 x.n]
def partsL (ka kb a b : Int) : List (Int × Int) := if ka = 0 then [] else if kb = 0 then [(ka, a)] else [(ka, a), (kb, b)]
def PartN (ka kb a b : Int) (pre : List Part) (x : Part) (W : World) : Prop := (∃ post, pre.map Part.key ++ x.key :: post = partsL ka kb a b) ∧ FnAt x.k x.sh x.gu W

theorem parts_0 {ka kb a b : Int} (h : ka = 0) : partsL ka kb a b = [] := by unfold partsL; rw [if_pos h]
theorem parts_1 {ka kb a b : Int} (h : ka ≠ 0) (h' : kb = 0) : partsL ka kb a b = [(ka, a)] := by unfold partsL; rw [if_neg h, if_pos h']
theorem parts_2 {ka kb a b : Int} (h : ka ≠ 0) (h' : kb ≠ 0) : partsL ka kb a b = [(ka, a), (kb, b)] := by unfold partsL; rw [if_neg h, if_neg h']

theorem run_index_nums (a b : Int) (w : World) : (Instr.index 350 (.agg #[.int .i64 a, .int .i64 b]) (.int .i64 0)).run Tryz.prog w = .ok (.int .i64 a) w ∧
  (Instr.index 350 (.agg #[.int .i64 a, .int .i64 b]) (.int .i64 1)).run Tryz.prog w = .ok (.int .i64 b) w := by
 have hs : (sizeOf 2).run Tryz.prog w = .ok 1 w := Tryz.sizeOf2 w
 unfold Instr.index
 constructor
 ·simp [run_underlying Tryz.underlying350, asIntOf, hs, part]
 ·simp [run_underlying Tryz.underlying350, asIntOf, hs, part]

set_option maxRecDepth 100000 in
set_option maxHeartbeats 4000000 in
theorem parts1_in (m : Nat) (q : Row) (op a b : Int) (Bx Br : Nat) (hka : 0 ≤ q.ka ∧ q.ka ≤ 10) (hkb : 0 ≤ q.kb ∧ q.kb ≤ 10) (I : List Part → World → Prop)
  (hbx : ∀ pre W, I pre W → Blk W Bx 55 #[.int .i64 op, .int .i64 a, .int .i64 b]) (hbr : ∀ pre W, I pre W → Blk W Br 137 (cells9 q)) :
  Brings Tryz.prog m (m + 1) 299 #[.pointer (some ⟨Bx, 0, none⟩), .pointer (some ⟨Br, 0, none⟩)] partE I (PartN q.ka q.kb a b) (fun xs => xs.map Part.key = partsL q.ka q.kb a b) := by
 intro L J hJk hJI hY W h0
 refine callsIn_of_wp Tryz.func299 rfl trivial ?_ rfl
 simp only [Tryz.ntmps299, List.size_toArray, List.length_cons, List.length_nil, Nat.reduceAdd, Nat.reduceSub, Array.replicate_succ, Array.replicate_zero, List.push_toArray, List.append_toArray, List.nil_append, List.cons_append]
 have x0 := hbx _ _ (hJI _ _ h0)
 have c1 : W.cell? ⟨Bx, 1, none⟩ = some (.int .i64 a) := x0.cell 1
 have c2 : W.cell? ⟨Bx, 2, none⟩ = some (.int .i64 b) := x0.cell 2
 clear x0
 gi_wp2
 gi_loopw [11] (fun i wr => ∃ (k : Nat) (pre : List Part), k ≤ 2 ∧ i = .int .i64 (k : Int) ∧ Hid (pre.map Part.key = [(q.ka, a), (q.kb, b)].take k ∧ (1 ≤ k → q.ka ≠ 0) ∧ (2 ≤ k → q.kb ≠ 0)) ∧ J pre wr)
  (fun i _ => 2 - (intOf i).toNat)
 case atStart => exact ⟨0, [], by omega, rfl, ⟨rfl, fun h => by omega, fun h => by omega⟩, h0⟩
 case round =>
  obtain ⟨k, pre, hk, rfl, HP, hJ⟩ := hrel
  have r0 := hbr _ _ (hJI _ _ hJ)
  have d1 : wr.cell? ⟨Br, 1, none⟩ = some (.int .i64 q.ka) := r0.cell 1
  have d2 : wr.cell? ⟨Br, 2, none⟩ = some (.int .i64 q.kb) := r0.cell 2
  clear r0 c1 c2
  have hix := fun w => run_index_nums a b w
  have hi0 := fun w => (hix w).1
  have hi1 := fun w => (hix w).2
  clear hix
  obtain rfl | rfl | rfl : k = 0 ∨ k = 1 ∨ k = 2 := by omega
  ·by_cases hz : q.ka = 0
   ·have hS : Hid (pre.map Part.key = partsL q.ka q.kb a b) := by show _ = _; rw [HP.out.1, parts_0 hz]; rfl
    have e0 : (q.ka == 0) = true := by rw [beq_iff_eq]; exact hz
    clear HP hz hka hkb
    rw [show ((0 : Nat) : Int) = 0 from rfl]
    gi_wp2
    refine ⟨trivial, ?_⟩
    gi_wp2
    refine ⟨fun _ h => (by cases h), ?_⟩
    gi_wp2
    refine bodyPost_ret (results_none rfl _ _ _) rfl ?_
    exact ⟨⟨_, rfl⟩, pre, hS.out, hJ⟩
   ·have e0 : (q.ka == 0) = false := by rw [beq_eq_false_iff_ne]; exact hz
    have HN : Hid (pre.map Part.key ++ (q.ka, a) :: (if q.kb = 0 then [] else [(q.kb, b)]) = partsL q.ka q.kb a b) := by show _ = _; rw [HP.out.1]; unfold partsL; rw [if_neg hz]; split <;> rfl
    have HQ : Hid (∀ x : Part, x.key = (q.ka, a) → (pre ++ [x]).map Part.key = [(q.ka, a), (q.kb, b)].take 1) := by intro x hx; rw [List.map_append, HP.out.1]; simp [hx]
    have hp1 := HP.out.2.1
    have HZ : Hid ((1 ≤ 1 → q.ka ≠ 0) ∧ (2 ≤ 1 → q.kb ≠ 0)) := ⟨fun _ => hz, fun h => by omega⟩
    clear HP hz hp1
    rw [show ((0 : Nat) : Int) = 0 from rfl]
    gi_wp2_with (refine ⟨trivial, ?_⟩; gi_at_call 216; refine (callsIn_wide.2 (operandOf_any q.ka hka _)).mono ?_; rintro e w1 ⟨sh, gu, rfl, hF, k1⟩; have hJ1 := hJk _ _ _ hJ k1; obtain ⟨fn, tmps, assign, body, hy, hR⟩ := hY pre ⟨q.ka, a, sh, gu⟩ w1 hJ1 ⟨⟨_, HN.out⟩, hF⟩; dsimp only [partE] at hy)
    refine hR.mono ?_
    rintro e W3 ⟨rfl, hJ3⟩
    gi_wp2
    go_roundw
    case rel => exact ⟨1, pre ++ [_], by omega, rfl, ⟨HQ.out _ rfl, HZ.out⟩, hJ3⟩
    case measure => simp [intOf]
  ·by_cases hz : q.kb = 0
   ·have hS : Hid (pre.map Part.key = partsL q.ka q.kb a b) := by show _ = _; rw [HP.out.1, parts_1 (HP.out.2.1 (by omega)) hz]; rfl
    have e0 : (q.kb == 0) = true := by rw [beq_iff_eq]; exact hz
    clear HP hz hka hkb
    rw [show ((1 : Nat) : Int) = 1 from rfl]
    gi_wp2
    refine ⟨trivial, ?_⟩
    gi_wp2
    refine ⟨fun _ h => (by cases h), ?_⟩
    gi_wp2
    refine bodyPost_ret (results_none rfl _ _ _) rfl ?_
    exact ⟨⟨_, rfl⟩, pre, hS.out, hJ⟩
   ·have e0 : (q.kb == 0) = false := by rw [beq_eq_false_iff_ne]; exact hz
    have HN : Hid (pre.map Part.key ++ (q.kb, b) :: [] = partsL q.ka q.kb a b) := by show _ = _; rw [HP.out.1, parts_2 (HP.out.2.1 (by omega)) hz]; rfl
    have HQ : Hid (∀ x : Part, x.key = (q.kb, b) → (pre ++ [x]).map Part.key = [(q.ka, a), (q.kb, b)].take 2) := by intro x hx; rw [List.map_append, HP.out.1]; simp [hx]
    have hp1 := HP.out.2.1
    have HZ : Hid ((1 ≤ 2 → q.ka ≠ 0) ∧ (2 ≤ 2 → q.kb ≠ 0)) := ⟨fun _ => hp1 (by omega), fun _ => hz⟩
    clear HP hz hp1
    rw [show ((1 : Nat) : Int) = 1 from rfl]
    gi_wp2_with (refine ⟨trivial, ?_⟩; gi_at_call 216; refine (callsIn_wide.2 (operandOf_any q.kb hkb _)).mono ?_; rintro e w1 ⟨sh, gu, rfl, hF, k1⟩; have hJ1 := hJk _ _ _ hJ k1; obtain ⟨fn, tmps, assign, body, hy, hR⟩ := hY pre ⟨q.kb, b, sh, gu⟩ w1 hJ1 ⟨⟨_, HN.out⟩, hF⟩; dsimp only [partE] at hy)
    refine hR.mono ?_
    rintro e W3 ⟨rfl, hJ3⟩
    gi_wp2
    go_roundw
    case rel => exact ⟨2, pre ++ [_], by omega, rfl, ⟨HQ.out _ rfl, HZ.out⟩, hJ3⟩
    case measure => simp [intOf]
  ·have hS : Hid (pre.map Part.key = partsL q.ka q.kb a b) := by show _ = _; rw [HP.out.1, parts_2 (HP.out.2.1 (by omega)) (HP.out.2.2 (by omega))]; rfl
   clear HP hka hkb
   rw [show ((2 : Nat) : Int) = 2 from rfl]
   gi_wp2
   go_end0
   exact ⟨⟨_, rfl⟩, pre, hS.out, hJ⟩

end Go.Proofs.YtgnooffedmeenaaGreatDoor.O

namespace Go.Proofs.YtgnooffedmeenaaGreatDoor.O
open Go.RowKit Go.Shelf
attribute [local go_sem] Oper.semAt_some

theorem blk_own {β : Type} (B g : Nat) (t : TypeId) (cs : β → Array Value) : OwnFrom B (fun s W => Blk W g t (cs s)) := by
 intro s X Y row h hg hrow
 refine (hg.block g h.lt (fun e => ?_)).trans h
 obtain ⟨_, o, ho, hc⟩ := hrow g e.symm
 rw [show X.heap[g]? = _ from h] at ho
 cases ho; cases hc
theorem keep_own {β : Type} {B : Nat} {w0 : World} (O : Nat → Prop) (hB : w0.heap.size ≤ B) : OwnFrom B (fun (_ : β) W => Keep O w0 W) := by
 intro s X Y row h hg hrow
 exact h.grown hg (fun g e hl => by have := (hrow g e).1; omega)
theorem fnAt_own {β : Type} (B : Nat) (k : Int) (sh gu : Value) : OwnFrom B (fun (_ : β) W => FnAt k sh gu W) := by
 intro s X Y row h hg hrow
 have hc : ∀ p v, X.cell? p = some v → Y.cell? p = some v := fun p v hp => cell_kept hp hg (fun r e => (hrow r e).2)
 rcases h with h | h | ⟨h, b, c, h1, h2, h3, h4⟩
 ·exact .inl h
 ·exact .inr (.inl h)
 ·exact .inr (.inr ⟨h, b, c, h1, h2, hc _ _ h3, hc _ _ h4⟩)
theorem keepsFrom_one {B g : Nat} {W W' : World} (h : Keep (fun k => k = g) W W') (hg : g < B) : KeepsFrom B W W' :=
 ⟨h.size, fun k _ hk hh _ => (h.block k (Array.getElem?_eq_some_iff.1 hh).1 (fun e => by omega)).trans hh⟩

set_option maxHeartbeats 1000000 in
theorem parts_any (q : Row) (op a b : Int) (w : World) : Calls Tryz.prog 264 #[rowV q, instV op a b] w fun e w' =>
  e = .returned (.func (.func 299) #[] #[.pointer (some ⟨w.heap.size + 1, 0, none⟩), .pointer (some ⟨w.heap.size, 0, none⟩)]) ∧ Blk w' w.heap.size 137 (cells9 q) ∧ Blk w' (w.heap.size + 1) 55 #[.int .i64 op, .int .i64 a, .int .i64 b] ∧ Keep NoB w w' := by
 go_enter Tryz.func264, Tryz.ntmps264
 go_wp2
 go_ret
 have h1 := Blk.new (w.alloc (.cells (cells9 q) 137)) 55 #[.int .i64 op, .int .i64 a, .int .i64 b]
 rw [World.size_alloc] at h1
 exact ⟨rfl, (Blk.new _ _ _).alloc _, h1, ((Keep.refl NoB w).alloc _).alloc _⟩

def textP (l : List (Int × Int)) : List UInt8 := l.flatMap fun x => 32 :: word x.1 x.2
theorem textP_parts (ka kb a b : Int) (h : ka = 0 → kb = 0) : textP (partsL ka kb a b) = partL ka a ++ partL kb b := by
 unfold partsL partL textP
 split
 ·rename_i hz
  rw [if_pos (h hz)]; rfl
 ·split
  ·simp
  ·simp
theorem kinds_none (op : Int) : (rowAt op).ka = 0 → (rowAt op).kb = 0 := by
 have := rowAt_all (p := fun r => decide (r.ka = 0 → r.kb = 0)) (by decide) (by decide) op
 exact of_decide_eq_true this

theorem textP_snoc (l : List (Int × Int)) (x : Int × Int) : textP (l ++ [x]) = textP l ++ 32 :: word x.1 x.2 := by unfold textP; simp
theorem textP_len : ∀ (l : List (Int × Int)), (∀ x ∈ l, I64 x.2) → (textP l).length ≤ 22 * l.length
 | [], _ => Nat.zero_le _
 | x :: l, h => by
  have h1 := word_len x.1 x.2 (h x (by simp))
  have h2 := textP_len l (fun y hy => h y (by simp [hy]))
  have e : textP (x :: l) = (32 :: word x.1 x.2) ++ textP l := by unfold textP; simp
  rw [e]
  simp
  omega
theorem parts_mem {ka kb a b : Int} {x : Int × Int} (h : x ∈ partsL ka kb a b) : x.1 ≠ 0 ∧ (x.2 = a ∨ x.2 = b) := by
 unfold partsL at h
 split at h
 ·cases h
 ·split at h
  ·rename_i h1 h2; simp at h; subst h; exact ⟨h1, .inl rfl⟩
  ·rename_i h1 h2
   simp at h
   rcases h with rfl | rfl
   ·exact ⟨h1, .inl rfl⟩
   ·exact ⟨h2, .inr rfl⟩
theorem parts_len (ka kb a b : Int) : (partsL ka kb a b).length ≤ 2 := by unfold partsL; split <;> (try split) <;> simp
theorem part_facts {ka kb a b : Int} {pre : List Part} {x : Part} {W : World} (h : PartN ka kb a b pre x W) (ha : I64 a) (hb : I64 b) : x.k ≠ 0 ∧ I64 x.n ∧ (textP (pre.map Part.key)).length ≤ 44 := by
 obtain ⟨⟨post, hp⟩, _⟩ := h
 have h64 : ∀ y ∈ partsL ka kb a b, I64 y.2 := fun y hy => by rcases (parts_mem hy).2 with e | e <;> rw [e] <;> assumption
 have hx := parts_mem (x := x.key) (by rw [← hp]; simp)
 have hl := congrArg List.length hp
 have h2 := parts_len ka kb a b
 have hx64 := h64 x.key (by rw [← hp]; simp)
 have ht := textP_len (pre.map Part.key) (fun y hy => h64 y (by rw [← hp]; exact List.mem_append_left _ hy))
 simp at hl ht
 exact ⟨hx.1, hx64, by omega⟩
theorem name_len (op : Int) : (rowAt op).name.length ≤ 7 := by
 have := rowAt_all (p := fun r => decide (r.name.length ≤ 7)) (by decide) (by decide) op
 exact of_decide_eq_true this

theorem Keep_putObj {O : Nat → Prop} {w W : World} {D : Nat} {o : Obj} (h : Keep O w W) (hD : w.heap.size ≤ D) : Keep O w (W.putObj D o) := h.grown (grownBy_putObj' W D o) (fun g e hl => by cases e; omega)
theorem str_sp (s d : List UInt8) : str s ++ ((⟨#[32]⟩ : ByteArray) ++ str d) = str (s ++ 32 :: d) := by
 apply ByteArray.ext
 simp [ByteArray.data_append]

theorem show_end {w2 W w3 : World} {bt : Nat} {cs : Array Value} {t : TypeId} {u : Value} (h : Blk (w3.setCell ⟨bt, 0, none⟩ u) bt t cs) (h2 : Keep (fun k => k = bt) w2 W) (k4 : Keep NoB W w3) (hlt : bt < w2.heap.size) :
  (Exit.normal = Exit.normal) ∧ (Blk (w3.setCell ⟨bt, 0, none⟩ u) bt t cs ∧ Keep (fun k => k = bt) w2 (w3.setCell ⟨bt, 0, none⟩ u)) ∧ KeepsFrom w2.heap.size W (w3.setCell ⟨bt, 0, none⟩ u) :=
 ⟨rfl, ⟨h, (h2.trans k4 (fun _ hf _ => hf.elim)).setCell (fun _ => rfl) _⟩, keepsFrom_one (Keep.setCell (O := fun k => k = bt) (p := ⟨bt, 0, none⟩) (k4.mono (fun _ hf _ => hf.elim)) (fun _ => rfl) u) hlt⟩

def showAct (op a b : Int) (r : Row) (g h : Nat) (x : Part) (Bo : Nat) : Act :=
 { tmps := #[instV op a b, .pointer (some ⟨g, 0, none⟩), .string ⟨#[]⟩, .pointer (some ⟨h, 0, none⟩), .bool true, .pointer (some ⟨h + 1, 0, none⟩), .pointer (some ⟨Bo, 0, none⟩), .int .i64 x.n, .tuple #[rowV r, .bool true],
   instV op a b, .tuple #[rowV r, .bool true], rowV r, .bool true, .bool true, .bool false, .pointer (some ⟨h, 0, none⟩), .string (str r.name), rowV r, instV op a b,
   .func (.func 299) #[] #[.pointer (some ⟨h + 1 + 1 + 1, 0, none⟩), .pointer (some ⟨h + 1 + 1, 0, none⟩)], .agg #[.int .i64 x.k, .int .i64 (lo x.k), .int .i64 (hi x.k), x.sh, x.gu], .int .i64 x.n,
   undef, undef, undef, undef, undef, undef, undef, undef], defers := [] }

set_option maxRecDepth 100000 in
set_option maxHeartbeats 4000000 in
theorem show_yes (op a b : Int) (w : World) (hok : okI op a b = true) (ha : I64 a) (hb : I64 b) (hL : LaidO w) :
  Calls Tryz.prog 211 #[instV op a b] w fun e w' => ∃ d, e = .returned (.string d) ∧ Hid (d = str (textI op a b)) ∧ Keep NoB w w' := by
 obtain ⟨r, hr⟩ : ∃ r, rowAt op = r := ⟨_, rfl⟩
 have hka := kinds_ok op
 have hkn := kinds_none op
 have hnl := name_len op
 have HT : Hid (str (textI op a b) = str (r.name ++ textP (partsL r.ka r.kb a b))) := by show _ = _; unfold textI; rw [hr, textP_parts _ _ _ _ (hr ▸ hkn)]
 have HR := Lib.hid (fun w => rowFor_any op a b r w (by rw [rowR_ok hok]; exact hr))
 rw [hr] at hka hnl
 rw [hok] at HR
 have HA := Lib.hid ha
 have HB := Lib.hid hb
 clear hok hr hkn ha hb
 refine (callsIn_wide (n := 4)).1 ?_
 refine callsIn_of_wp_marks Tryz.func211 rfl trivial ?_ rfl
 simp only [Tryz.ntmps211, List.size_toArray, List.length_cons, List.length_nil, Nat.reduceAdd, Nat.reduceSub, Array.replicate_succ, Array.replicate_zero, List.push_toArray, List.append_toArray, List.nil_append, List.cons_append]
 gi_wp2_with (first
  | (refine ⟨trivial, ?_⟩; gi_at_call 166; refine (callsIn_wide.2 (HR.out _)).mono ?_; rintro e w1 ⟨rfl, k1⟩; have bi := (Blk.new w 55 #[.int .i64 op, .int .i64 a, .int .i64 b]).keep k1 id; have i0 : ∀ o o', ((w1.alloc o).alloc o').cell? ⟨w.heap.size, 0, none⟩ = some (.int .i64 op) := fun o o' => ((bi.alloc o).alloc o').cell 0; have i1 : ∀ o o', ((w1.alloc o).alloc o').cell? ⟨w.heap.size, 1, none⟩ = some (.int .i64 a) := fun o o' => ((bi.alloc o).alloc o').cell 1; have i2 : ∀ o o', ((w1.alloc o).alloc o').cell? ⟨w.heap.size, 2, none⟩ = some (.int .i64 b) := fun o o' => ((bi.alloc o).alloc o').cell 2)
  | (refine ⟨trivial, ?_⟩; gi_at_call 264; refine (callsIn_wide.2 (parts_any r op a b _)).mono ?_; rintro e w2 ⟨rfl, br, bx, k2⟩))
 simp only [World.size_alloc] at br bx
 have hbt := (Blk.new (w1.alloc (.cells (cells9 r) 137)) 9 #[.string (str r.name)]).keep k2 id
 rw [World.size_alloc] at hbt
 have hltb := hbt.lt
 have hKw : Keep NoB w w2 := keepN ((keepN ((Keep.refl NoB w).alloc _) k1).alloc _ |>.alloc _) k2
 have HLw := Lib.hid hL
 have hsz : w.heap.size < w1.heap.size := by have := k1.size; simp at this; omega
 clear hL bi i0 i1 i2 k1 k2
 have hI : OwnFrom w2.heap.size (fun (pre : List Part) W => Blk W (w1.heap.size + 1) 9 #[.string (str (r.name ++ textP (pre.map Part.key)))] ∧ Keep (fun k => k = w1.heap.size + 1) w2 W) :=
  (blk_own w2.heap.size (w1.heap.size + 1) 9 (fun pre : List Part => #[.string (str (r.name ++ textP (pre.map Part.key)))])).and (keep_own _ (Nat.le_refl _))
 refine wpIn_rangeFunc_brings (m := 2) (gf := 299) (lb := #[.pointer (some ⟨w1.heap.size + 1 + 1 + 1, 0, none⟩), .pointer (some ⟨w1.heap.size + 1 + 1, 0, none⟩)]) rfl (enters_of Tryz.func299 (by kernel_rfl) rfl)
  (parts1_in 2 r op a b (w1.heap.size + 1 + 1 + 1) (w1.heap.size + 1 + 1) ⟨hka.1, hka.2.1⟩ hka.2.2 (fun pre W => Blk W (w1.heap.size + 1) 9 #[.string (str (r.name ++ textP (pre.map Part.key)))] ∧ Keep (fun k => k = w1.heap.size + 1) w2 W)
   (fun pre W h => bx.keep h.2 (by omega)) (fun pre W h => br.keep h.2 (by omega))) (fun _ => rfl) hI ⟨by simpa [textP] using hbt, Keep.refl _ _⟩
  (fun pre x a' W => (Blk W (w1.heap.size + 1) 9 #[.string (str (r.name ++ textP (pre.map Part.key)))] ∧ Keep (fun k => k = w1.heap.size + 1) w2 W) ∧ PartN r.ka r.kb a b pre x W ∧ ∃ Bo, Bo ≠ w1.heap.size + 1 ∧ Blk W Bo 256 #[.int .i64 x.k, .int .i64 (lo x.k), .int .i64 (hi x.k), x.sh, x.gu] ∧ a' = showAct op a b r w.heap.size w1.heap.size x Bo) ?hax ?assign ?body ?done
 case hax =>
  rintro pre x a' s X Y row ⟨h1, ⟨h2, h3⟩, Bo, h4, h5, h6⟩ hg hrow
  exact ⟨hI _ _ _ _ h1 hg hrow, ⟨h2, fnAt_own (β := Unit) _ _ _ _ () _ _ _ h3 hg hrow⟩, Bo, h4, blk_own (β := Unit) _ _ _ (fun _ => _) () _ _ _ h5 hg hrow, h6⟩
 case assign =>
  rintro l pre ⟨k, n, sh, gu⟩ W hi hen
  have hne : W.heap.size ≠ w1.heap.size + 1 := by have := hi.1.lt; omega
  have hen2 := Lib.hid hen
  have hi2 := Lib.hid hi
  have hk0 := (part_facts hen HA.out HB.out).1
  rcases hen.2 with ⟨h0, _⟩ | ⟨_, h1, h2⟩ | ⟨_, b1, c1, h1, h2, _, _⟩
  ·exact absurd h0 hk0
  all_goals
   simp only at h1 h2
   subst h1 h2
   clear hen hi
   dsimp only [partE, opV]
   gi_wp2
   exact ⟨⟨⟨hi2.out.1.alloc _, hi2.out.2.alloc _⟩, ⟨hen2.out.1, hen2.out.2.keep ((Keep.refl NoB W).alloc _)⟩, W.heap.size, hne, Blk.new W _ _, rfl⟩, keepsFrom_keep ((Keep.refl NoB W).alloc _)⟩
 case body =>
  rintro l pre ⟨k, n, sh, gu⟩ a' W ⟨hi, hen, Bo, hne, bo, rfl⟩
  obtain ⟨hk0, hn, htl⟩ := part_facts hen HA.out HB.out
  have hKW : Keep NoB w W := hKw.trans hi.2 (fun k e hl => by subst e; omega)
  have hSz : (str (r.name ++ textP (pre.map Part.key))).size ≤ 60 := by rw [_root_.Go.Proofs.YtgnooffedmeenaaGreatDoor.W.size_of (s := r.name ++ textP (pre.map Part.key)) (by simp), List.length_append]; omega
  have HS : Hid (str (r.name ++ textP ((pre ++ [(⟨k, n, sh, gu⟩ : Part)]).map Part.key)) = str (r.name ++ textP (pre.map Part.key)) ++ ((⟨#[32]⟩ : ByteArray) ++ str (word k n))) := by
   show _ = _
   rw [str_sp, List.map_append]
   simp only [List.map_cons, List.map_nil]
   rw [textP_snoc, List.append_assoc]
   rfl
  have hWd : (str (word k n)).size ≤ 21 := by rw [_root_.Go.Proofs.YtgnooffedmeenaaGreatDoor.W.size_of (s := word k n) (by simp)]; exact word_len k n hn
  have hlt := hi.1.lt
  obtain ⟨D, hD⟩ : ∃ D, str (word k n) = D := ⟨_, rfl⟩
  rw [hD] at HS hWd
  generalize str (r.name ++ textP (pre.map Part.key)) = S at hi hSz HS
  have ct : W.cell? ⟨w1.heap.size + 1, 0, none⟩ = some (.string S) := hi.1.cell 0
  have ft := hi.1.frozen 0
  have hB := Lib.hid hi
  clear hi htl
  rcases hen.2 with ⟨h0, _⟩ | ⟨hd, h1, h2⟩ | ⟨hd, b1, c1, h1, h2, hb1, _⟩
  ·exact absurd h0 hk0
  ·simp only at h1 h2 hd
   subst h1 h2
   have HC := Lib.hid (fun (W' : World) (hk : Keep NoB W W') => (show_dig k n W' hd hn (HLw.out.keep (keepN hKW hk))).mono (R' := fun e w' => e = .returned (.string D) ∧ Keep NoB W' w') (fun _ _ ⟨d, he, hd', hk'⟩ => ⟨by rw [he, hd'.out, hD], hk'⟩))
   have co : W.cell? ⟨Bo, 3, none⟩ = some (fnV 304) := bo.cell 3
   clear hen hd hk0 bo hD
   dsimp only [showAct]
   have hmix : Tryz.prog.follows .mixedOrders = true := by kernel_rfl
   have q1 : ¬ 9223372036854775807 < 1 + D.size := by omega
   have q2 : ¬ 9223372036854775807 < S.size + (1 + D.size) := by omega
   gi_wp2
   gi_region_with_o (refine ⟨trivial, ?_⟩; gi_at_call 304; refine (CallsIn.inRound l (callsIn_wide.2 (HC.out _ (by first | exact Keep.refl _ _ | exact (Keep.refl _ _).drew | exact (Keep.refl _ _).drew.drew)))).mono ?_; rintro e w3 ⟨rfl, k3⟩; have k4 : Keep NoB W w3 := ⟨k3.os, k3.tape, k3.output, k3.size, k3.block⟩; have b3 : Blk w3 (w1.heap.size + 1) 9 #[.string S] := hB.out.1.keep k4 id; have c3 : w3.cell? ⟨w1.heap.size + 1, 0, none⟩ = some (.string S) := b3.cell 0; have f3 : w3.frozen? ⟨w1.heap.size + 1, 0, none⟩ = false := b3.frozen 0)
   all_goals
    have hf : Blk (w3.setCell ⟨w1.heap.size + 1, 0, none⟩ (.string (S ++ ((⟨#[32]⟩ : ByteArray) ++ D)))) (w1.heap.size + 1) 9 #[.string (S ++ ((⟨#[32]⟩ : ByteArray) ++ D))] := b3.put 0 _
    rw [← HS.out] at hf ⊢
    exact show_end hf hB.out.2 k4 hltb
  ·simp only at h1 h2 hd
   subst h1 h2
   have HC := Lib.hid (fun (W' : World) (hk : Keep NoB W W') => (show_word k n b1 W' hd hn (HLw.out.keep (keepN hKW hk)) (hk.cell hb1 id)).mono (R' := fun e w' => e = .returned (.string D) ∧ Keep NoB W' w') (fun _ _ ⟨d, he, hd', hk'⟩ => ⟨by rw [he, hd'.out, hD], hk'⟩))
   have co : W.cell? ⟨Bo, 3, none⟩ = some (boxV 308 b1) := bo.cell 3
   clear hen hd hk0 bo hD hb1
   dsimp only [showAct]
   have hmix : Tryz.prog.follows .mixedOrders = true := by kernel_rfl
   have q1 : ¬ 9223372036854775807 < 1 + D.size := by omega
   have q2 : ¬ 9223372036854775807 < S.size + (1 + D.size) := by omega
   gi_wp2
   gi_region_with_o (refine ⟨trivial, ?_⟩; gi_at_call 308; refine (CallsIn.inRound l (callsIn_wide.2 (HC.out _ (by first | exact Keep.refl _ _ | exact (Keep.refl _ _).drew | exact (Keep.refl _ _).drew.drew)))).mono ?_; rintro e w3 ⟨rfl, k3⟩; have k4 : Keep NoB W w3 := ⟨k3.os, k3.tape, k3.output, k3.size, k3.block⟩; have b3 : Blk w3 (w1.heap.size + 1) 9 #[.string S] := hB.out.1.keep k4 id; have c3 : w3.cell? ⟨w1.heap.size + 1, 0, none⟩ = some (.string S) := b3.cell 0; have f3 : w3.frozen? ⟨w1.heap.size + 1, 0, none⟩ = false := b3.frozen 0)
   all_goals
    have hf : Blk (w3.setCell ⟨w1.heap.size + 1, 0, none⟩ (.string (S ++ ((⟨#[32]⟩ : ByteArray) ++ D)))) (w1.heap.size + 1) 9 #[.string (S ++ ((⟨#[32]⟩ : ByteArray) ++ D))] := b3.put 0 _
    rw [← HS.out] at hf ⊢
    exact show_end hf hB.out.2 k4 hltb
 case done =>
  rintro D xs W hD hS hi hK
  have ct := hi.1.cell 0
  simp only [List.getElem?_toArray, List.getElem?_cons_zero] at ct
  gi_wp2
  refine ⟨by simp, .inl ⟨_, _, rfl, run_takeDeferred hK, ?_⟩⟩
  refine ⟨_, results_tmp rfl _ _ _, _, rfl, ?_, Keep_putObj (hKw.trans hi.2 (fun k e hl => by subst e; omega)) (Nat.le_trans hKw.size hD)⟩
  show _ = _
  rw [HT.out]

end Go.Proofs.YtgnooffedmeenaaGreatDoor.O

namespace Go.Proofs.YtgnooffedmeenaaGreatDoor.W
open Go.Lib

def pI (l : List UInt8) : Int := match atoiAll l with | .ok v => v | .range => atoiSat l | _ => 0
def w64 (n : Int) : Int := (n + 9223372036854775808) % 18446744073709551616 - 9223372036854775808
def gN (t : Int) (s : List UInt8) : Int := if s = [110, 105, 108] then 0 else w64 (pI (trimPrefix s (sgn t)) + off t)
def rd (t : Int) (s : List UInt8) : Option Int := if showL t (gN t s) = s then some (gN t s) else none

theorem pI_bounds (l : List UInt8) : -9223372036854775808 ≤ pI l ∧ pI l ≤ 9223372036854775807 := by
 unfold pI
 rcases h : atoiAll l with v | _ | _
 ·obtain ⟨b1, b2⟩ := Lib.atoiAll_bounds h
  simp only
  omega
 ·simp
 ·simp only [atoiSat]; split <;> omega
/-! ### The document's own way of reading -/

end Go.Proofs.YtgnooffedmeenaaGreatDoor.W

namespace Go.Proofs
open Go.Shelf
def Tryz.lays166_ren : Go.Shelf.Ren := ⟨fun | 166 => 66 | 240 => 138 | 276 => 203 | n => n, fun | 0 => 0 | 3 => 3 | 4 => 4 | 5 => 5 | 9 => 9 | 20 => 20 | 37 => 120 | 70 => 119 | 72 => 122 | 75 => 128 | 80 => 74 | 164 => 244 | n => n, fun  | n => n⟩
theorem Tryz.lays166 : Go.Proofs.Lays.n166 Tryz.prog Tryz.lays166_ren := {
 mixed := by kernel_rfl
 f166 := Tryz.func66.trans (congrArg some (by kernel_rfl))
 f240 := Tryz.func138.trans (congrArg some (by kernel_rfl))
 f276 := Tryz.func203.trans (congrArg some (by kernel_rfl))
 t0 := Tryz.underlying0
 a0 := Tryz.isAgg0
 z0 := Tryz.sizeOf0
 v0 := Tryz.zeroValue0
 t3 := Tryz.underlying3
 a3 := Tryz.isAgg3
 z3 := Tryz.sizeOf3
 v3 := Tryz.zeroValue3
 t4 := Tryz.underlying4
 a4 := Tryz.isAgg4
 z4 := Tryz.sizeOf4
 v4 := Tryz.zeroValue4
 t9 := Tryz.underlying9
 a9 := Tryz.isAgg9
 z9 := Tryz.sizeOf9
 v9 := Tryz.zeroValue9
 t20 := Tryz.underlying20
 a20 := Tryz.isAgg20
 z20 := Tryz.sizeOf20
 v20 := Tryz.zeroValue20
 t37 := Tryz.underlying120
 a37 := Tryz.isAgg120
 z37 := Tryz.sizeOf120
 v37 := Tryz.zeroValue120
 t70 := Tryz.underlying119
 a70 := Tryz.isAgg119
 z70 := Tryz.sizeOf119
 v70 := Tryz.zeroValue119
 t72 := Tryz.underlying122
 a72 := Tryz.isAgg122
 z72 := Tryz.sizeOf122
 v72 := Tryz.zeroValue122
 t75 := Tryz.underlying128
 a75 := Tryz.isAgg128
 z75 := Tryz.sizeOf128
 v75 := Tryz.zeroValue128
 t164 := Tryz.underlying244
 a164 := Tryz.isAgg244
 z164 := Tryz.sizeOf244
 v164 := Tryz.zeroValue244 }
theorem Tryz.Builder_Extra_166 : Builder.Extra Tryz.prog Tryz.lays166_ren := {
 sizeBuilder := by kernel_rfl
 liesBuilder := by kernel_rfl
 t5 := Tryz.underlying5
 a5 := Tryz.isAgg5
 z5 := Tryz.sizeOf5
 v5 := Tryz.zeroValue5
 infoByte := by kernel_rfl
 cellsByte := by kernel_rfl
 sizeByte := by kernel_rfl
 neB5 := by decide }
def Tryz.lays168_ren : Go.Shelf.Ren := ⟨fun | 168 => 68 | 240 => 138 | 242 => 140 | 276 => 203 | 278 => 205 | n => n, fun | 0 => 0 | 3 => 3 | 4 => 4 | 5 => 5 | 9 => 9 | 20 => 20 | 21 => 21 | 37 => 120 | 46 => 203 | 51 => 247 | 70 => 119 | 72 => 122 | 75 => 128 | 80 => 74 | 164 => 244 | n => n, fun  | n => n⟩
theorem Tryz.lays168 : Go.Proofs.Lays.n168 Tryz.prog Tryz.lays168_ren := {
 mixed := by kernel_rfl
 f168 := Tryz.func68.trans (congrArg some (by kernel_rfl))
 f240 := Tryz.func138.trans (congrArg some (by kernel_rfl))
 f242 := Tryz.func140.trans (congrArg some (by kernel_rfl))
 f276 := Tryz.func203.trans (congrArg some (by kernel_rfl))
 f278 := Tryz.func205.trans (congrArg some (by kernel_rfl))
 t0 := Tryz.underlying0
 a0 := Tryz.isAgg0
 z0 := Tryz.sizeOf0
 v0 := Tryz.zeroValue0
 t3 := Tryz.underlying3
 a3 := Tryz.isAgg3
 z3 := Tryz.sizeOf3
 v3 := Tryz.zeroValue3
 t4 := Tryz.underlying4
 a4 := Tryz.isAgg4
 z4 := Tryz.sizeOf4
 v4 := Tryz.zeroValue4
 t5 := Tryz.underlying5
 a5 := Tryz.isAgg5
 z5 := Tryz.sizeOf5
 v5 := Tryz.zeroValue5
 t9 := Tryz.underlying9
 a9 := Tryz.isAgg9
 z9 := Tryz.sizeOf9
 v9 := Tryz.zeroValue9
 t20 := Tryz.underlying20
 a20 := Tryz.isAgg20
 z20 := Tryz.sizeOf20
 v20 := Tryz.zeroValue20
 t21 := Tryz.underlying21
 a21 := Tryz.isAgg21
 z21 := Tryz.sizeOf21
 v21 := Tryz.zeroValue21
 t37 := Tryz.underlying120
 a37 := Tryz.isAgg120
 z37 := Tryz.sizeOf120
 v37 := Tryz.zeroValue120
 t46 := Tryz.underlying203
 a46 := Tryz.isAgg203
 z46 := Tryz.sizeOf203
 v46 := Tryz.zeroValue203
 t51 := Tryz.underlying247
 a51 := Tryz.isAgg247
 z51 := Tryz.sizeOf247
 v51 := Tryz.zeroValue247
 t70 := Tryz.underlying119
 a70 := Tryz.isAgg119
 z70 := Tryz.sizeOf119
 v70 := Tryz.zeroValue119
 t72 := Tryz.underlying122
 a72 := Tryz.isAgg122
 z72 := Tryz.sizeOf122
 v72 := Tryz.zeroValue122
 t75 := Tryz.underlying128
 a75 := Tryz.isAgg128
 z75 := Tryz.sizeOf128
 v75 := Tryz.zeroValue128
 t164 := Tryz.underlying244
 a164 := Tryz.isAgg244
 z164 := Tryz.sizeOf244
 v164 := Tryz.zeroValue244 }
theorem Tryz.Builder_Extra_168 : Builder.Extra Tryz.prog Tryz.lays168_ren := {
 sizeBuilder := by kernel_rfl
 liesBuilder := by kernel_rfl
 t5 := Tryz.underlying5
 a5 := Tryz.isAgg5
 z5 := Tryz.sizeOf5
 v5 := Tryz.zeroValue5
 infoByte := by kernel_rfl
 cellsByte := by kernel_rfl
 sizeByte := by kernel_rfl
 neB5 := by decide }
open Go.RowKit in
theorem Tryz.Builder_WriteString_k (B b : Nat) (bs : List Value) (s : ByteArray) (w : World) (h : Lib.IsBuilderF 122 5 B b bs w) (hlen : bs.length + s.size ≤ 140737488355328) (hBw : B ≤ w.heap.size) :
  Calls Tryz.prog 66 #[.pointer (some ⟨b, 0, none⟩), .string s] w fun e w' => e = .returned (.tuple #[.int .i64 s.size, .nilIface]) ∧ (Lib.BuilderAtF 122 5 B b (.pointer (some ⟨b, 0, none⟩)) (bs ++ Lib.strCells s) w' ∧ Below B w w' ∧ Lib.OthersKept 5 (some b) w w') := Any.Builder_WriteString_k Tryz.lays166 Tryz.Builder_Extra_166 B b bs s w h hlen hBw
open Go.RowKit in
theorem Tryz.Builder_WriteRune_k (B b : Nat) (bs : List Value) (r : Int) (hr0 : -2147483648 ≤ r) (hr1 : r ≤ 2147483647) (w : World) (h : Lib.IsBuilderF 122 5 B b bs w) (hlen : bs.length + 4 ≤ 140737488355328) (hBw : B ≤ w.heap.size) :
  Calls Tryz.prog 68 #[.pointer (some ⟨b, 0, none⟩), .int .i32 r] w fun e w' => e = .returned (.tuple #[.int .i64 (Lib.runeCells r).length, .nilIface]) ∧ (Lib.BuilderAtF 122 5 B b (.pointer (some ⟨b, 0, none⟩)) (bs ++ Lib.runeCells r) w' ∧ Below B w w' ∧ Lib.OthersKept 5 (some b) w w') := Any.Builder_WriteRune_k Tryz.lays168 Tryz.Builder_Extra_168 B b bs r hr0 hr1 w h hlen hBw
end Go.Proofs

namespace Go.Proofs.YtgnooffedmeenaaGreatDoor.W
open Go.RowKit

theorem rune_let {t : Int} (h : knownB t = true) : ∃ r : Int, letV[t.toNat]? = some (.int .i32 r) ∧ 0 ≤ t ∧ t ≤ 4 ∧ -2147483648 ≤ r ∧ r ≤ 2147483647 ∧ Lib.runeCells r = Lib.byteCells (letC t) := by
 rcases known_cases h with rfl | rfl | rfl | rfl
 ·exact ⟨73, rfl, by decide, by decide, by decide, by decide, rfl⟩
 ·exact ⟨82, rfl, by decide, by decide, by decide, by decide, rfl⟩
 ·exact ⟨70, rfl, by decide, by decide, by decide, by decide, rfl⟩
 ·exact ⟨80, rfl, by decide, by decide, by decide, by decide, rfl⟩

theorem bc_append (a b : List UInt8) : Lib.byteCells a ++ Lib.byteCells b = Lib.byteCells (a ++ b) := by simp [Lib.byteCells]

set_option maxRecDepth 100000 in
set_option maxHeartbeats 4000000 in
theorem text_any (A : Option Addr) (l : List Int) (n c : Nat) (w : World) (hL : LetAt w) (ha : Rd w A (ivs l)) (hn : Hid (l.length = n)) (h1 : n ≤ 9223372036854775807) :
  Calls Tryz.prog 146 #[.slice A n c] w fun e w' => e = .returned (.string (str (txt l))) ∧ Keep NoB w w' := by
 by_cases hlong : 1024 < n
 ·have HT := Lib.hid (txt_long (l := l) (by rw [hn.out]; exact hlong))
  go_enter Tryz.func146, Tryz.ntmps146
  go_wp2
  go_ret
  exact ⟨by rw [HT.out]; rfl, Keep.refl _ _⟩
 ·go_enter Tryz.func146, Tryz.ntmps146
  go_wp2
  have hI0 : Lib.IsBuilderF 122 5 w.heap.size w.heap.size (Lib.byteCells ((l.take 0).flatMap letC)) (w.alloc (.cells #[.pointer none, .slice none 0 0] 122)) := Lib.IsBuilderF.of (Lib.fresh_isBuilder 122 5 w)
  have hb0 : Below w.heap.size w (w.alloc (.cells #[.pointer none, .slice none 0 0] 122)) := (Below.refl _ w).alloc (Nat.le_refl _) _
  go_loopw [11] (fun i wr => ∃ k : Nat, k ≤ n ∧ i = .int .i64 k ∧ Lib.IsBuilderF 122 5 w.heap.size w.heap.size (Lib.byteCells ((l.take k).flatMap letC)) wr ∧ Hid ((l.take k).all knownB = true) ∧ Below w.heap.size w wr) (fun i _ => n - (intOf i).toNat)
  case atStart => exact ⟨0, Nat.zero_le _, rfl, hI0, rfl, hb0⟩
  case round =>
   obtain ⟨k, hk, rfl, hI, hall, hB⟩ := hrel
   clear hI0 hb0
   by_cases hlt : k < n
   ·have hka : k < l.length := by rw [hn.out]; exact hlt
    obtain ⟨g, off, rfl, hc⟩ := rdI_at ha (by omega)
    have hKr : Keep NoB w wr := Keep.of_below hB
    have ca := hKr.cell (hc k hka) id
    have hLr := hL.keep hKr
    clear hc
    have HT := Lib.hid (show l.take (k + 1) = l.take k ++ [l[k]] from List.take_succ_eq_append_getElem hka)
    have HM := Lib.hid (List.getElem_mem hka)
    generalize l[k] = t at ca HT HM
    cases hkn : knownB t
    ·have HX : Hid (txt l = []) := txt_bad (by rw [List.all_eq_false]; exact ⟨t, HM.out, by simp [hkn]⟩)
     go_wp2_with (go_at_call 161; refine (known_any _ _).mono ?_; rintro e w' ⟨rfl, rfl⟩)
     go_ret
     exact ⟨by rw [HX.out]; rfl, hKr⟩
    ·have hall2 : Hid ((l.take (k + 1)).all knownB = true) := by show _ = _; rw [HT.out, List.all_append, hall.out]; simp [hkn]
     obtain ⟨r, hr, ht0, ht4, hr0, hr1, hrc⟩ := rune_let hkn
     have HRC := Lib.hid hrc
     have HFM : Hid (Lib.byteCells ((l.take (k + 1)).flatMap letC) = Lib.byteCells ((l.take k).flatMap letC) ++ Lib.runeCells r) := by show _ = _; rw [HT.out, HRC.out, bc_append]; simp
     have hlen : (Lib.byteCells ((l.take k).flatMap letC)).length + 4 ≤ 140737488355328 := by
      rw [Lib.byteCells_length, flat_let_length _ hall.out, List.length_take]; omega
     obtain ⟨tn, rfl⟩ := Int.eq_ofNat_of_zero_le ht0
     have cl : wr.cell? ⟨1, tn, none⟩ = some (.int .i32 r) := (hLr.cell tn).trans (by simpa using hr)
     clear hrc hr HT HM hall HRC ha
     go_wp2_with (first
      | (go_at_call 161; refine (known_any _ _).mono ?_; rintro e w' ⟨rfl, rfl⟩)
      | (go_at_call 68; refine (Tryz.Builder_WriteRune_k w.heap.size w.heap.size _ r hr0 hr1 wr hI hlen hB.size).mono ?_; rintro e w2 ⟨rfl, hI2, hb2, -⟩))
     go_roundw
     case rel => exact ⟨k + 1, by omega, by go_num, by rw [HFM.out]; exact .inr hI2, hall2, hB.trans hb2⟩
     case measure => simp [intOf]; omega
   ·obtain rfl : k = n := by omega
    rw [List.take_of_length_le (by rw [hn.out]; omega)] at hI hall
    have HX : Hid (l.flatMap letC = txt l) := by show _ = _; unfold txt; rw [if_pos ⟨by rw [hn.out]; omega, hall.out⟩]
    have hall' := hall.out
    have H := Lib.hid hall'
    clear hall hall'
    rw [HX.out] at hI
    go_wp2_with (go_at_call 69; refine (Tryz.Builder_String_any_k w.heap.size w.heap.size (txt l) wr hI hB.size).mono ?_; rintro e w2 ⟨rfl, -, hb2, -⟩)
    go_ret
    exact ⟨rfl, Keep.of_below (hB.trans hb2)⟩

end Go.Proofs.YtgnooffedmeenaaGreatDoor.W

namespace Go.Proofs.YtgnooffedmeenaaGreatDoor.W
open Go.RowKit

def letZ (k : Nat) : Int := if k = 1 then 73 else if k = 2 then 82 else if k = 3 then 70 else if k = 4 then 80 else 0
def unletZ (r : Int) : Int := if r = 73 then 1 else if r = 82 then 2 else if r = 70 then 3 else if r = 80 then 4 else 0
theorem unletZ_byte (c : UInt8) : unletZ (c.toNat : Int) = unlet c := by
 have e : ∀ d : UInt8, ((c.toNat : Int) = (d.toNat : Int)) ↔ c = d := fun d => ⟨fun h => UInt8.toNat_inj.1 (by omega), fun h => by rw [h]⟩
 unfold unletZ unlet
 have h1 := e 73; have h2 := e 82; have h3 := e 70; have h4 := e 80
 simp only [show ((73 : UInt8).toNat : Int) = 73 from rfl, show ((82 : UInt8).toNat : Int) = 82 from rfl, show ((70 : UInt8).toNat : Int) = 70 from rfl, show ((80 : UInt8).toNat : Int) = 80 from rfl] at h1 h2 h3 h4
 simp only [h1, h2, h3, h4]
theorem unletZ_big {r : Int} (h : 128 ≤ r) : unletZ r = 0 := by unfold unletZ; rw [if_neg (by omega), if_neg (by omega), if_neg (by omega), if_neg (by omega)]
theorem unletZ_hit {k : Nat} {r : Int} (h1 : 1 ≤ k) (h2 : k < 5) (h : letZ k = r) : unletZ r = k := by
 subst h
 obtain rfl | rfl | rfl | rfl : k = 1 ∨ k = 2 ∨ k = 3 ∨ k = 4 := by omega
 all_goals rfl
theorem unletZ_miss {r : Int} (h : ∀ j, 1 ≤ j → j < 5 → letZ j ≠ r) : unletZ r = 0 := by
 have h1 := h 1 (by omega) (by omega)
 have h2 := h 2 (by omega) (by omega)
 have h3 := h 3 (by omega) (by omega)
 have h4 := h 4 (by omega) (by omega)
 have e1 : letZ 1 = 73 := rfl
 have e2 : letZ 2 = 82 := rfl
 have e3 : letZ 3 = 70 := rfl
 have e4 : letZ 4 = 80 := rfl
 unfold unletZ
 rw [if_neg (by omega), if_neg (by omega), if_neg (by omega), if_neg (by omega)]
theorem letZ_cell {w : World} (h : LetAt w) {k : Nat} (h1 : 1 ≤ k) (h2 : k < 5) : w.cell? ⟨1, k, none⟩ = some (.int .i32 (letZ k)) := by
 rw [h.cell k]
 obtain rfl | rfl | rfl | rfl : k = 1 ∨ k = 2 ∨ k = 3 ∨ k = 4 := by omega
 all_goals rfl

set_option maxHeartbeats 1000000 in
theorem lettered_any (r : Int) (w : World) (h : LetAt w) :
  Calls Tryz.prog 293 #[.int .i32 r] w fun e w' => e = .returned (.tuple #[.int .i64 (unletZ r), .bool (decide (unletZ r ≠ 0))]) ∧ w = w' := by
 go_enter Tryz.func293, Tryz.ntmps293
 go_wp2
 go_loop [4] (fun i => ∃ k : Nat, 1 ≤ k ∧ k ≤ 5 ∧ i = .int .i64 k ∧ Hid (∀ j, 1 ≤ j → j < k → letZ j ≠ r)) (fun i => 5 - (intOf i).toNat)
 case atStart => exact ⟨1, by omega, by omega, rfl, fun j h1 h2 => by omega⟩
 case round =>
  obtain ⟨k, hk1, hk5, rfl, hm⟩ := hrel
  by_cases hlt : k < 5
  ·have c := letZ_cell h hk1 hlt
   by_cases he : letZ k = r
   ·have HU := Lib.hid (unletZ_hit hk1 hlt he)
    have he' : (letZ k == r) = true := by rw [beq_iff_eq]; exact he
    clear he
    go_wp2
    go_ret2
    exact ⟨by rw [HU.out]; congr 3; simp; omega, rfl⟩
   ·have he' : (letZ k == r) = false := by rw [beq_eq_false_iff_ne]; exact he
    have hm2 : Hid (∀ j, 1 ≤ j → j < k + 1 → letZ j ≠ r) := fun j h1 h2 => by
     rcases Nat.lt_or_ge j k with h3 | h3
     ·exact hm.out j h1 h3
     ·obtain rfl : j = k := by omega
      exact he
    clear he
    go_wp2
    go_round
    case rel => exact ⟨k + 1, by omega, by omega, by go_num, hm2⟩
    case measure => simp [intOf]; omega
  ·obtain rfl : k = 5 := by omega
   have HU := Lib.hid (unletZ_miss hm.out)
   go_wp2
   go_ret2
   exact ⟨by rw [HU.out]; rfl, rfl⟩

theorem decode_big (s : ByteArray) (i : Nat) (h : 128 ≤ (s.get! i).toNat) : 128 ≤ (Utf8.decode s i).1 := by
 rw [Lib.decode_at]
 have hb : (s.get! i).toNat < 256 := (s.get! i).toNat_lt
 generalize (s.get! i).toNat = b0 at h hb
 unfold Lib.decodeN
 repeat' split
 all_goals first | omega | (simp only; omega)

theorem own_iter {w : World} {E size n : Nat} {O : Nat → Prop} {v : Value} {xs : List Value} (h : Own w E size O v n xs) {k pos : Nat} {s : ByteArray} (hk : w.heap[k]? = some (.stringIter s pos)) : v.ownBlock ≠ some k := by
 rcases h.1.2 with ⟨rfl, _⟩ | ⟨g, cap, cur, rfl, _, hg, _⟩
 ·simp [Value.ownBlock]
 ·intro e
  have : g = k := by simpa [Value.ownBlock] using e
  subst this
  rw [hk] at hg; cases hg
theorem _root_.Go.Proofs.YtgnooffedmeenaaGreatDoor.Own.iterAt {w : World} {E size n : Nat} {O : Nat → Prop} {v : Value} {xs : List Value} (h : Own w E size O v n xs) {k pos : Nat} {s : ByteArray} (hk : w.heap[k]? = some (.stringIter s pos)) (pos' : Nat) : Own (w.iterAt k s pos') E size O v n xs := by
 have hne := own_iter h hk
 refine ⟨⟨h.1.1, ?_⟩, h.2⟩
 rcases h.1.2 with h2 | ⟨g, cap, cur, rfl, hb, hh, r⟩
 ·exact .inl h2
 ·exact .inr ⟨g, cap, cur, rfl, hb, (Lib.iterAt_other w k g s pos' (fun e => hne (by rw [e]; rfl))).trans hh, r⟩
theorem _root_.Go.Proofs.YtgnooffedmeenaaGreatDoor.Keep.iterAt {w w' : World} (h : Keep NoB w w') {k : Nat} (hk : w.heap.size ≤ k) (s : ByteArray) (pos : Nat) : Keep NoB w (w'.iterAt k s pos) := Keep.of_below (Lib.below_iterAt h.toBelow hk s pos)

def tN (s : List UInt8) : Nat := if (untxt s).isSome = true then s.length else 0
def tL (s : List UInt8) : List Int := (untxt s).getD []
def tE (s : List UInt8) : Int := if (untxt s).isSome = true then 0 else 20
theorem untxt_none {s : List UInt8} (h : ¬ (s.length ≤ 1024 ∧ (s.all fun c => decide (unlet c ≠ 0)) = true)) : untxt s = none := by unfold untxt; rw [if_neg h]
theorem untxt_some {s : List UInt8} (h1 : s.length ≤ 1024) (h2 : (s.all fun c => decide (unlet c ≠ 0)) = true) : untxt s = some (s.map unlet) := by unfold untxt; rw [if_pos ⟨h1, h2⟩]
theorem tL_length (s : List UInt8) : (tL s).length = tN s := by
 unfold tL tN
 by_cases h : s.length ≤ 1024 ∧ (s.all fun c => decide (unlet c ≠ 0)) = true
 ·rw [untxt_some h.1 h.2]; simp
 ·rw [untxt_none h]; simp
def TypesR (w : World) (s : List UInt8) (e : Ending) (w' : World) : Prop :=
 ∃ B d, e = .returned (.tuple #[.slice B (tN s) d, .int .i64 (tE s)]) ∧ Own w' 3 1 (Fresh w) (.slice B (tN s) d) (tN s) (ivs (tL s)) ∧ Keep NoB w w'
theorem types_none {w w' : World} {s : List UInt8} (h : untxt s = none) (hK : Keep NoB w w') : TypesR w s (.returned (.tuple #[.slice none 0 0, .int .i64 20])) w' := by
 have e1 : tN s = 0 := by unfold tN; rw [h]; rfl
 have e2 : tL s = [] := by unfold tL; rw [h]; rfl
 have e3 : tE s = 20 := by unfold tE; rw [h]; rfl
 unfold TypesR
 rw [e1, e2, e3]
 exact ⟨none, 0, rfl, Own.nil _ _ _ _, hK⟩
theorem types_some {w w' : World} {s : List UInt8} {B : Option Addr} {d : Nat} (h : untxt s = some (s.map unlet)) (hO : Own w' 3 1 (Fresh w) (.slice B s.length d) s.length (ivs (s.map unlet))) (hK : Keep NoB w w') :
  TypesR w s (.returned (.tuple #[.slice B s.length d, .int .i64 0])) w' := by
 have e1 : tN s = s.length := by unfold tN; rw [h]; rfl
 have e2 : tL s = s.map unlet := by unfold tL; rw [h]; rfl
 have e3 : tE s = 0 := by unfold tE; rw [h]; rfl
 unfold TypesR
 rw [e1, e2, e3]
 exact ⟨B, d, rfl, hO, hK⟩

end Go.Proofs.YtgnooffedmeenaaGreatDoor.W

namespace Go.Proofs.YtgnooffedmeenaaGreatDoor.O

theorem byte_at {r : List UInt8} : ∀ {s : List UInt8}, (∀ c ∈ s, c ≠ 32) → Lib.indexByte (s ++ 32 :: r) 32 = (s.length : Int)
 | [], _ => by simp [Lib.indexByte]
 | b :: s, h => by
  have ih := byte_at (r := r) (s := s) (fun c hc => h c (by simp [hc]))
  have hb : (b == 32) = false := by rw [beq_eq_false_iff_ne]; exact h b (by simp)
  have hn : (((s.length : Nat) : Int) == -1) = false := by rw [beq_eq_false_iff_ne]; omega
  rw [List.cons_append, Lib.indexByte, hb, ih, hn]
  simp
theorem byte_none : ∀ {s : List UInt8}, (∀ c ∈ s, c ≠ 32) → Lib.indexByte s 32 = -1
 | [], _ => rfl
 | b :: s, h => by
  have ih := byte_none (s := s) (fun c hc => h c (by simp [hc]))
  have hb : (b == 32) = false := by rw [beq_eq_false_iff_ne]; exact h b (by simp)
  rw [Lib.indexByte, hb, ih]
  simp
theorem cut_at {s r : List UInt8} (h : ∀ c ∈ s, c ≠ 32) : Lib.cut (s ++ 32 :: r) [32] = (s, r, true) := by
 have e : Lib.index (s ++ 32 :: r) [32] = (s.length : Int) := by rw [Lib.index_one, byte_at h]
 have e2 : s ++ 32 :: r = (s ++ [32]) ++ r := by simp
 unfold Lib.cut
 rw [e, if_pos (by omega), Int.toNat_natCast, List.take_left]
 have e3 : (s ++ 32 :: r).drop (s.length + [(32 : UInt8)].length) = r := by
  rw [e2]
  have : s.length + [(32 : UInt8)].length = (s ++ [32]).length := by simp
  rw [this, List.drop_left]
 rw [e3]
theorem cut_none {s : List UInt8} (h : ∀ c ∈ s, c ≠ 32) : Lib.cut s [32] = (s, [], false) := by
 unfold Lib.cut
 rw [Lib.index_one, byte_none h]
 rfl
theorem cut_word {s r : List UInt8} (h : ∀ c ∈ s, c ≠ 32) (hr : r = [] ∨ ∃ r', r = 32 :: r') : (Lib.cut (s ++ r) [32]).1 = s ∧ (Lib.cut (s ++ r) [32]).2.1 = r.drop 1 := by
 rcases hr with rfl | ⟨r', rfl⟩
 ·rw [List.append_nil, cut_none h]; exact ⟨rfl, rfl⟩
 ·rw [cut_at h]; exact ⟨rfl, rfl⟩
theorem cut_len (s : List UInt8) : (Lib.cut s [32]).1.length ≤ s.length ∧ (Lib.cut s [32]).2.1.length ≤ s.length := by
 unfold Lib.cut
 split
 ·simp; omega
 ·simp

/-! ### Names -/

theorem str_inj {s t : List UInt8} (h : str s = str t) : s = t := by
 have := congrArg (fun x : ByteArray => x.data.toList) h
 simpa using this
theorem find_spec (S : ByteArray) : ∀ n k, (findFrom S n k = -1 ∧ ∀ j, k ≤ j → j < k + n → nm j ≠ S) ∨ (∃ j : Nat, k ≤ j ∧ j < k + n ∧ findFrom S n k = (j : Int) ∧ nm j = S)
 | 0, k => .inl ⟨rfl, fun j h1 h2 => by omega⟩
 | n + 1, k => by
  by_cases h : nm k = S
  ·exact .inr ⟨k, Nat.le_refl _, by omega, by rw [findFrom, if_pos h], h⟩
  ·rw [findFrom, if_neg h]
   rcases find_spec S n (k + 1) with ⟨h1, h2⟩ | ⟨j, h1, h2, h3, h4⟩
   ·refine .inl ⟨h1, fun j h3 h4 => ?_⟩
    by_cases e : j = k
    ·rw [e]; exact h
    ·exact h2 j (by omega) (by omega)
   ·exact .inr ⟨j, by omega, by omega, h3, h4⟩
theorem findI_spec (S : ByteArray) : (findI S = -1 ∧ ∀ op : Int, isOp op = true → str (rowAt op).name ≠ S) ∨ (isOp (findI S) = true ∧ str (rowAt (findI S)).name = S) := by
 rcases find_spec S 30 0 with ⟨h1, h2⟩ | ⟨j, _, h2, h3, h4⟩
 ·refine .inl ⟨h1, fun op ho e => ?_⟩
  have hb := isOp_yes ho
  refine h2 op.toNat (Nat.zero_le _) (by omega) ?_
  unfold nm
  rw [show ((op.toNat : Nat) : Int) = op by omega]
  exact e
 ·refine .inr ?_
  have e : findI S = (j : Int) := h3
  rw [e]
  exact ⟨decide_eq_true (by omega), h4⟩
theorem findI_of {op : Int} (h : isOp op = true) : findI (str (rowAt op).name) = op := by
 rcases findI_spec (str (rowAt op).name) with ⟨_, h2⟩ | ⟨h1, h2⟩
 ·exact absurd rfl (h2 op h)
 ·exact name_inj h1 h (str_inj h2)
theorem name_ne (op : Int) (h : isOp op = true) : (rowAt op).name ≠ [] := by
 obtain ⟨hk, e⟩ := rowAt_yes h
 rw [e]
 have := List.all_eq_true.1 (show rowsL.all (fun r => decide (r.name ≠ [])) = true by decide) _ (List.getElem_mem hk)
 exact of_decide_eq_true this

/-! ### Operands -/

def ltrI (s : List UInt8) : Int := if W.tE s = 0 ∧ W.tN s = 1 then (W.tL s).getD 0 0 else 0
def gK (k : Int) (s : List UInt8) : Int := if digK k = true then W.pI s else if k = 8 then A.ofI A.binNs s else if k = 9 then A.ofI A.unNs s else if k = 2 ∨ k = 3 then ltrI s else 0
theorem gK_word {k n : Int} (hk : 0 ≤ k ∧ k ≤ 10) (h0 : k ≠ 0) (hn : inK k n = true) : gK k (word k n) = n := by
 have hb := in_bounds hn
 have hd := of_decide_eq_true hn
 cases h : digK k
 ·have hc : k = 2 ∨ k = 3 ∨ k = 8 ∨ k = 9 := by have := of_decide_eq_false h; omega
  rcases hc with rfl | rfl | rfl | rfl
  ·have e1 : lo 2 = 1 := rfl
   have e2 : hi 2 = 4 := rfl
   have hn : n = 1 ∨ n = 2 ∨ n = 3 ∨ n = 4 := by omega
   rcases hn with rfl | rfl | rfl | rfl <;> decide +kernel
  ·have e1 : lo 3 = 1 := rfl
   have e2 : hi 3 = 3 := rfl
   have hn : n = 1 ∨ n = 2 ∨ n = 3 := by omega
   rcases hn with rfl | rfl | rfl <;> decide +kernel
  ·have e1 : lo 8 = 0 := rfl
   have e2 : hi 8 = 13 := rfl
   have : ∀ j : Fin 14, gK 8 (word 8 (j.1 : Int)) = (j.1 : Int) := by decide +kernel
   have := this ⟨n.toNat, by omega⟩
   rw [show ((n.toNat : Nat) : Int) = n by omega] at this
   exact this
  ·have e1 : lo 9 = 0 := rfl
   have e2 : hi 9 = 8 := rfl
   have : ∀ j : Fin 9, gK 9 (word 9 (j.1 : Int)) = (j.1 : Int) := by decide +kernel
   have := this ⟨n.toNat, by omega⟩
   rw [show ((n.toNat : Nat) : Int) = n by omega] at this
   exact this
 ·unfold gK
  rw [if_pos h, word_dig h]
  unfold W.pI
  rw [W.atoi_itoa _ hb.1.1 hb.1.2]
theorem ofI_bounds (l : List (List UInt8)) (s : List UInt8) (hl : l.length ≤ 1000) : 0 ≤ A.ofI l s ∧ A.ofI l s ≤ 1000 := by
 unfold A.ofI
 split
 ·rename_i h
  have := List.idxOf_lt_length_of_mem h
  omega
 ·omega
theorem unlet_bounds (c : UInt8) : 0 ≤ W.unlet c ∧ W.unlet c ≤ 4 := by
 unfold W.unlet
 repeat' split
 all_goals omega
theorem ltrI_bounds (s : List UInt8) : 0 ≤ ltrI s ∧ ltrI s ≤ 4 := by
 unfold ltrI
 split
 ·unfold W.tL W.untxt
  split
  ·rcases s with _ | ⟨c, r⟩
   ·simp
   ·exact unlet_bounds c
  ·simp
 ·omega
theorem gK_bounds (k : Int) (s : List UInt8) : I64 (gK k s) := by
 unfold gK I64
 split
 ·exact W.pI_bounds s
 ·split
  ·have := ofI_bounds A.binNs s (by decide); omega
  ·split
   ·have := ofI_bounds A.unNs s (by decide); omega
   ·split
    ·have := ltrI_bounds s; omega
    ·omega

def gA (op : Int) (t : List UInt8) : Int := if (rowAt op).ka = 0 then 0 else gK (rowAt op).ka (Lib.cut t [32]).1
def gB (op : Int) (t : List UInt8) : Int := if (rowAt op).kb = 0 then 0 else gK (rowAt op).kb (Lib.cut t [32]).2.1
theorem gA_bounds (op : Int) (t : List UInt8) : I64 (gA op t) := by
 unfold gA
 split
 ·unfold I64; omega
 ·exact gK_bounds _ _
theorem gB_bounds (op : Int) (t : List UInt8) : I64 (gB op t) := by
 unfold gB
 split
 ·unfold I64; omega
 ·exact gK_bounds _ _

theorem text_cut {op a b : Int} :
  (Lib.cut (textI op a b) [32]).1 = (rowAt op).name ∧ (Lib.cut (textI op a b) [32]).2.1 = (partL (rowAt op).ka a ++ partL (rowAt op).kb b).drop 1 := by
 unfold textI
 refine cut_word (name_no op) ?_
 rcases part_sp (rowAt op).ka a with e | ⟨r, e⟩
 ·rw [e]; exact part_sp (rowAt op).kb b
 ·rw [e]; exact .inr ⟨_, rfl⟩
theorem guess_hit {op a b : Int} (h : okI op a b = true) : gA op (Lib.cut (textI op a b) [32]).2.1 = a ∧ gB op (Lib.cut (textI op a b) [32]).2.1 = b := by
 obtain ⟨ho, hA, hB⟩ := ok_op h
 have hk := kinds_ok op
 have hn := kinds_none op
 rw [text_cut.2]
 unfold gA gB
 by_cases h0 : (rowAt op).ka = 0
 ·have h1 := hn h0
  rw [if_pos h0, if_pos h1]
  rw [h0] at hA
  rw [h1] at hB
  exact ⟨((in_bounds hA).2.2 rfl).symm, ((in_bounds hB).2.2 rfl).symm⟩
 ·rw [if_neg h0]
  have e1 : partL (rowAt op).ka a = 32 :: word (rowAt op).ka a := by unfold partL; rw [if_neg h0]
  rw [e1, List.cons_append, List.drop_succ_cons, List.drop_zero]
  have hc := cut_word (word_no (rowAt op).ka a) (part_sp (rowAt op).kb b)
  rw [hc.1, hc.2]
  refine ⟨gK_word ⟨hk.1, hk.2.1⟩ h0 hA, ?_⟩
  by_cases h1 : (rowAt op).kb = 0
  ·rw [if_pos h1]
   rw [h1] at hB
   exact ((in_bounds hB).2.2 rfl).symm
  ·rw [if_neg h1]
   have e2 : partL (rowAt op).kb b = 32 :: word (rowAt op).kb b := by unfold partL; rw [if_neg h1]
   rw [e2, List.drop_succ_cons, List.drop_zero]
   exact gK_word ⟨hk.2.2.1, hk.2.2.2⟩ h1 hB

def ReadV (s : List UInt8) (v : Value) : Prop :=
 (∃ op a b, okI op a b = true ∧ textI op a b = s ∧ v = .tuple #[instV op a b, .int .i64 0]) ∨ ((∀ op a b, okI op a b = true → textI op a b ≠ s) ∧ v = .tuple #[instV 0 0 0, .int .i64 40])
theorem read_nameless {s : List UInt8} (h : findI (str (Lib.cut s [32]).1) < 0) : ReadV s (.tuple #[instV 0 0 0, .int .i64 40]) := by
 refine .inr ⟨fun op a b hok e => ?_, rfl⟩
 subst e
 rw [text_cut.1, findI_of (ok_op hok).1] at h
 have := isOp_yes (ok_op hok).1
 omega
theorem read_yes {s : List UInt8} {op a b : Int} (hop : isOp op = true) (hn : str (rowAt op).name = str (Lib.cut s [32]).1) (h : showI op a b = s) : ReadV s (.tuple #[instV op a b, .int .i64 0]) := by
 cases hok : okI op a b
 ·unfold showI at h
  rw [if_neg (by rw [hok]; decide)] at h
  subst h
  exact absurd (str_inj hn) (name_ne op hop)
 ·unfold showI at h
  rw [if_pos hok] at h
  exact .inl ⟨op, a, b, hok, h, rfl⟩
theorem read_no {s : List UInt8} (op a b : Int) (hop : op = findI (str (Lib.cut s [32]).1)) (h : ∀ x y, okI op x y = true → textI op x y = s → a = x ∧ b = y) (hs : showI op a b ≠ s) :
  ReadV s (.tuple #[instV 0 0 0, .int .i64 40]) := by
 refine .inr ⟨fun op' x y hok e => ?_, rfl⟩
 have he := e
 subst e
 rw [text_cut.1, findI_of (ok_op hok).1] at hop
 subst hop
 obtain ⟨rfl, rfl⟩ := h x y hok rfl
 unfold showI at hs
 rw [if_pos hok] at hs
 exact hs rfl
theorem read_miss {s : List UInt8} {op : Int} (hop : findI (str (Lib.cut s [32]).1) = op) (hs : showI op (gA op (Lib.cut s [32]).2.1) (gB op (Lib.cut s [32]).2.1) ≠ s) : ReadV s (.tuple #[instV 0 0 0, .int .i64 40]) := by
 refine read_no op _ _ hop.symm (fun x y hok e => ?_) hs
 subst e
 exact guess_hit hok

end Go.Proofs.YtgnooffedmeenaaGreatDoor.O

namespace Go.Proofs.YtgnooffedmeenaaGreatDoor.M

abbrev Bs := List UInt8
abbrev Ln := Nat × List Bs

def gapB (c : UInt8) : Bool := decide (c = 32 ∨ c = 9)
def endB (c : UInt8) : Bool := decide (c = 10 ∨ c = 59)
def fl (cur : Bs) : List Bs := if cur = [] then [] else [cur]
def wgo (cur : Bs) : Bs → List Bs
 | [] => fl cur
 | c :: r => if endB c = true then fl cur else if gapB c = true then fl cur ++ wgo [] r else wgo (cur ++ [c]) r
def wordsL (s : Bs) : List Bs := wgo [] s
def one (n : Nat) (cur : Bs) : List Ln := if wordsL cur = [] then [] else [(n, wordsL cur)]
def lgo (n : Nat) (cur : Bs) : Bs → List Ln
 | [] => one n cur
 | c :: r => if c = 10 then one n cur ++ lgo (n + 1) [] r else lgo n (cur ++ [c]) r
def linesL (s : Bs) : List Ln := lgo 1 [] s
def joinW : List Bs → Bs
 | [] => []
 | [w] => w
 | w :: v :: ws => w ++ 32 :: joinW (v :: ws)
def flat (l : List (List Bs)) : Bs := l.flatMap fun w => joinW w ++ [10]
def normL (s : Bs) : Bs := flat ((linesL s).map Prod.snd)

theorem fl_nil : fl [] = [] := if_pos rfl
theorem fl_some {w : Bs} (h : w ≠ []) : fl w = [w] := if_neg h
theorem wgo_end {cur : Bs} {c : UInt8} (h : endB c = true) (r : Bs) : wgo cur (c :: r) = fl cur := by rw [wgo, if_pos h]
theorem wgo_gap {cur : Bs} {c : UInt8} (h : endB c = false) (hg : gapB c = true) (r : Bs) : wgo cur (c :: r) = fl cur ++ wgo [] r := by rw [wgo, if_neg (by rw [h]; decide), if_pos hg]
theorem wgo_byte {cur : Bs} {c : UInt8} (h : endB c = false) (hg : gapB c = false) (r : Bs) : wgo cur (c :: r) = wgo (cur ++ [c]) r := by rw [wgo, if_neg (by rw [h]; decide), if_neg (by rw [hg]; decide)]
theorem one_none {n : Nat} {s : Bs} (h : wordsL s = []) : one n s = [] := if_pos h
theorem one_some {n : Nat} {s : Bs} (h : wordsL s ≠ []) : one n s = [(n, wordsL s)] := if_neg h
theorem lgo_lf (n : Nat) (cur r : Bs) : lgo n cur (10 :: r) = one n cur ++ lgo (n + 1) [] r := by rw [lgo, if_pos rfl]
theorem lgo_byte {c : UInt8} (h : c ≠ 10) (n : Nat) (cur r : Bs) : lgo n cur (c :: r) = lgo n (cur ++ [c]) r := by rw [lgo, if_neg h]

def inW (c : UInt8) : Bool := !endB c && !gapB c
def cleanB (w : Bs) : Bool := !w.isEmpty && w.all inW
theorem inW_iff (c : UInt8) : inW c = true ↔ endB c = false ∧ gapB c = false := by unfold inW; rw [Bool.and_eq_true, Bool.not_eq_true', Bool.not_eq_true']
theorem inW_iff2 (c : UInt8) : inW c = true ↔ c ≠ 10 ∧ c ≠ 59 ∧ c ≠ 32 ∧ c ≠ 9 := by
 rw [inW_iff]; unfold endB gapB; rw [decide_eq_false_iff_not, decide_eq_false_iff_not]
 constructor
 ·rintro ⟨h1, h2⟩; exact ⟨fun h => h1 (.inl h), fun h => h1 (.inr h), fun h => h2 (.inl h), fun h => h2 (.inr h)⟩
 ·rintro ⟨h1, h2, h3, h4⟩; exact ⟨fun h => h.elim h1 h2, fun h => h.elim h3 h4⟩
theorem clean_iff (w : Bs) : cleanB w = true ↔ w ≠ [] ∧ w.all inW = true := by
 unfold cleanB; cases w <;> simp

theorem wgo_word {w : Bs} (h : w.all inW = true) (cur r : Bs) : wgo cur (w ++ r) = wgo (cur ++ w) r := by
 induction w generalizing cur with
 | nil => simp
 | cons c w ih =>
  rw [List.all_cons, Bool.and_eq_true, inW_iff] at h
  rw [List.cons_append, wgo_byte h.1.1 h.1.2, ih h.2, List.append_assoc]
  rfl
def cleanW (l : List Bs) : Bool := !l.isEmpty && l.all cleanB
theorem cleanW_iff (l : List Bs) : cleanW l = true ↔ l ≠ [] ∧ ∀ w ∈ l, cleanB w = true := by
 unfold cleanW; cases l <;> simp
theorem wgo_join : ∀ (l : List Bs) (t : Bs), (∀ w ∈ l, cleanB w = true) → (t = [] ∨ ∃ c r, t = c :: r ∧ endB c = true) → wgo [] (joinW l ++ t) = l
 | [], t, _, ht => by
  rcases ht with rfl | ⟨c, r, rfl, hc⟩
  ·rfl
  ·exact wgo_end hc r
 | [w], t, h, ht => by
  obtain ⟨h1, h2⟩ := (clean_iff w).1 (h w (by simp))
  rw [joinW, wgo_word h2, List.nil_append]
  rcases ht with rfl | ⟨c, r, rfl, hc⟩
  ·exact fl_some h1
  ·rw [wgo_end hc r]; exact fl_some h1
 | w :: v :: ws, t, h, ht => by
  obtain ⟨h1, h2⟩ := (clean_iff w).1 (h w (by simp))
  have ih := wgo_join (v :: ws) t (fun x hx => h x (by simp only [List.mem_cons] at hx ⊢; exact .inr hx)) ht
  rw [joinW, List.append_assoc, wgo_word h2, List.nil_append, List.cons_append, wgo_gap (by decide) (by decide), ih, fl_some h1]
  rfl
theorem words_join {l : List Bs} (h : ∀ w ∈ l, cleanB w = true) : wordsL (joinW l) = l := by
 have := wgo_join l [] h (.inl rfl)
 rwa [List.append_nil] at this

/-! ### Lines -/

def noLF (s : Bs) : Bool := s.all fun c => decide (c ≠ 10)
theorem lgo_line {s : Bs} (h : noLF s = true) (n : Nat) (cur r : Bs) : lgo n cur (s ++ r) = lgo n (cur ++ s) r := by
 induction s generalizing cur with
 | nil => simp
 | cons c s ih =>
  unfold noLF at h
  rw [List.all_cons, Bool.and_eq_true, decide_eq_true_iff] at h
  rw [List.cons_append, lgo_byte h.1, ih h.2, List.append_assoc]
  rfl
theorem lgo_full {s : Bs} (h : noLF s = true) (n : Nat) (r : Bs) : lgo n [] (s ++ 10 :: r) = one n s ++ lgo (n + 1) [] r := by rw [lgo_line h, lgo_lf, List.nil_append]
def num (n : Nat) : List (List Bs) → List Ln
 | [] => []
 | w :: r => (n, w) :: num (n + 1) r
theorem num_snd : ∀ (n : Nat) (l : List (List Bs)), (num n l).map Prod.snd = l
 | _, [] => rfl
 | n, w :: r => by rw [num, List.map_cons, num_snd (n + 1) r]
theorem num_append : ∀ (n : Nat) (a b : List (List Bs)), num n (a ++ b) = num n a ++ num (n + a.length) b
 | _, [], _ => rfl
 | n, w :: r, b => by rw [List.cons_append, num, num, num_append (n + 1) r b, List.length_cons, Nat.add_assoc, Nat.add_comm 1, List.cons_append]
theorem join_in {l : List Bs} (h : ∀ w ∈ l, cleanB w = true) : ∀ c ∈ joinW l, c = 32 ∨ inW c = true := by
 induction l with
 | nil => intro c hc; cases hc
 | cons w l ih =>
  have hw := ((clean_iff w).1 (h w (by simp))).2
  have hw2 : ∀ c ∈ w, inW c = true := fun c hc => List.all_eq_true.1 hw c hc
  cases l with
  | nil => intro c hc; exact .inr (hw2 c hc)
  | cons v ws =>
   intro c hc
   rw [joinW, List.mem_append, List.mem_cons] at hc
   rcases hc with hc | hc | hc
   ·exact .inr (hw2 c hc)
   ·exact .inl hc
   ·exact ih (fun x hx => h x (List.mem_cons_of_mem _ hx)) c hc
theorem join_noLF {l : List Bs} (h : ∀ w ∈ l, cleanB w = true) : noLF (joinW l) = true := by
 unfold noLF
 rw [List.all_eq_true]
 intro c hc
 rw [decide_eq_true_iff]
 rcases join_in h c hc with rfl | h1
 ·decide
 ·exact ((inW_iff2 c).1 h1).1
theorem flat_cons (w : List Bs) (l : List (List Bs)) : flat (w :: l) = joinW w ++ 10 :: flat l := by unfold flat; rw [List.flatMap_cons, List.append_assoc]; rfl
theorem flat_append (a b : List (List Bs)) : flat (a ++ b) = flat a ++ flat b := by unfold flat; rw [List.flatMap_append]
theorem lgo_flat : ∀ (l : List (List Bs)) (n : Nat), (∀ w ∈ l, cleanW w = true) → lgo n [] (flat l) = num n l
 | [], n, _ => rfl
 | w :: l, n, h => by
  have hw := (cleanW_iff w).1 (h w (by simp))
  have ih := lgo_flat l (n + 1) (fun x hx => h x (by simp [hx]))
  rw [flat_cons, lgo_full (join_noLF hw.2), ih, one_some (by rw [words_join hw.2]; exact hw.1), words_join hw.2]
  rfl
theorem lines_flat {l : List (List Bs)} (h : ∀ w ∈ l, cleanW w = true) : linesL (flat l) = num 1 l := lgo_flat l 1 h
theorem join_len : ∀ l : List Bs, (joinW l).length + 1 = (l.map fun w => w.length + 1).sum ∨ l = []
 | [] => .inr rfl
 | [w] => .inl (by simp [joinW])
 | w :: v :: ws => .inl (by
  have := (join_len (v :: ws)).resolve_right (by simp)
  rw [joinW, List.length_append, List.length_cons, List.map_cons, List.sum_cons]
  omega)
def wsum (l : List Bs) : Nat := (l.map fun w => w.length + 1).sum
theorem wsum_append (a b : List Bs) : wsum (a ++ b) = wsum a + wsum b := by unfold wsum; rw [List.map_append, List.sum_append_nat]
theorem wsum_fl (cur : Bs) : wsum (fl cur) ≤ cur.length + 1 ∧ (cur = [] → wsum (fl cur) = 0) := by
 by_cases h : cur = []
 ·subst h; rw [fl_nil]; simp [wsum]
 ·rw [fl_some h]; simp [wsum, h]
theorem wsum_go : ∀ (s cur : Bs), wsum (wgo cur s) ≤ cur.length + s.length + 1
 | [], cur => by have := (wsum_fl cur).1; rw [wgo]; simp; exact this
 | c :: s, cur => by
  have h0 := (wsum_fl cur).1
  cases he : endB c with
  | true => rw [wgo_end he]; simp; omega
  | false =>
   cases hg : gapB c with
   | true =>
    have ih := wsum_go s []
    rw [wgo_gap he hg, wsum_append]
    simp at ih ⊢; omega
   | false =>
    have ih := wsum_go s (cur ++ [c])
    rw [wgo_byte he hg]
    simp at ih ⊢; omega
theorem join_le (s : Bs) : (joinW (wordsL s)).length ≤ s.length := by
 have h := wsum_go s []
 rcases join_len (wordsL s) with e | e
 ·have e2 : wsum (wordsL s) = (joinW (wordsL s)).length + 1 := e.symm
  unfold wordsL at e2 ⊢
  simp at h; omega
 ·rw [e]; exact Nat.zero_le _
theorem one_len (n : Nat) (s : Bs) : (flat ((one n s).map Prod.snd)).length ≤ s.length + 1 := by
 by_cases h : wordsL s = []
 ·rw [one_none h]; simp [flat]
 ·rw [one_some h]
  have := join_le s
  simp [flat]; exact this
theorem lgo_len : ∀ (s : Bs) (n : Nat) (cur : Bs), (flat ((lgo n cur s).map Prod.snd)).length ≤ cur.length + s.length + 1
 | [], n, cur => one_len n cur
 | c :: s, n, cur => by
  by_cases hc : c = 10
  ·subst hc
   have ih := lgo_len s (n + 1) []
   have h1 := one_len n cur
   rw [lgo_lf, List.map_append, flat_append, List.length_append]
   simp at ih h1 ⊢; omega
  ·have ih := lgo_len s n (cur ++ [c])
   rw [lgo_byte hc]
   simp at ih ⊢; omega
theorem norm_len (s : Bs) : (normL s).length ≤ s.length + 1 := by have := lgo_len s 1 []; rw [List.length_nil, Nat.zero_add] at this; exact this

/-! ### What stands in a normal text -/

/-! ### Notes put in -/

def sgo (cur : Bs) : Bs → List Bs
 | [] => fl cur
 | c :: r => if c = 10 then cur :: sgo [] r else sgo (cur ++ [c]) r
def segs (s : Bs) : List Bs := sgo [] s
def ones (n : Nat) : List Bs → List Ln
 | [] => []
 | s :: r => one n s ++ ones (n + 1) r
theorem lgo_segs : ∀ (s : Bs) (n : Nat) (cur : Bs), lgo n cur s = ones n (sgo cur s)
 | [], n, cur => by
  rw [lgo, sgo]
  by_cases h : cur = []
  ·subst h; rw [fl_nil]; rfl
  ·rw [fl_some h, ones, ones, List.append_nil]
 | c :: r, n, cur => by
  by_cases hc : c = 10
  ·subst hc
   rw [lgo_lf, sgo, if_pos rfl, ones, lgo_segs r (n + 1) []]
  ·rw [lgo_byte hc, sgo, if_neg hc, lgo_segs r n _]
theorem wgo_note : ∀ (l cur note : Bs), wgo cur (l ++ ([32, 59] ++ note)) = wgo cur l
 | [], cur, note => by
  rw [List.nil_append, List.cons_append, wgo_gap (by decide) (by decide), List.cons_append, wgo_end (by decide), fl_nil, List.append_nil, wgo]
 | c :: l, cur, note => by
  cases he : endB c with
  | true => rw [List.cons_append, wgo_end he, wgo_end he]
  | false =>
   cases hg : gapB c with
   | true => rw [List.cons_append, wgo_gap he hg, wgo_gap he hg, wgo_note l [] note]
   | false => rw [List.cons_append, wgo_byte he hg, wgo_byte he hg, wgo_note l _ note]
end Go.Proofs.YtgnooffedmeenaaGreatDoor.M

namespace Go.Proofs.YtgnooffedmeenaaGreatDoor.M
open Go.RowKit

structure Nm where
 ln : Nat
 fn : Nat
 pl : Nat
 s : Bs
 lb : Bool
structure St where
 im : I.Im
 ns : List Nm
def st0 : St := ⟨I.nilI, []⟩

def ofA (s : Bs) : Option Nat := O.rowsL.findIdx? fun r => decide (r.name = s)
def rdA (s : Bs) : Option C.I3 := match ofA (Lib.cut s [32]).1 with
 | none => none
 | some op =>
  if C.ok1 ((op : Int), O.gA (op : Int) (Lib.cut s [32]).2.1, O.gB (op : Int) (Lib.cut s [32]).2.1) = true ∧ O.textI (op : Int) (O.gA (op : Int) (Lib.cut s [32]).2.1) (O.gB (op : Int) (Lib.cut s [32]).2.1) = s
  then some ((op : Int), O.gA (op : Int) (Lib.cut s [32]).2.1, O.gB (op : Int) (Lib.cut s [32]).2.1) else none
theorem ofA_row {op : Int} (h : O.isOp op = true) : ofA (O.rowAt op).name = some op.toNat := by
 have hb := O.isOp_yes h
 have : ∀ j : Fin 30, ofA (O.rowAt (j.1 : Int)).name = some j.1 := by decide
 have h2 := this ⟨op.toNat, by omega⟩
 rw [show ((op.toNat : Nat) : Int) = op by omega] at h2
 exact h2
theorem rdA_text {x : C.I3} (h : C.ok1 x = true) : rdA (O.textI x.1 x.2.1 x.2.2) = some x := by
 have ho := (O.ok_op h).1
 have hb := O.isOp_yes ho
 obtain ⟨g1, g2⟩ := O.guess_hit h
 have e : ((x.1.toNat : Nat) : Int) = x.1 := by omega
 unfold rdA
 rw [O.text_cut.1, ofA_row ho]
 dsimp only
 rw [e, g1, g2]
 exact if_pos ⟨h, rfl⟩
theorem rdA_some {s : Bs} {x : C.I3} (h : rdA s = some x) : C.ok1 x = true ∧ O.textI x.1 x.2.1 x.2.2 = s := by
 unfold rdA at h
 split at h
 ·cases h
 ·split at h
  ·rename_i hc
   injection h with h
   rw [← h]; exact hc
  ·cases h
theorem rdA_none {s : Bs} (h : ∀ x : C.I3, C.ok1 x = true → O.textI x.1 x.2.1 x.2.2 ≠ s) : rdA s = none := by
 cases e : rdA s with
 | none => rfl
 | some x => obtain ⟨h1, h2⟩ := rdA_some e; exact absurd h2 (h x h1)
def kindA (op : Int) : Nat := if op = 18 ∨ op = 19 then 1 else if (20 ≤ op ∧ op ≤ 23) ∨ op = 11 then 2 else 0

def shapeW : Bs := [115, 104, 97, 112, 101]
def funcW : Bs := [102, 117, 110, 99]
def localW : Bs := [108, 111, 99, 97, 108]

section
variable {α β : Type}
def upd (g : α → α) : List α → List α
 | [] => []
 | [x] => [g x]
 | x :: y :: r => x :: upd g (y :: r)
theorem upd_append (g : α → α) : ∀ (l : List α) (x : α), upd g (l ++ [x]) = l ++ [g x]
 | [], x => rfl
 | [y], x => rfl
 | y :: z :: l, x => by
  have := upd_append g (z :: l) x
  rw [List.cons_append] at this
  rw [List.cons_append, List.cons_append, upd, this]
  rfl

end

def stShape (st : St) (l : Ln) : Option St := match l.2 with
 | [a, b] => if a = shapeW ∧ st.im.fn = [] then (S.rdS b).map fun x => ⟨⟨st.im.sh ++ [x], st.im.fn⟩, st.ns⟩ else none
 | _ => none
def stFunc (st : St) (l : Ln) : Option St := match l.2 with
 | [a, b, c] => if a = funcW ∧ F.okN b = true then (S.rdG c).map fun g => ⟨⟨st.im.sh, st.im.fn ++ [⟨b, g.1, g.2, [], []⟩]⟩, st.ns⟩ else none
 | _ => none
def hasL (ns : List Nm) (fn : Nat) : Bool := ns.any fun x => x.lb && decide (x.fn = fn)
def stLocal (st : St) (l : Ln) : Option St := match l.2, st.im.fn.getLast? with
 | [a, b], some f => if a = localW ∧ f.lc = [] ∧ f.bd = [] ∧ hasL st.ns (st.im.fn.length - 1) = false then (W.untxt b).map fun t => ⟨⟨st.im.sh, upd (fun f => { f with lc := t }) st.im.fn⟩, st.ns⟩ else none
 | _, _ => none
def stLabel (st : St) (l : Ln) : Option St := match l.2, st.im.fn.getLast? with
 | [a], some f => if a.getLast? = some 58 ∧ F.okN a.dropLast = true then some ⟨st.im, st.ns ++ [⟨l.1, st.im.fn.length - 1, f.bd.length, a.dropLast, true⟩]⟩ else none
 | _, _ => none
def addI (st : St) (x : C.I3) (ns : List Nm) : St := ⟨⟨st.im.sh, upd (fun f => { f with bd := f.bd ++ [x] }) st.im.fn⟩, ns⟩
def stName (st : St) (l : Ln) (f : F.Fu) : Option St := match l.2 with
 | [a, b] => match ofA a with
  | some op => if kindA op ≠ 0 ∧ F.okN b = true then some (addI st ((op : Int), 0, 0) (st.ns ++ [⟨l.1, st.im.fn.length - 1, f.bd.length, b, false⟩])) else none
  | none => none
 | _ => none
def stInstr (st : St) (l : Ln) : Option St := match st.im.fn.getLast? with
 | some f => match rdA (joinW l.2) with
  | some x => some (addI st x st.ns)
  | none => stName st l f
 | none => none
def step (st : St) (l : Ln) : Option St :=
 (stShape st l).or ((stFunc st l).or ((stLocal st l).or ((stLabel st l).or (stInstr st l))))
def runL (st : St) : List Ln → St ⊕ Nat
 | [] => .inl st
 | l :: r => match step st l with
  | none => .inr l.1
  | some st' => runL st' r

/-! ### Names -/

def again (pre : List Nm) (x : Nm) : Bool := pre.any fun y => y.lb && (decide (y.fn = x.fn) && decide (y.s = x.s))
def placeOf (ns : List Nm) (fn : Nat) (s : Bs) : Option Nat := (ns.find? fun y => y.lb && (decide (y.fn = fn) && decide (y.s = s))).map Nm.pl
def opAt (fn : List F.Fu) (x : Nm) : Int := ((fn[x.fn]?.bind fun f => f.bd[x.pl]?).map Prod.fst).getD 0
def valA (ns : List Nm) (fn : List F.Fu) (x : Nm) : Nat ⊕ Int :=
 if kindA (opAt fn x) = 1 then (match placeOf ns x.fn x.s with | some n => .inl n | none => .inr 91)
 else (match I.findI fn x.s with | some n => .inl n | none => .inr 92)
def putB (v : Int) (x : C.I3) : C.I3 := (x.1, v, x.2.2)
def putA (x : Nm) (v : Int) (fn : List F.Fu) : List F.Fu := fn.modify x.fn fun f => { f with bd := f.bd.modify x.pl (putB v) }
def resL (ns pre : List Nm) (fn : List F.Fu) : List Nm → List F.Fu ⊕ (Nat × Int)
 | [] => .inl fn
 | x :: r => if x.lb = true then (if again pre x = true then .inr (x.ln, 91) else resL ns (pre ++ [x]) fn r)
  else match valA ns fn x with
   | .inl v => resL ns (pre ++ [x]) (putA x v fn) r
   | .inr e => .inr (x.ln, e)
def endL (st : St) : I.Im × Nat × Int := match resL st.ns [] st.im.fn st.ns with
 | .inr (n, e) => (I.nilI, n, e)
 | .inl fn => if I.okI ⟨st.im.sh, fn⟩ = true then (⟨st.im.sh, fn⟩, 0, 0) else (I.nilI, 0, 93)
def sayL (ls : List Ln) : I.Im × Nat × Int := match runL st0 ls with
 | .inr n => (I.nilI, n, 90)
 | .inl st => endL st
def parseL (s : Bs) : I.Im × Nat × Int := if 131072 < s.length then (I.nilI, 0, 93) else sayL (linesL s)
theorem parse_else {s : Bs} (h : ¬ 131072 < s.length) : parseL s = sayL (linesL s) := if_neg h
def namesL (ns : List Nm) (fn : Int) : List Bs := (ns.filter fun x => x.lb && decide ((x.fn : Int) = fn)).map Nm.s
def labsL (ls : List Ln) (fn : Int) : List Bs := match runL st0 ls with
 | .inr _ => []
 | .inl st => if (endL st).2.2 = 0 then namesL st.ns fn else []
def labelsL (s : Bs) (fn : Int) : List Bs := if 131072 < s.length then [] else labsL (linesL s) fn

/-! ### What lines say does not hang on their numbers -/

end Go.Proofs.YtgnooffedmeenaaGreatDoor.M
