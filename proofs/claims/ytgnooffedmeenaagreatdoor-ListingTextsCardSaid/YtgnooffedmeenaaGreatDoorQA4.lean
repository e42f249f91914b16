/-
  A range over a function that is never left ahead of its end, whose iterator brings things of which something is known in the world in which each comes (En). No program, no conditions.
  The iterator of an instruction's operands: it brings each operand that there is, in order, with its functions as they lie in memory when it comes. Conditions: kinds are from 0 to 10.
  What Show answers. Conditions: the listed package-level variables hold what their initialisers lay; numbers fit an int64.
  The plain mathematics of Read, the code's and the document's: which value a text could be, and that both read just the texts of values. No program, no conditions.
  What Text answers, the code's and the document's. Conditions: the list lies in memory, the letters stand.
  What lettered and Types answer, the code's and the document's. Conditions: the letters stand; no more than 4096 bytes.
  The plain mathematics of reading an instruction from text: what is guessed of a text, and that it is the instruction whose text it is, if there is one. No program, no conditions.
  The plain mathematics of layer asm's words and lines: what stands in a text, its normal one, a text with notes put in. No program, no conditions.
  The plain mathematics of layer asm: what the lines of a text say, what is wrong with them, and the labels. No program, no conditions.
  The plain mathematics of layer asm: the text of an image, by numbers or by labels, says that image. No program; the image may be.
  The plain mathematics of layer asm: the text of an image that may be, by numbers or by labels, says that image, and has a label for each place. No program.
  The plain mathematics of layer listing, first part: the text of an image, with labels at some places, and names in place of some numbers, says that image. No program.
  The plain mathematics of layer listing, second part: targets, labels, names; the three listings as lists of lines; what layer asm reads of them. No program.
  The plain mathematics of layer listing, sixth part: numbers sorted and compacted; a body's targets so. No program.
  The plain mathematics of layer listing, third part: the labels that layer asm reads of a listing; how many lines each listing has. No program.
  The plain mathematics of layer listing, fourth part: which line is which instruction. No program.
  What a normal text does not contain: as the library's index tells it. No program, no conditions.
  The lines of a text, one after another: each up to its line feed. No program, no conditions.
  The plain mathematics of layer listing, fifth part: a text, parted at its line feeds, is its lines, and nothing behind them; how many line feeds it has. No program.
  The plain mathematics of layer listing, seventh part: the lines as the program tells them, by what they are; their texts are the listing's. No program.
  A region that draws its order and has a neck: an operation that waits for all ahead of it, and for which all behind it wait. What lies ahead is walked in an order of one's own choice (KMix); then the neck comes up alone, and may write what was made. No program, no conditions.
  Which types shapes and signatures may have: what held and all answer, and the document's held. Conditions: the list lies in memory.
-/
import Derived.Lib.AtoiBound
import Derived.Lib.DecodeN
import Derived.Lib.IndexBytes
import Derived.Lib.IndexLaws
import Derived.Lib.IndexMore
import Derived.Lib.OthersKept
import Derived.Lib.RuneBytes
import Derived.Lib.SlicesCompact
import Derived.Lib.Split
import Derived.Lib.Strings
import Derived.LoopIn
import Derived.LoopNIn
import Derived.OwnWalkIn
import Derived.RangeFuncBound
import Derived.RangeFuncCalls
import Derived.RangeFuncLeaves
import Derived.RangeFuncNested
import Derived.Shelf.Abstract
import Derived.Shelf.RegionOpen
import Derived.StillTail
import Derived.TacticsInMore
import Derived.WalkKit
import Derived.Test.YtgnooffedmeenaaGreatDoorQA2
import Derived.Test.YtgnooffedmeenaaGreatDoorQA3
import Derived.Test.YtgnooffedmeenaaGreatDoorShelf2
namespace Go.Proofs.YtgnooffedmeenaaGreatDoor
open Go.RowKit Go.Shelf

section
variable {P : Program} {n : Nat}

theorem Keep.grows {W W' : World} (h : Keep NoB W W') : W.grownBy W' none := ⟨h.os, h.tape, h.output, h.size, fun k hk _ => h.block k hk id⟩
theorem ownFrom_keeps {β : Type} {B : Nat} {I : β → World → Prop} (hI : OwnFrom B I) {s : β} {W W' : World} (h : I s W) (hk : Keep NoB W W') : I s W' := hI s W W' none h hk.grows (fun r e => by cases e)
theorem keepsFrom_keep {B : Nat} {W W' : World} (hk : Keep NoB W W') : KeepsFrom B W W' := ⟨hk.size, fun k _ _ h _ => (hk.block k (Array.getElem?_eq_some_iff.1 h).1 id).trans h⟩

/-- One round, out of the walks of the assignments and of the body, if the body comes to its end. -/
theorem yieldAt_end {L m : Nat} {r : Loop} {args : Array Value} {W : World} {R : World → Prop} (hl : W.heap[L]? = some (.loop r)) (hr : r.state = .ready) (hp : r.pending = none) (hs : args.size = r.params.size)
    (h : r.assign.wpIn (Fence.wide.inRound L) m P (Exit.then (fun a₁ W₁ => W₁.heap[L]? = some (.loop r) ∧
        r.body.wpIn (Fence.wide.inRound L) m P (fun e _ W₃ => e = .normal ∧ W₃.heap[L]? = some (.loop { r with state := .busy }) ∧ R (W₃.putObj L (.loop r))) a₁ (W₁.putObj L (.loop { r with state := .busy })))
        (fun _ _ _ => False)) { tmps := (r.params.zip args).foldl (fun t (p, v) => t.setIfInBounds p v) r.tmps, defers := [] } W) :
    YieldAt Fence.wide m P L args W fun e W' => e = .returned (.bool true) ∧ R W' := by
  refine ⟨r.fn, _, r.assign, r.body, run_yield hl hs, roundIn_of_wpIn trivial (wpIn_mono h ?_)⟩
  intro e a₁ W₁ hq
  cases e with
  | normal =>
    obtain ⟨h1, h2⟩ := hq
    refine ⟨_, run_beginRound h1 hr, wpIn_mono h2 ?_⟩
    rintro e₃ a₃ W₃ ⟨rfl, h3, h4⟩
    refine ⟨_, _, run_endRound none h3, rfl, ?_⟩
    have hb : ({ r with state := .busy } : Loop) = { r with state := .busy } := rfl
    have he : ({ ({ r with state := .busy } : Loop) with state := if (none : Option Code).isNone then LoopState.ready else .done, pending := none } : Loop) = r := by
      cases r; simp_all
    rw [he]; exact h4
  | exit id => exact hq
  | goto t => exact hq
  | ret => exact hq
  | panic c => exact hq
  | outgrown => exact hq

/-- What is asked of the iterator. -/
def Brings {α : Type} (P : Program) (m k : Nat) (gf : Nat) (lb : Array Value) (encs : α → Array Value) (I : List α → World → Prop) (En : List α → α → World → Prop) (S : List α → Prop) : Prop :=
  ∀ (L : Nat) (J : List α → World → Prop), (∀ pre W W', J pre W → Keep NoB W W' → J pre W') → (∀ pre W, J pre W → I pre W) →
    (∀ pre x W, J pre W → En pre x W → YieldAt Fence.wide m P L (encs x) W fun e W' => e = .returned (.bool true) ∧ J (pre ++ [x]) W') →
    ∀ W, J [] W → CallsIn Fence.wide k P gf (#[.func (.yield L) #[] #[]] ++ lb) W fun e W' => (∃ v, e = .returned v) ∧ ∃ xs, S xs ∧ J xs W'

theorem wpIn_rangeFunc_brings {α : Type} {g : Operand} {ps : Array Tmp} {assign body : Code} {Q : Exit → Act → World → Prop} {a : Act} {w : World} {m : Nat}
    {gf : Nat} {lb : Array Value} (hg : a.eval g = .func (.func gf) #[] lb) (eg : ∀ args w, (callFunc gf args).run P w = .ok (.enter gf args) w)
    {encs : α → Array Value} {I : List α → World → Prop} {En : List α → α → World → Prop} {S : List α → Prop} (hit : Brings P m (n - 1) gf lb encs I En S) (hps : ∀ x, (encs x).size = ps.size)
    (hI : OwnFrom w.heap.size I) (h0 : I [] w) (Ax : List α → α → Act → World → Prop) (hAx : ∀ pre x a', OwnFrom w.heap.size (fun (_ : Unit) W => Ax pre x a' W))
    (hassign : ∀ (l : Nat) (pre : List α) (x : α) (W : World), I pre W → En pre x W →
      assign.wpIn (Fence.wide.inRound l) m P (Exit.then (fun a' W' => Ax pre x a' W' ∧ KeepsFrom w.heap.size W W') (fun _ _ _ => False)) { tmps := (ps.zip (encs x)).foldl (fun t (p, v) => t.setIfInBounds p v) a.tmps, defers := [] } W)
    (hbody : ∀ (l : Nat) (pre : List α) (x : α) (a' : Act) (W : World), Ax pre x a' W → body.wpIn (Fence.wide.inRound l) m P (fun e _ W' => e = .normal ∧ I (pre ++ [x]) W' ∧ KeepsFrom w.heap.size W W') a' W)
    (hdone : ∀ (D : Nat) (xs : List α) (W : World), w.heap.size ≤ D → S xs → I xs W → W.heap[D]? = some (.deferred (some [])) → Q .normal { a with defers := { target := .collected D, args := #[] } :: a.defers } W) :
    (Code.rangeFunc g ps assign body).wpIn Fence.wide n P Q a w := by
  refine wpIn_rangeFunc fun fn _ => ?_
  obtain ⟨r, hr⟩ : ∃ r : Loop, r = { state := .ready, pending := none, fn, tmps := a.tmps, params := ps, assign, body, defers := w.heap.size } := ⟨_, rfl⟩
  obtain ⟨W1, hW1⟩ : ∃ W1, (w.alloc (.deferred (some []))).alloc (.loop r) = W1 := ⟨_, rfl⟩
  have hL1 : W1.heap[w.heap.size + 1]? = some (.loop r) := by
    rw [← hW1]; have := World.alloc_heap_new (w.alloc (.deferred (some []))) (.loop r); rwa [World.size_alloc] at this
  have hD1 : W1.heap[w.heap.size]? = some (.deferred (some [])) := by
    rw [← hW1]; exact (Below.heap_alloc _ _ _ (by simp)).trans (World.alloc_heap_new w _)
  refine ⟨w.heap.size + 1, [{ target := .collected w.heap.size, args := #[] }], W1, { target := .fn (.func gf) lb, args := #[.func (.yield (w.heap.size + 1)) #[] #[]] }, W1, gf,
    #[.func (.yield (w.heap.size + 1)) #[] #[]] ++ lb, W1, ?_, ?_, fun _ _ => trivial, ?_, (fun h => by cases h), ?_⟩
  · rw [← hW1, hr]; exact run_enterLoop_outer _ _ _ _ _
  · simp only [resolve, hg]
    simp [go_sem]
  · simp [invoke, go_sem, eg]
  refine (hit (w.heap.size + 1) (fun pre W => I pre W ∧ W.heap[w.heap.size + 1]? = some (.loop r) ∧ W.heap[w.heap.size]? = some (.deferred (some []))) ?_ (fun _ _ h => h.1) ?_ W1 ⟨by rw [← hW1]; exact hI.alloc _ (hI.alloc _ h0), hL1, hD1⟩).mono ?_
  · rintro pre W W' ⟨h1, h2, h3⟩ hk
    exact ⟨ownFrom_keeps hI h1 hk, (hk.block _ (Array.getElem?_eq_some_iff.1 h2).1 id).trans h2, (hk.block _ (Array.getElem?_eq_some_iff.1 h3).1 id).trans h3⟩
  · clear hL1 hW1 hD1
    subst hr
    rintro pre x W ⟨h1, h2, h3⟩ hen
    refine yieldAt_end h2 rfl rfl (hps x) ?_
    have ha := hassign (w.heap.size + 1) pre x W h1 hen
    refine wpIn_mono ha ?_
    intro e a₁ Wa hq
    cases e with
    | normal =>
      obtain ⟨hax, hka⟩ := hq
      have l2 := hka.same _ _ (by omega) h2 rfl
      have d2 := hka.same _ _ (Nat.le_refl _) h3 rfl
      refine ⟨l2, ?_⟩
      have lt2 := (Array.getElem?_eq_some_iff.1 l2).1
      refine wpIn_mono (hbody _ pre x a₁ _ ((hAx pre x a₁).putObj (s := ()) _ hax (by omega) l2 rfl)) ?_
      rintro e₃ a₃ W₃ ⟨rfl, h4, h5⟩
      have l3 := h5.same (w.heap.size + 1) _ (by omega) (World.putObj_heap_same lt2) rfl
      have d3 := h5.same w.heap.size _ (Nat.le_refl _) ((World.putObj_heap_other (by omega)).trans d2) rfl
      refine ⟨rfl, l3, hI.putObj _ h4 (by omega) l3 rfl, World.putObj_heap_same (Array.getElem?_eq_some_iff.1 l3).1, (World.putObj_heap_other (by omega)).trans d3⟩
    | exit id => exact hq
    | goto t => exact hq
    | ret => exact hq
    | panic c => exact hq
    | outgrown => exact hq
  · rintro e W2 ⟨⟨v, rfl⟩, xs, hS, h1, h2, h3⟩
    have hp : r.pending = none := by rw [hr]
    exact ⟨none, _, by have := run_endLoop (P := P) h2 (by rw [hr]; simp); rw [hp] at this; exact this, hdone _ xs _ (Nat.le_refl _) hS (hI.putObj _ h1 (by omega) h2 rfl) ((World.putObj_heap_other (by omega)).trans h3)⟩
end
end Go.Proofs.YtgnooffedmeenaaGreatDoor

namespace Go.Proofs.YtgnooffedmeenaaGreatDoor.O
open Go.RowKit Go.Shelf
attribute [local go_sem] Oper.semAt_some

/-- An operand that comes: its kind, its number, its functions. -/
structure Part where
  k : Int
  n : Int
  sh : Value
  gu : Value
def Part.key (x : Part) : Int × Int := (x.k, x.n)
abbrev partE (x : Part) : Array Value := #[opV x.k x.sh x.gu, .int .i64 x.n]
/-- The operands that there are. -/
def partsL (ka kb a b : Int) : List (Int × Int) := if ka = 0 then [] else if kb = 0 then [(ka, a)] else [(ka, a), (kb, b)]
/-- What is known of one that comes: its place, its functions. -/
def PartN (ka kb a b : Int) (pre : List Part) (x : Part) (W : World) : Prop := (∃ post, pre.map Part.key ++ x.key :: post = partsL ka kb a b) ∧ FnAt x.k x.sh x.gu W

theorem parts_0 {ka kb a b : Int} (h : ka = 0) : partsL ka kb a b = [] := by unfold partsL; rw [if_pos h]
theorem parts_1 {ka kb a b : Int} (h : ka ≠ 0) (h' : kb = 0) : partsL ka kb a b = [(ka, a)] := by unfold partsL; rw [if_neg h, if_pos h']
theorem parts_2 {ka kb a b : Int} (h : ka ≠ 0) (h' : kb ≠ 0) : partsL ka kb a b = [(ka, a), (kb, b)] := by unfold partsL; rw [if_neg h, if_neg h']

theorem run_index_nums (a b : Int) (w : World) : (Instr.index 350 (.agg #[.int .i64 a, .int .i64 b]) (.int .i64 0)).run Tryz.prog w = .ok (.int .i64 a) w ∧
    (Instr.index 350 (.agg #[.int .i64 a, .int .i64 b]) (.int .i64 1)).run Tryz.prog w = .ok (.int .i64 b) w := by
  have hs : (sizeOf 2).run Tryz.prog w = .ok 1 w := Tryz.sizeOf2 w
  unfold Instr.index
  constructor
  · simp [run_underlying Tryz.underlying350, asIntOf, hs, part]
  · simp [run_underlying Tryz.underlying350, asIntOf, hs, part]

set_option maxRecDepth 100000 in
set_option maxHeartbeats 4000000 in
theorem parts1_in (m : Nat) (q : Row) (op a b : Int) (Bx Br : Nat) (hka : 0 ≤ q.ka ∧ q.ka ≤ 10) (hkb : 0 ≤ q.kb ∧ q.kb ≤ 10) (I : List Part → World → Prop)
    (hbx : ∀ pre W, I pre W → Blk W Bx 55 #[.int .i64 op, .int .i64 a, .int .i64 b]) (hbr : ∀ pre W, I pre W → Blk W Br 137 (cells9 q)) :
    Brings Tryz.prog m (m + 1) 299 #[.pointer (some ⟨Bx, 0, none⟩), .pointer (some ⟨Br, 0, none⟩)] partE I (PartN q.ka q.kb a b) (fun xs => xs.map Part.key = partsL q.ka q.kb a b) := by
  intro L J hJk hJI hY W h0
  refine callsIn_of_wp Tryz.func299 rfl trivial ?_ rfl
  simp only [Tryz.ntmps299, List.size_toArray, List.length_cons, List.length_nil, Nat.reduceAdd, Nat.reduceSub, Array.replicate_succ, Array.replicate_zero, List.push_toArray, List.append_toArray, List.nil_append, List.cons_append]
  have x0 := hbx _ _ (hJI _ _ h0)
  have c1 : W.cell? ⟨Bx, 1, none⟩ = some (.int .i64 a) := x0.cell 1
  have c2 : W.cell? ⟨Bx, 2, none⟩ = some (.int .i64 b) := x0.cell 2
  clear x0
  gi_wp2
  gi_loopw [11] (fun i wr => ∃ (k : Nat) (pre : List Part), k ≤ 2 ∧ i = .int .i64 (k : Int) ∧ Hid (pre.map Part.key = [(q.ka, a), (q.kb, b)].take k ∧ (1 ≤ k → q.ka ≠ 0) ∧ (2 ≤ k → q.kb ≠ 0)) ∧ J pre wr)
    (fun i _ => 2 - (intOf i).toNat)
  case atStart => exact ⟨0, [], by omega, rfl, ⟨rfl, fun h => by omega, fun h => by omega⟩, h0⟩
  case round =>
    obtain ⟨k, pre, hk, rfl, HP, hJ⟩ := hrel
    have r0 := hbr _ _ (hJI _ _ hJ)
    have d1 : wr.cell? ⟨Br, 1, none⟩ = some (.int .i64 q.ka) := r0.cell 1
    have d2 : wr.cell? ⟨Br, 2, none⟩ = some (.int .i64 q.kb) := r0.cell 2
    clear r0 c1 c2
    have hix := fun w => run_index_nums a b w
    have hi0 := fun w => (hix w).1
    have hi1 := fun w => (hix w).2
    clear hix
    obtain rfl | rfl | rfl : k = 0 ∨ k = 1 ∨ k = 2 := by omega
    · by_cases hz : q.ka = 0
      · have hS : Hid (pre.map Part.key = partsL q.ka q.kb a b) := by show _ = _; rw [HP.out.1, parts_0 hz]; rfl
        have e0 : (q.ka == 0) = true := by rw [beq_iff_eq]; exact hz
        clear HP hz hka hkb
        rw [show ((0 : Nat) : Int) = 0 from rfl]
        gi_wp2
        refine ⟨trivial, ?_⟩
        gi_wp2
        refine ⟨fun _ h => (by cases h), ?_⟩
        gi_wp2
        refine bodyPost_ret (results_none rfl _ _ _) rfl ?_
        exact ⟨⟨_, rfl⟩, pre, hS.out, hJ⟩
      · have e0 : (q.ka == 0) = false := by rw [beq_eq_false_iff_ne]; exact hz
        have HN : Hid (pre.map Part.key ++ (q.ka, a) :: (if q.kb = 0 then [] else [(q.kb, b)]) = partsL q.ka q.kb a b) := by show _ = _; rw [HP.out.1]; unfold partsL; rw [if_neg hz]; split <;> rfl
        have HQ : Hid (∀ x : Part, x.key = (q.ka, a) → (pre ++ [x]).map Part.key = [(q.ka, a), (q.kb, b)].take 1) := by intro x hx; rw [List.map_append, HP.out.1]; simp [hx]
        have hp1 := HP.out.2.1
        have HZ : Hid ((1 ≤ 1 → q.ka ≠ 0) ∧ (2 ≤ 1 → q.kb ≠ 0)) := ⟨fun _ => hz, fun h => by omega⟩
        clear HP hz hp1
        rw [show ((0 : Nat) : Int) = 0 from rfl]
        gi_wp2_with (refine ⟨trivial, ?_⟩; gi_at_call 216; refine (callsIn_wide.2 (operandOf_any q.ka hka _)).mono ?_; rintro e w1 ⟨sh, gu, rfl, hF, k1⟩; have hJ1 := hJk _ _ _ hJ k1; obtain ⟨fn, tmps, assign, body, hy, hR⟩ := hY pre ⟨q.ka, a, sh, gu⟩ w1 hJ1 ⟨⟨_, HN.out⟩, hF⟩; dsimp only [partE] at hy)
        refine hR.mono ?_
        rintro e W3 ⟨rfl, hJ3⟩
        gi_wp2
        go_roundw
        case rel => exact ⟨1, pre ++ [_], by omega, rfl, ⟨HQ.out _ rfl, HZ.out⟩, hJ3⟩
        case measure => simp [intOf]
    · by_cases hz : q.kb = 0
      · have hS : Hid (pre.map Part.key = partsL q.ka q.kb a b) := by show _ = _; rw [HP.out.1, parts_1 (HP.out.2.1 (by omega)) hz]; rfl
        have e0 : (q.kb == 0) = true := by rw [beq_iff_eq]; exact hz
        clear HP hz hka hkb
        rw [show ((1 : Nat) : Int) = 1 from rfl]
        gi_wp2
        refine ⟨trivial, ?_⟩
        gi_wp2
        refine ⟨fun _ h => (by cases h), ?_⟩
        gi_wp2
        refine bodyPost_ret (results_none rfl _ _ _) rfl ?_
        exact ⟨⟨_, rfl⟩, pre, hS.out, hJ⟩
      · have e0 : (q.kb == 0) = false := by rw [beq_eq_false_iff_ne]; exact hz
        have HN : Hid (pre.map Part.key ++ (q.kb, b) :: [] = partsL q.ka q.kb a b) := by show _ = _; rw [HP.out.1, parts_2 (HP.out.2.1 (by omega)) hz]; rfl
        have HQ : Hid (∀ x : Part, x.key = (q.kb, b) → (pre ++ [x]).map Part.key = [(q.ka, a), (q.kb, b)].take 2) := by intro x hx; rw [List.map_append, HP.out.1]; simp [hx]
        have hp1 := HP.out.2.1
        have HZ : Hid ((1 ≤ 2 → q.ka ≠ 0) ∧ (2 ≤ 2 → q.kb ≠ 0)) := ⟨fun _ => hp1 (by omega), fun _ => hz⟩
        clear HP hz hp1
        rw [show ((1 : Nat) : Int) = 1 from rfl]
        gi_wp2_with (refine ⟨trivial, ?_⟩; gi_at_call 216; refine (callsIn_wide.2 (operandOf_any q.kb hkb _)).mono ?_; rintro e w1 ⟨sh, gu, rfl, hF, k1⟩; have hJ1 := hJk _ _ _ hJ k1; obtain ⟨fn, tmps, assign, body, hy, hR⟩ := hY pre ⟨q.kb, b, sh, gu⟩ w1 hJ1 ⟨⟨_, HN.out⟩, hF⟩; dsimp only [partE] at hy)
        refine hR.mono ?_
        rintro e W3 ⟨rfl, hJ3⟩
        gi_wp2
        go_roundw
        case rel => exact ⟨2, pre ++ [_], by omega, rfl, ⟨HQ.out _ rfl, HZ.out⟩, hJ3⟩
        case measure => simp [intOf]
    · have hS : Hid (pre.map Part.key = partsL q.ka q.kb a b) := by show _ = _; rw [HP.out.1, parts_2 (HP.out.2.1 (by omega)) (HP.out.2.2 (by omega))]; rfl
      clear HP hka hkb
      rw [show ((2 : Nat) : Int) = 2 from rfl]
      gi_wp2
      go_end0
      exact ⟨⟨_, rfl⟩, pre, hS.out, hJ⟩

end Go.Proofs.YtgnooffedmeenaaGreatDoor.O

namespace Go.Proofs.YtgnooffedmeenaaGreatDoor.O
open Go.RowKit Go.Shelf
attribute [local go_sem] Oper.semAt_some

theorem blk_own {β : Type} (B g : Nat) (t : TypeId) (cs : β → Array Value) : OwnFrom B (fun s W => Blk W g t (cs s)) := by
  intro s X Y row h hg hrow
  refine (hg.block g h.lt (fun e => ?_)).trans h
  obtain ⟨_, o, ho, hc⟩ := hrow g e.symm
  rw [show X.heap[g]? = _ from h] at ho
  cases ho; cases hc
theorem keep_own {β : Type} {B : Nat} {w0 : World} (O : Nat → Prop) (hB : w0.heap.size ≤ B) : OwnFrom B (fun (_ : β) W => Keep O w0 W) := by
  intro s X Y row h hg hrow
  exact h.grown hg (fun g e hl => by have := (hrow g e).1; omega)
theorem fnAt_own {β : Type} (B : Nat) (k : Int) (sh gu : Value) : OwnFrom B (fun (_ : β) W => FnAt k sh gu W) := by
  intro s X Y row h hg hrow
  have hc : ∀ p v, X.cell? p = some v → Y.cell? p = some v := fun p v hp => cell_kept hp hg (fun r e => (hrow r e).2)
  rcases h with h | h | ⟨h, b, c, h1, h2, h3, h4⟩
  · exact .inl h
  · exact .inr (.inl h)
  · exact .inr (.inr ⟨h, b, c, h1, h2, hc _ _ h3, hc _ _ h4⟩)
theorem keepsFrom_one {B g : Nat} {W W' : World} (h : Keep (fun k => k = g) W W') (hg : g < B) : KeepsFrom B W W' :=
  ⟨h.size, fun k _ hk hh _ => (h.block k (Array.getElem?_eq_some_iff.1 hh).1 (fun e => by omega)).trans hh⟩

set_option maxHeartbeats 1000000 in
theorem parts_any (q : Row) (op a b : Int) (w : World) : Calls Tryz.prog 264 #[rowV q, instV op a b] w fun e w' =>
    e = .returned (.func (.func 299) #[] #[.pointer (some ⟨w.heap.size + 1, 0, none⟩), .pointer (some ⟨w.heap.size, 0, none⟩)]) ∧ Blk w' w.heap.size 137 (cells9 q) ∧ Blk w' (w.heap.size + 1) 55 #[.int .i64 op, .int .i64 a, .int .i64 b] ∧ Keep NoB w w' := by
  go_enter Tryz.func264, Tryz.ntmps264
  go_wp2
  go_ret
  have h1 := Blk.new (w.alloc (.cells (cells9 q) 137)) 55 #[.int .i64 op, .int .i64 a, .int .i64 b]
  rw [World.size_alloc] at h1
  exact ⟨rfl, (Blk.new _ _ _).alloc _, h1, ((Keep.refl NoB w).alloc _).alloc _⟩

/-- The text of the operands that have come. -/
def textP (l : List (Int × Int)) : List UInt8 := l.flatMap fun x => 32 :: word x.1 x.2
theorem textP_parts (ka kb a b : Int) (h : ka = 0 → kb = 0) : textP (partsL ka kb a b) = partL ka a ++ partL kb b := by
  unfold partsL partL textP
  split
  · rename_i hz
    rw [if_pos (h hz)]; rfl
  · split
    · simp
    · simp
theorem kinds_none (op : Int) : (rowAt op).ka = 0 → (rowAt op).kb = 0 := by
  have := rowAt_all (p := fun r => decide (r.ka = 0 → r.kb = 0)) (by decide) (by decide) op
  exact of_decide_eq_true this

theorem textP_snoc (l : List (Int × Int)) (x : Int × Int) : textP (l ++ [x]) = textP l ++ 32 :: word x.1 x.2 := by unfold textP; simp
theorem textP_len : ∀ (l : List (Int × Int)), (∀ x ∈ l, I64 x.2) → (textP l).length ≤ 22 * l.length
  | [], _ => Nat.zero_le _
  | x :: l, h => by
    have h1 := word_len x.1 x.2 (h x (by simp))
    have h2 := textP_len l (fun y hy => h y (by simp [hy]))
    have e : textP (x :: l) = (32 :: word x.1 x.2) ++ textP l := by unfold textP; simp
    rw [e]
    simp
    omega
theorem parts_mem {ka kb a b : Int} {x : Int × Int} (h : x ∈ partsL ka kb a b) : x.1 ≠ 0 ∧ (x.2 = a ∨ x.2 = b) := by
  unfold partsL at h
  split at h
  · cases h
  · split at h
    · rename_i h1 h2; simp at h; subst h; exact ⟨h1, .inl rfl⟩
    · rename_i h1 h2
      simp at h
      rcases h with rfl | rfl
      · exact ⟨h1, .inl rfl⟩
      · exact ⟨h2, .inr rfl⟩
theorem parts_len (ka kb a b : Int) : (partsL ka kb a b).length ≤ 2 := by unfold partsL; split <;> (try split) <;> simp
theorem part_facts {ka kb a b : Int} {pre : List Part} {x : Part} {W : World} (h : PartN ka kb a b pre x W) (ha : I64 a) (hb : I64 b) : x.k ≠ 0 ∧ I64 x.n ∧ (textP (pre.map Part.key)).length ≤ 44 := by
  obtain ⟨⟨post, hp⟩, _⟩ := h
  have h64 : ∀ y ∈ partsL ka kb a b, I64 y.2 := fun y hy => by rcases (parts_mem hy).2 with e | e <;> rw [e] <;> assumption
  have hx := parts_mem (x := x.key) (by rw [← hp]; simp)
  have hl := congrArg List.length hp
  have h2 := parts_len ka kb a b
  have hx64 := h64 x.key (by rw [← hp]; simp)
  have ht := textP_len (pre.map Part.key) (fun y hy => h64 y (by rw [← hp]; exact List.mem_append_left _ hy))
  simp at hl ht
  exact ⟨hx.1, hx64, by omega⟩
theorem name_len (op : Int) : (rowAt op).name.length ≤ 7 := by
  have := rowAt_all (p := fun r => decide (r.name.length ≤ 7)) (by decide) (by decide) op
  exact of_decide_eq_true this

theorem Keep_putObj {O : Nat → Prop} {w W : World} {D : Nat} {o : Obj} (h : Keep O w W) (hD : w.heap.size ≤ D) : Keep O w (W.putObj D o) := h.grown (grownBy_putObj' W D o) (fun g e hl => by cases e; omega)
theorem str_sp (s d : List UInt8) : str s ++ ((⟨#[32]⟩ : ByteArray) ++ str d) = str (s ++ 32 :: d) := by
  apply ByteArray.ext
  simp [ByteArray.data_append]

theorem show_end {w2 W w3 : World} {bt : Nat} {cs : Array Value} {t : TypeId} {u : Value} (h : Blk (w3.setCell ⟨bt, 0, none⟩ u) bt t cs) (h2 : Keep (fun k => k = bt) w2 W) (k4 : Keep NoB W w3) (hlt : bt < w2.heap.size) :
    (Exit.normal = Exit.normal) ∧ (Blk (w3.setCell ⟨bt, 0, none⟩ u) bt t cs ∧ Keep (fun k => k = bt) w2 (w3.setCell ⟨bt, 0, none⟩ u)) ∧ KeepsFrom w2.heap.size W (w3.setCell ⟨bt, 0, none⟩ u) :=
  ⟨rfl, ⟨h, (h2.trans k4 (fun _ hf _ => hf.elim)).setCell (fun _ => rfl) _⟩, keepsFrom_one (Keep.setCell (O := fun k => k = bt) (p := ⟨bt, 0, none⟩) (k4.mono (fun _ hf _ => hf.elim)) (fun _ => rfl) u) hlt⟩

/-- The activation at the head of the loop's body. -/
def showAct (op a b : Int) (r : Row) (g h : Nat) (x : Part) (Bo : Nat) : Act :=
  { tmps := #[instV op a b, .pointer (some ⟨g, 0, none⟩), .string ⟨#[]⟩, .pointer (some ⟨h, 0, none⟩), .bool true, .pointer (some ⟨h + 1, 0, none⟩), .pointer (some ⟨Bo, 0, none⟩), .int .i64 x.n, .tuple #[rowV r, .bool true],
      instV op a b, .tuple #[rowV r, .bool true], rowV r, .bool true, .bool true, .bool false, .pointer (some ⟨h, 0, none⟩), .string (str r.name), rowV r, instV op a b,
      .func (.func 299) #[] #[.pointer (some ⟨h + 1 + 1 + 1, 0, none⟩), .pointer (some ⟨h + 1 + 1, 0, none⟩)], .agg #[.int .i64 x.k, .int .i64 (lo x.k), .int .i64 (hi x.k), x.sh, x.gu], .int .i64 x.n,
      undef, undef, undef, undef, undef, undef, undef, undef], defers := [] }

set_option maxRecDepth 100000 in
set_option maxHeartbeats 4000000 in
theorem show_yes (op a b : Int) (w : World) (hok : okI op a b = true) (ha : I64 a) (hb : I64 b) (hL : LaidO w) :
    Calls Tryz.prog 211 #[instV op a b] w fun e w' => ∃ d, e = .returned (.string d) ∧ Hid (d = str (textI op a b)) ∧ Keep NoB w w' := by
  obtain ⟨r, hr⟩ : ∃ r, rowAt op = r := ⟨_, rfl⟩
  have hka := kinds_ok op
  have hkn := kinds_none op
  have hnl := name_len op
  have HT : Hid (str (textI op a b) = str (r.name ++ textP (partsL r.ka r.kb a b))) := by show _ = _; unfold textI; rw [hr, textP_parts _ _ _ _ (hr ▸ hkn)]
  have HR := Lib.hid (fun w => rowFor_any op a b r w (by rw [rowR_ok hok]; exact hr))
  rw [hr] at hka hnl
  rw [hok] at HR
  have HA := Lib.hid ha
  have HB := Lib.hid hb
  clear hok hr hkn ha hb
  refine (callsIn_wide (n := 4)).1 ?_
  refine callsIn_of_wp_marks Tryz.func211 rfl trivial ?_ rfl
  simp only [Tryz.ntmps211, List.size_toArray, List.length_cons, List.length_nil, Nat.reduceAdd, Nat.reduceSub, Array.replicate_succ, Array.replicate_zero, List.push_toArray, List.append_toArray, List.nil_append, List.cons_append]
  gi_wp2_with (first
    | (refine ⟨trivial, ?_⟩; gi_at_call 166; refine (callsIn_wide.2 (HR.out _)).mono ?_; rintro e w1 ⟨rfl, k1⟩; have bi := (Blk.new w 55 #[.int .i64 op, .int .i64 a, .int .i64 b]).keep k1 id; have i0 : ∀ o o', ((w1.alloc o).alloc o').cell? ⟨w.heap.size, 0, none⟩ = some (.int .i64 op) := fun o o' => ((bi.alloc o).alloc o').cell 0; have i1 : ∀ o o', ((w1.alloc o).alloc o').cell? ⟨w.heap.size, 1, none⟩ = some (.int .i64 a) := fun o o' => ((bi.alloc o).alloc o').cell 1; have i2 : ∀ o o', ((w1.alloc o).alloc o').cell? ⟨w.heap.size, 2, none⟩ = some (.int .i64 b) := fun o o' => ((bi.alloc o).alloc o').cell 2)
    | (refine ⟨trivial, ?_⟩; gi_at_call 264; refine (callsIn_wide.2 (parts_any r op a b _)).mono ?_; rintro e w2 ⟨rfl, br, bx, k2⟩))
  simp only [World.size_alloc] at br bx
  have hbt := (Blk.new (w1.alloc (.cells (cells9 r) 137)) 9 #[.string (str r.name)]).keep k2 id
  rw [World.size_alloc] at hbt
  have hltb := hbt.lt
  have hKw : Keep NoB w w2 := keepN ((keepN ((Keep.refl NoB w).alloc _) k1).alloc _ |>.alloc _) k2
  have HLw := Lib.hid hL
  have hsz : w.heap.size < w1.heap.size := by have := k1.size; simp at this; omega
  clear hL bi i0 i1 i2 k1 k2
  have hI : OwnFrom w2.heap.size (fun (pre : List Part) W => Blk W (w1.heap.size + 1) 9 #[.string (str (r.name ++ textP (pre.map Part.key)))] ∧ Keep (fun k => k = w1.heap.size + 1) w2 W) :=
    (blk_own w2.heap.size (w1.heap.size + 1) 9 (fun pre : List Part => #[.string (str (r.name ++ textP (pre.map Part.key)))])).and (keep_own _ (Nat.le_refl _))
  refine wpIn_rangeFunc_brings (m := 2) (gf := 299) (lb := #[.pointer (some ⟨w1.heap.size + 1 + 1 + 1, 0, none⟩), .pointer (some ⟨w1.heap.size + 1 + 1, 0, none⟩)]) rfl (enters_of Tryz.func299 (by kernel_rfl) rfl)
    (parts1_in 2 r op a b (w1.heap.size + 1 + 1 + 1) (w1.heap.size + 1 + 1) ⟨hka.1, hka.2.1⟩ hka.2.2 (fun pre W => Blk W (w1.heap.size + 1) 9 #[.string (str (r.name ++ textP (pre.map Part.key)))] ∧ Keep (fun k => k = w1.heap.size + 1) w2 W)
      (fun pre W h => bx.keep h.2 (by omega)) (fun pre W h => br.keep h.2 (by omega))) (fun _ => rfl) hI ⟨by simpa [textP] using hbt, Keep.refl _ _⟩
    (fun pre x a' W => (Blk W (w1.heap.size + 1) 9 #[.string (str (r.name ++ textP (pre.map Part.key)))] ∧ Keep (fun k => k = w1.heap.size + 1) w2 W) ∧ PartN r.ka r.kb a b pre x W ∧ ∃ Bo, Bo ≠ w1.heap.size + 1 ∧ Blk W Bo 256 #[.int .i64 x.k, .int .i64 (lo x.k), .int .i64 (hi x.k), x.sh, x.gu] ∧ a' = showAct op a b r w.heap.size w1.heap.size x Bo) ?hax ?assign ?body ?done
  case hax =>
    rintro pre x a' s X Y row ⟨h1, ⟨h2, h3⟩, Bo, h4, h5, h6⟩ hg hrow
    exact ⟨hI _ _ _ _ h1 hg hrow, ⟨h2, fnAt_own (β := Unit) _ _ _ _ () _ _ _ h3 hg hrow⟩, Bo, h4, blk_own (β := Unit) _ _ _ (fun _ => _) () _ _ _ h5 hg hrow, h6⟩
  case assign =>
    rintro l pre ⟨k, n, sh, gu⟩ W hi hen
    have hne : W.heap.size ≠ w1.heap.size + 1 := by have := hi.1.lt; omega
    have hen2 := Lib.hid hen
    have hi2 := Lib.hid hi
    have hk0 := (part_facts hen HA.out HB.out).1
    rcases hen.2 with ⟨h0, _⟩ | ⟨_, h1, h2⟩ | ⟨_, b1, c1, h1, h2, _, _⟩
    · exact absurd h0 hk0
    all_goals
      simp only at h1 h2
      subst h1 h2
      clear hen hi
      dsimp only [partE, opV]
      gi_wp2
      exact ⟨⟨⟨hi2.out.1.alloc _, hi2.out.2.alloc _⟩, ⟨hen2.out.1, hen2.out.2.keep ((Keep.refl NoB W).alloc _)⟩, W.heap.size, hne, Blk.new W _ _, rfl⟩, keepsFrom_keep ((Keep.refl NoB W).alloc _)⟩
  case body =>
    rintro l pre ⟨k, n, sh, gu⟩ a' W ⟨hi, hen, Bo, hne, bo, rfl⟩
    obtain ⟨hk0, hn, htl⟩ := part_facts hen HA.out HB.out
    have hKW : Keep NoB w W := hKw.trans hi.2 (fun k e hl => by subst e; omega)
    have hSz : (str (r.name ++ textP (pre.map Part.key))).size ≤ 60 := by rw [_root_.Go.Proofs.YtgnooffedmeenaaGreatDoor.W.size_of (s := r.name ++ textP (pre.map Part.key)) (by simp), List.length_append]; omega
    have HS : Hid (str (r.name ++ textP ((pre ++ [(⟨k, n, sh, gu⟩ : Part)]).map Part.key)) = str (r.name ++ textP (pre.map Part.key)) ++ ((⟨#[32]⟩ : ByteArray) ++ str (word k n))) := by
      show _ = _
      rw [str_sp, List.map_append]
      simp only [List.map_cons, List.map_nil]
      rw [textP_snoc, List.append_assoc]
      rfl
    have hWd : (str (word k n)).size ≤ 21 := by rw [_root_.Go.Proofs.YtgnooffedmeenaaGreatDoor.W.size_of (s := word k n) (by simp)]; exact word_len k n hn
    have hlt := hi.1.lt
    obtain ⟨D, hD⟩ : ∃ D, str (word k n) = D := ⟨_, rfl⟩
    rw [hD] at HS hWd
    generalize str (r.name ++ textP (pre.map Part.key)) = S at hi hSz HS
    have ct : W.cell? ⟨w1.heap.size + 1, 0, none⟩ = some (.string S) := hi.1.cell 0
    have ft := hi.1.frozen 0
    have hB := Lib.hid hi
    clear hi htl
    rcases hen.2 with ⟨h0, _⟩ | ⟨hd, h1, h2⟩ | ⟨hd, b1, c1, h1, h2, hb1, _⟩
    · exact absurd h0 hk0
    · simp only at h1 h2 hd
      subst h1 h2
      have HC := Lib.hid (fun (W' : World) (hk : Keep NoB W W') => (show_dig k n W' hd hn (HLw.out.keep (keepN hKW hk))).mono (R' := fun e w' => e = .returned (.string D) ∧ Keep NoB W' w') (fun _ _ ⟨d, he, hd', hk'⟩ => ⟨by rw [he, hd'.out, hD], hk'⟩))
      have co : W.cell? ⟨Bo, 3, none⟩ = some (fnV 304) := bo.cell 3
      clear hen hd hk0 bo hD
      dsimp only [showAct]
      have hmix : Tryz.prog.follows .mixedOrders = true := by kernel_rfl
      have q1 : ¬ 9223372036854775807 < 1 + D.size := by omega
      have q2 : ¬ 9223372036854775807 < S.size + (1 + D.size) := by omega
      gi_wp2
      gi_region_with_o (refine ⟨trivial, ?_⟩; gi_at_call 304; refine (CallsIn.inRound l (callsIn_wide.2 (HC.out _ (by first | exact Keep.refl _ _ | exact (Keep.refl _ _).drew | exact (Keep.refl _ _).drew.drew)))).mono ?_; rintro e w3 ⟨rfl, k3⟩; have k4 : Keep NoB W w3 := ⟨k3.os, k3.tape, k3.output, k3.size, k3.block⟩; have b3 : Blk w3 (w1.heap.size + 1) 9 #[.string S] := hB.out.1.keep k4 id; have c3 : w3.cell? ⟨w1.heap.size + 1, 0, none⟩ = some (.string S) := b3.cell 0; have f3 : w3.frozen? ⟨w1.heap.size + 1, 0, none⟩ = false := b3.frozen 0)
      all_goals
        have hf : Blk (w3.setCell ⟨w1.heap.size + 1, 0, none⟩ (.string (S ++ ((⟨#[32]⟩ : ByteArray) ++ D)))) (w1.heap.size + 1) 9 #[.string (S ++ ((⟨#[32]⟩ : ByteArray) ++ D))] := b3.put 0 _
        rw [← HS.out] at hf ⊢
        exact show_end hf hB.out.2 k4 hltb
    · simp only at h1 h2 hd
      subst h1 h2
      have HC := Lib.hid (fun (W' : World) (hk : Keep NoB W W') => (show_word k n b1 W' hd hn (HLw.out.keep (keepN hKW hk)) (hk.cell hb1 id)).mono (R' := fun e w' => e = .returned (.string D) ∧ Keep NoB W' w') (fun _ _ ⟨d, he, hd', hk'⟩ => ⟨by rw [he, hd'.out, hD], hk'⟩))
      have co : W.cell? ⟨Bo, 3, none⟩ = some (boxV 308 b1) := bo.cell 3
      clear hen hd hk0 bo hD hb1
      dsimp only [showAct]
      have hmix : Tryz.prog.follows .mixedOrders = true := by kernel_rfl
      have q1 : ¬ 9223372036854775807 < 1 + D.size := by omega
      have q2 : ¬ 9223372036854775807 < S.size + (1 + D.size) := by omega
      gi_wp2
      gi_region_with_o (refine ⟨trivial, ?_⟩; gi_at_call 308; refine (CallsIn.inRound l (callsIn_wide.2 (HC.out _ (by first | exact Keep.refl _ _ | exact (Keep.refl _ _).drew | exact (Keep.refl _ _).drew.drew)))).mono ?_; rintro e w3 ⟨rfl, k3⟩; have k4 : Keep NoB W w3 := ⟨k3.os, k3.tape, k3.output, k3.size, k3.block⟩; have b3 : Blk w3 (w1.heap.size + 1) 9 #[.string S] := hB.out.1.keep k4 id; have c3 : w3.cell? ⟨w1.heap.size + 1, 0, none⟩ = some (.string S) := b3.cell 0; have f3 : w3.frozen? ⟨w1.heap.size + 1, 0, none⟩ = false := b3.frozen 0)
      all_goals
        have hf : Blk (w3.setCell ⟨w1.heap.size + 1, 0, none⟩ (.string (S ++ ((⟨#[32]⟩ : ByteArray) ++ D)))) (w1.heap.size + 1) 9 #[.string (S ++ ((⟨#[32]⟩ : ByteArray) ++ D))] := b3.put 0 _
        rw [← HS.out] at hf ⊢
        exact show_end hf hB.out.2 k4 hltb
  case done =>
    rintro D xs W hD hS hi hK
    have ct := hi.1.cell 0
    simp only [List.getElem?_toArray, List.getElem?_cons_zero] at ct
    gi_wp2
    refine ⟨by simp, .inl ⟨_, _, rfl, run_takeDeferred hK, ?_⟩⟩
    refine ⟨_, results_tmp rfl _ _ _, _, rfl, ?_, Keep_putObj (hKw.trans hi.2 (fun k e hl => by subst e; omega)) (Nat.le_trans hKw.size hD)⟩
    show _ = _
    rw [HT.out]

end Go.Proofs.YtgnooffedmeenaaGreatDoor.O

namespace Go.Proofs.YtgnooffedmeenaaGreatDoor.W
open Go.Lib

/-- The number that ParseInt hands back, whatever the error. -/
def pI (l : List UInt8) : Int := match atoiAll l with | .ok v => v | .range => atoiSat l | _ => 0
/-- A number's place in an int64. -/
def w64 (n : Int) : Int := (n + 9223372036854775808) % 18446744073709551616 - 9223372036854775808
/-- The number that the code guesses of a text. -/
def gN (t : Int) (s : List UInt8) : Int := if s = [110, 105, 108] then 0 else w64 (pI (trimPrefix s (sgn t)) + off t)
/-- Read: the number of the value, if the text is that of one. -/
def rd (t : Int) (s : List UInt8) : Option Int := if showL t (gN t s) = s then some (gN t s) else none

/-- Numbers that int64 has. -/
def I64 (n : Int) : Prop := -9223372036854775808 ≤ n ∧ n ≤ 9223372036854775807

/-! ### The document's own way of reading -/

end Go.Proofs.YtgnooffedmeenaaGreatDoor.W

namespace Go.Proofs.YtgnooffedmeenaaGreatDoor.W
open Go.RowKit

theorem rune_let {t : Int} (h : knownB t = true) : ∃ r : Int, letV[t.toNat]? = some (.int .i32 r) ∧ 0 ≤ t ∧ t ≤ 4 ∧ -2147483648 ≤ r ∧ r ≤ 2147483647 ∧ Lib.runeCells r = Lib.byteCells (letC t) := by
  rcases known_cases h with rfl | rfl | rfl | rfl
  · exact ⟨73, rfl, by decide, by decide, by decide, by decide, rfl⟩
  · exact ⟨82, rfl, by decide, by decide, by decide, by decide, rfl⟩
  · exact ⟨70, rfl, by decide, by decide, by decide, by decide, rfl⟩
  · exact ⟨80, rfl, by decide, by decide, by decide, by decide, rfl⟩

theorem bc_append (a b : List UInt8) : Lib.byteCells a ++ Lib.byteCells b = Lib.byteCells (a ++ b) := by simp [Lib.byteCells]

set_option maxRecDepth 100000 in
set_option maxHeartbeats 4000000 in
theorem text_any (A : Option Addr) (l : List Int) (n c : Nat) (w : World) (hL : LetAt w) (ha : Rd w A (ivs l)) (hn : Hid (l.length = n)) (h1 : n ≤ 9223372036854775807) :
    Calls Tryz.prog 146 #[.slice A n c] w fun e w' => e = .returned (.string (str (txt l))) ∧ Keep NoB w w' := by
  by_cases hlong : 1024 < n
  · have HT := Lib.hid (txt_long (l := l) (by rw [hn.out]; exact hlong))
    go_enter Tryz.func146, Tryz.ntmps146
    go_wp2
    go_ret
    exact ⟨by rw [HT.out]; rfl, Keep.refl _ _⟩
  · go_enter Tryz.func146, Tryz.ntmps146
    go_wp2
    have hI0 : Lib.IsBuilderF 122 5 w.heap.size w.heap.size (Lib.byteCells ((l.take 0).flatMap letC)) (w.alloc (.cells #[.pointer none, .slice none 0 0] 122)) := Lib.IsBuilderF.of (Lib.fresh_isBuilder 122 5 w)
    have hb0 : Below w.heap.size w (w.alloc (.cells #[.pointer none, .slice none 0 0] 122)) := (Below.refl _ w).alloc (Nat.le_refl _) _
    go_loopw [11] (fun i wr => ∃ k : Nat, k ≤ n ∧ i = .int .i64 k ∧ Lib.IsBuilderF 122 5 w.heap.size w.heap.size (Lib.byteCells ((l.take k).flatMap letC)) wr ∧ Hid ((l.take k).all knownB = true) ∧ Below w.heap.size w wr) (fun i _ => n - (intOf i).toNat)
    case atStart => exact ⟨0, Nat.zero_le _, rfl, hI0, rfl, hb0⟩
    case round =>
      obtain ⟨k, hk, rfl, hI, hall, hB⟩ := hrel
      clear hI0 hb0
      by_cases hlt : k < n
      · have hka : k < l.length := by rw [hn.out]; exact hlt
        obtain ⟨g, off, rfl, hc⟩ := rdI_at ha (by omega)
        have hKr : Keep NoB w wr := Keep.of_below hB
        have ca := hKr.cell (hc k hka) id
        have hLr := hL.keep hKr
        clear hc
        have HT := Lib.hid (show l.take (k + 1) = l.take k ++ [l[k]] from List.take_succ_eq_append_getElem hka)
        have HM := Lib.hid (List.getElem_mem hka)
        generalize l[k] = t at ca HT HM
        cases hkn : knownB t
        · have HX : Hid (txt l = []) := txt_bad (by rw [List.all_eq_false]; exact ⟨t, HM.out, by simp [hkn]⟩)
          go_wp2_with (go_at_call 161; refine (known_any _ _).mono ?_; rintro e w' ⟨rfl, rfl⟩)
          go_ret
          exact ⟨by rw [HX.out]; rfl, hKr⟩
        · have hall2 : Hid ((l.take (k + 1)).all knownB = true) := by show _ = _; rw [HT.out, List.all_append, hall.out]; simp [hkn]
          obtain ⟨r, hr, ht0, ht4, hr0, hr1, hrc⟩ := rune_let hkn
          have HRC := Lib.hid hrc
          have HFM : Hid (Lib.byteCells ((l.take (k + 1)).flatMap letC) = Lib.byteCells ((l.take k).flatMap letC) ++ Lib.runeCells r) := by show _ = _; rw [HT.out, HRC.out, bc_append]; simp
          have hlen : (Lib.byteCells ((l.take k).flatMap letC)).length + 4 ≤ 140737488355328 := by
            rw [Lib.byteCells_length, flat_let_length _ hall.out, List.length_take]; omega
          obtain ⟨tn, rfl⟩ := Int.eq_ofNat_of_zero_le ht0
          have cl : wr.cell? ⟨1, tn, none⟩ = some (.int .i32 r) := (hLr.cell tn).trans (by simpa using hr)
          clear hrc hr HT HM hall HRC ha
          go_wp2_with (first
            | (go_at_call 161; refine (known_any _ _).mono ?_; rintro e w' ⟨rfl, rfl⟩)
            | (go_at_call 68; refine (Tryz.Builder_WriteRune_k w.heap.size w.heap.size _ r hr0 hr1 wr hI hlen hB.size).mono ?_; rintro e w2 ⟨rfl, hI2, hb2, -⟩))
          go_roundw
          case rel => exact ⟨k + 1, by omega, by go_num, by rw [HFM.out]; exact .inr hI2, hall2, hB.trans hb2⟩
          case measure => simp [intOf]; omega
      · obtain rfl : k = n := by omega
        rw [List.take_of_length_le (by rw [hn.out]; omega)] at hI hall
        have HX : Hid (l.flatMap letC = txt l) := by show _ = _; unfold txt; rw [if_pos ⟨by rw [hn.out]; omega, hall.out⟩]
        have hall' := hall.out
        have H := Lib.hid hall'
        clear hall hall'
        rw [HX.out] at hI
        go_wp2_with (go_at_call 69; refine (Tryz.Builder_String_any_k w.heap.size w.heap.size (txt l) wr hI hB.size).mono ?_; rintro e w2 ⟨rfl, -, hb2, -⟩)
        go_ret
        exact ⟨rfl, Keep.of_below (hB.trans hb2)⟩

theorem str_snoc (s : List UInt8) (c : UInt8) : str s ++ ⟨#[c]⟩ = str (s ++ [c]) := by
  apply ByteArray.ext
  simp [ByteArray.data_append]

theorem rletter_at (t : Int) (L : ByteArray) (w : World) (hL : Hid (str (letC t) = L)) :
    Calls Tryz.prog 149 #[.int .i64 t] w fun e w' => e = .returned (.string L) ∧ w = w' := by
  have := rletter_any t w
  rw [hL.out] at this
  exact this

set_option maxRecDepth 100000 in
set_option maxHeartbeats 4000000 in
theorem rtext_any (A : Option Addr) (l : List Int) (n c : Nat) (w : World) (ha : Rd w A (ivs l)) (hn : Hid (l.length = n)) (h1 : n ≤ 9223372036854775807) :
    Calls Tryz.prog 84 #[.slice A n c] w fun e w' => e = .returned (.string (str (txt l))) ∧ Keep NoB w w' := by
  by_cases hlong : 1024 < n
  · have HT := Lib.hid (txt_long (l := l) (by rw [hn.out]; exact hlong))
    go_enter Tryz.func84, Tryz.ntmps84
    go_wp2
    go_ret
    exact ⟨by rw [HT.out]; rfl, Keep.refl _ _⟩
  · go_enter Tryz.func84, Tryz.ntmps84
    go_wp2
    go_loop [3, 4] (fun v i => ∃ (k : Nat) (s : List UInt8), k ≤ n ∧ i = .int .i64 k ∧ v = .string (str s) ∧ s.length ≤ 1024 ∧ Hid (s = (l.take k).flatMap letC ∧ (l.take k).all knownB = true)) (fun _ i => n - (intOf i).toNat)
    case atStart => exact ⟨0, [], Nat.zero_le _, rfl, rfl, Nat.zero_le _, rfl, rfl⟩
    case round =>
      obtain ⟨k, s, hk, rfl, rfl, hs, hI⟩ := hrel
      by_cases hlt : k < n
      · have hka : k < l.length := by rw [hn.out]; exact hlt
        obtain ⟨g, off, rfl, hc⟩ := rdI_at ha (by omega)
        have ca := hc k hka
        clear hc
        have HT := Lib.hid (show l.take (k + 1) = l.take k ++ [l[k]] from List.take_succ_eq_append_getElem hka)
        have HM := Lib.hid (List.getElem_mem hka)
        generalize l[k] = t at ca HT HM
        cases hkn : knownB t
        · have HX : Hid (txt l = []) := txt_bad (by rw [List.all_eq_false]; exact ⟨t, HM.out, by simp [hkn]⟩)
          go_wp2_with fail
          refine (rletter_at t ⟨#[]⟩ w (by show _ = _; rw [letC_none hkn])).mono ?_
          rintro e w' ⟨rfl, rfl⟩
          go_wp2
          go_ret
          exact ⟨by rw [HX.out]; rfl, Keep.refl _ _⟩
        · obtain ⟨c0, hc0, _⟩ := letC_known hkn
          have hI2 : Hid (s ++ [c0] = (l.take (k + 1)).flatMap letC ∧ (l.take (k + 1)).all knownB = true) := by
            refine ⟨?_, ?_⟩
            · rw [HT.out, hI.out.1]; simp [hc0]
            · rw [HT.out, List.all_append, hI.out.2]; simp [hkn]
          have hs2 : Hid ((s ++ [c0]).length ≤ 1024) := by
            show _ ≤ _
            rw [hI2.out.1, flat_let_length _ hI2.out.2, List.length_take]; omega
          have hL : Hid (str (letC t) = ⟨#[c0]⟩) := by show _ = _; rw [hc0]
          clear HT HM hc0 hI ha hkn
          go_wp2_with fail
          refine (rletter_at t ⟨#[c0]⟩ w hL).mono ?_
          rintro e w' ⟨rfl, rfl⟩
          go_wp2
          go_round
          case rel => exact ⟨k + 1, s ++ [c0], by omega, by go_num, by rw [← str_snoc], hs2.out, hI2⟩
          case measure => simp [intOf]; omega
      · obtain rfl : k = n := by omega
        rw [List.take_of_length_le (by rw [hn.out]; omega)] at hI
        have HX : Hid (s = txt l) := by show _ = _; unfold txt; rw [if_pos ⟨by rw [hn.out]; omega, hI.out.2⟩]; exact hI.out.1
        go_wp2
        go_ret
        exact ⟨by rw [← HX.out]; rfl, Keep.refl _ _⟩

end Go.Proofs.YtgnooffedmeenaaGreatDoor.W

namespace Go.Proofs.YtgnooffedmeenaaGreatDoor.W
open Go.RowKit

theorem own_iter {w : World} {E size n : Nat} {O : Nat → Prop} {v : Value} {xs : List Value} (h : Own w E size O v n xs) {k pos : Nat} {s : ByteArray} (hk : w.heap[k]? = some (.stringIter s pos)) : v.ownBlock ≠ some k := by
  rcases h.1.2 with ⟨rfl, _⟩ | ⟨g, cap, cur, rfl, _, hg, _⟩
  · simp [Value.ownBlock]
  · intro e
    have : g = k := by simpa [Value.ownBlock] using e
    subst this
    rw [hk] at hg; cases hg
theorem _root_.Go.Proofs.YtgnooffedmeenaaGreatDoor.Own.iterAt {w : World} {E size n : Nat} {O : Nat → Prop} {v : Value} {xs : List Value} (h : Own w E size O v n xs) {k pos : Nat} {s : ByteArray} (hk : w.heap[k]? = some (.stringIter s pos)) (pos' : Nat) : Own (w.iterAt k s pos') E size O v n xs := by
  have hne := own_iter h hk
  refine ⟨⟨h.1.1, ?_⟩, h.2⟩
  rcases h.1.2 with h2 | ⟨g, cap, cur, rfl, hb, hh, r⟩
  · exact .inl h2
  · exact .inr ⟨g, cap, cur, rfl, hb, (Lib.iterAt_other w k g s pos' (fun e => hne (by rw [e]; rfl))).trans hh, r⟩
theorem _root_.Go.Proofs.YtgnooffedmeenaaGreatDoor.Keep.iterAt {w w' : World} (h : Keep NoB w w') {k : Nat} (hk : w.heap.size ≤ k) (s : ByteArray) (pos : Nat) : Keep NoB w (w'.iterAt k s pos) := Keep.of_below (Lib.below_iterAt h.toBelow hk s pos)

/-- What Types answers, in one form. -/
def tN (s : List UInt8) : Nat := if (untxt s).isSome = true then s.length else 0
def tL (s : List UInt8) : List Int := (untxt s).getD []
def tE (s : List UInt8) : Int := if (untxt s).isSome = true then 0 else 20
end Go.Proofs.YtgnooffedmeenaaGreatDoor.W

namespace Go.Proofs.YtgnooffedmeenaaGreatDoor.O

/-! ### Names -/

/-! ### Operands -/

/-- The number that a text is guessed to be. -/
def ltrI (s : List UInt8) : Int := if W.tE s = 0 ∧ W.tN s = 1 then (W.tL s).getD 0 0 else 0
def gK (k : Int) (s : List UInt8) : Int := if digK k = true then W.pI s else if k = 8 then A.ofI A.binNs s else if k = 9 then A.ofI A.unNs s else if k = 2 ∨ k = 3 then ltrI s else 0
/-- The operands that are guessed of what stands behind the name. -/
def gA (op : Int) (t : List UInt8) : Int := if (rowAt op).ka = 0 then 0 else gK (rowAt op).ka (Lib.cut t [32]).1
def gB (op : Int) (t : List UInt8) : Int := if (rowAt op).kb = 0 then 0 else gK (rowAt op).kb (Lib.cut t [32]).2.1
end Go.Proofs.YtgnooffedmeenaaGreatDoor.O

namespace Go.Proofs.YtgnooffedmeenaaGreatDoor.M

abbrev Bs := List UInt8
abbrev Ln := Nat × List Bs

/-- Does the byte part words; does it end a line's words? -/
def gapB (c : UInt8) : Bool := decide (c = 32 ∨ c = 9)
def endB (c : UInt8) : Bool := decide (c = 10 ∨ c = 59)
/-- A word that ends here, if there is one. -/
def fl (cur : Bs) : List Bs := if cur = [] then [] else [cur]
/-- The words of what is left, when so much of a word was met. -/
def wgo (cur : Bs) : Bs → List Bs
  | [] => fl cur
  | c :: r => if endB c = true then fl cur else if gapB c = true then fl cur ++ wgo [] r else wgo (cur ++ [c]) r
def wordsL (s : Bs) : List Bs := wgo [] s
/-- A line, if it has words. -/
def one (n : Nat) (cur : Bs) : List Ln := if wordsL cur = [] then [] else [(n, wordsL cur)]
/-- Words, parted by one blank. -/
def joinW : List Bs → Bs
  | [] => []
  | [w] => w
  | w :: v :: ws => w ++ 32 :: joinW (v :: ws)
theorem fl_nil : fl [] = [] := if_pos rfl
theorem fl_some {w : Bs} (h : w ≠ []) : fl w = [w] := if_neg h
/-! ### Lines -/

/-! ### What stands in a normal text -/

/-! ### Notes put in -/

/-- The lines of a text, each without its line feed. -/
def sgo (cur : Bs) : Bs → List Bs
  | [] => fl cur
  | c :: r => if c = 10 then cur :: sgo [] r else sgo (cur ++ [c]) r
def segs (s : Bs) : List Bs := sgo [] s
end Go.Proofs.YtgnooffedmeenaaGreatDoor.M

namespace Go.Proofs.YtgnooffedmeenaaGreatDoor.M
open Go.RowKit

/-- A name that stands in a text: its line, its function, its place there, what it is, and whether it is a label. -/
structure Nm where
  ln : Nat
  fn : Nat
  pl : Nat
  s : Bs
  lb : Bool
/-- What was read so far. -/
structure St where
  im : I.Im
  ns : List Nm
/-- The op of a name. -/
def ofA (s : Bs) : Option Nat := O.rowsL.findIdx? fun r => decide (r.name = s)
/-- The instruction of a text. -/
def rdA (s : Bs) : Option C.I3 := match ofA (Lib.cut s [32]).1 with
  | none => none
  | some op =>
    if C.ok1 ((op : Int), O.gA (op : Int) (Lib.cut s [32]).2.1, O.gB (op : Int) (Lib.cut s [32]).2.1) = true ∧ O.textI (op : Int) (O.gA (op : Int) (Lib.cut s [32]).2.1) (O.gB (op : Int) (Lib.cut s [32]).2.1) = s
    then some ((op : Int), O.gA (op : Int) (Lib.cut s [32]).2.1, O.gB (op : Int) (Lib.cut s [32]).2.1) else none
/-- What an instruction may bear the name of: 1 a label, 2 a function, 0 nothing. -/
def kindA (op : Int) : Nat := if op = 18 ∨ op = 19 then 1 else if (20 ≤ op ∧ op ≤ 23) ∨ op = 11 then 2 else 0

def shapeW : Bs := [115, 104, 97, 112, 101]
def funcW : Bs := [102, 117, 110, 99]
def localW : Bs := [108, 111, 99, 97, 108]

section
variable {α β : Type}
/-- The last one, changed. -/
def upd (g : α → α) : List α → List α
  | [] => []
  | [x] => [g x]
  | x :: y :: r => x :: upd g (y :: r)
end

def stShape (st : St) (l : Ln) : Option St := match l.2 with
  | [a, b] => if a = shapeW ∧ st.im.fn = [] then (S.rdS b).map fun x => ⟨⟨st.im.sh ++ [x], st.im.fn⟩, st.ns⟩ else none
  | _ => none
def stFunc (st : St) (l : Ln) : Option St := match l.2 with
  | [a, b, c] => if a = funcW ∧ F.okN b = true then (S.rdG c).map fun g => ⟨⟨st.im.sh, st.im.fn ++ [⟨b, g.1, g.2, [], []⟩]⟩, st.ns⟩ else none
  | _ => none
/-- Has the function labels? -/
def hasL (ns : List Nm) (fn : Nat) : Bool := ns.any fun x => x.lb && decide (x.fn = fn)
def stLocal (st : St) (l : Ln) : Option St := match l.2, st.im.fn.getLast? with
  | [a, b], some f => if a = localW ∧ f.lc = [] ∧ f.bd = [] ∧ hasL st.ns (st.im.fn.length - 1) = false then (W.untxt b).map fun t => ⟨⟨st.im.sh, upd (fun f => { f with lc := t }) st.im.fn⟩, st.ns⟩ else none
  | _, _ => none
def stLabel (st : St) (l : Ln) : Option St := match l.2, st.im.fn.getLast? with
  | [a], some f => if a.getLast? = some 58 ∧ F.okN a.dropLast = true then some ⟨st.im, st.ns ++ [⟨l.1, st.im.fn.length - 1, f.bd.length, a.dropLast, true⟩]⟩ else none
  | _, _ => none
def addI (st : St) (x : C.I3) (ns : List Nm) : St := ⟨⟨st.im.sh, upd (fun f => { f with bd := f.bd ++ [x] }) st.im.fn⟩, ns⟩
/-- An instruction that bears a name. -/
def stName (st : St) (l : Ln) (f : F.Fu) : Option St := match l.2 with
  | [a, b] => match ofA a with
    | some op => if kindA op ≠ 0 ∧ F.okN b = true then some (addI st ((op : Int), 0, 0) (st.ns ++ [⟨l.1, st.im.fn.length - 1, f.bd.length, b, false⟩])) else none
    | none => none
  | _ => none
def stInstr (st : St) (l : Ln) : Option St := match st.im.fn.getLast? with
  | some f => match rdA (joinW l.2) with
    | some x => some (addI st x st.ns)
    | none => stName st l f
  | none => none
/-- What a line says, behind those ahead of it. -/
def step (st : St) (l : Ln) : Option St :=
  (stShape st l).or ((stFunc st l).or ((stLocal st l).or ((stLabel st l).or (stInstr st l))))
/-! ### Names -/

def again (pre : List Nm) (x : Nm) : Bool := pre.any fun y => y.lb && (decide (y.fn = x.fn) && decide (y.s = x.s))
/-! ### What lines say does not hang on their numbers -/

end Go.Proofs.YtgnooffedmeenaaGreatDoor.M

namespace Go.Proofs.YtgnooffedmeenaaGreatDoor.M
open Go.RowKit

/-! ### The words of a text that is written -/

/-- An operand's words; an instruction's. -/
def wordP (k n : Int) : List Bs := if k = 0 then [] else [O.word k n]
def wordsX (x : C.I3) : List Bs := (O.rowAt x.1).name :: (wordP (O.rowAt x.1).ka x.2.1 ++ wordP (O.rowAt x.1).kb x.2.2)
theorem row_none (op : Int) : (O.rowAt op).ka = 0 → (O.rowAt op).kb = 0 := by
  have := O.rowAt_all (p := fun r => decide (r.ka = 0 → r.kb = 0)) (by decide) (by decide) op
  exact of_decide_eq_true this
theorem join_words (x : C.I3) : joinW (wordsX x) = O.textI x.1 x.2.1 x.2.2 := by
  have hn := row_none x.1
  unfold wordsX O.textI wordP O.partL
  by_cases h0 : (O.rowAt x.1).ka = 0
  · rw [if_pos h0, if_pos (hn h0), if_pos h0, if_pos (hn h0)]; simp [joinW]
  · by_cases h1 : (O.rowAt x.1).kb = 0
    · rw [if_neg h0, if_pos h1, if_neg h0, if_pos h1]; simp [joinW]
    · rw [if_neg h0, if_neg h1, if_neg h0, if_neg h1]; simp [joinW]
/-! ### A line at a time -/

/-! ### Labels -/

/-- The label of a place; its line; an instruction that goes, by its place's label. -/
def lbl (i : Int) : Bs := 76 :: Lib.itoa i
theorem lbl_inj {i j : Int} (hi : 0 ≤ i ∧ i ≤ 511) (hj : 0 ≤ j ∧ j ≤ 511) (h : lbl i = lbl j) : i = j := by
  unfold lbl at h
  injection h with _ h
  exact W.itoa_inj (by omega) (by omega) h
theorem lbl_ok {i : Int} (hi : 0 ≤ i ∧ i ≤ 511) : F.okN (lbl i) = true := by
  refine (F.okN_iff _).2 ⟨?_, rfl, ?_⟩
  · have h := Lib.nDigits_le20 i.toNat (by omega)
    unfold lbl
    rw [W.itoa_pos hi.1, List.length_cons, Lib.decDigits_length]
    omega
  · unfold lbl
    rw [List.all_cons, Bool.and_eq_true]
    refine ⟨by decide, List.all_eq_true.2 fun c hc => ?_⟩
    rw [W.itoa_pos hi.1] at hc
    unfold F.inB
    rw [Bool.or_eq_true, F.digB_iff]
    exact .inr (W.dec_digits _ c hc)
theorem row_goes (op : Int) : (O.rowAt op).ka = 10 → op = 18 ∨ op = 19 := by
  intro h
  cases ho : O.isOp op
  · rw [O.rowAt_no ho] at h; exact absurd h (by decide)
  · have hb := O.isOp_yes ho
    have : ∀ j : Fin 30, (O.rowAt (j.1 : Int)).ka = 10 → (j.1 : Int) = 18 ∨ (j.1 : Int) = 19 := by decide
    have h2 := this ⟨op.toNat, by omega⟩
    rw [show ((op.toNat : Nat) : Int) = op by omega] at h2
    exact h2 h
theorem ofA_goes {op : Int} (h : op = 18 ∨ op = 19) : ofA (O.rowAt op).name = some op.toNat ∧ kindA op = 1 ∧ (O.rowAt op).ka = 10 ∧ (O.rowAt op).kb = 0 := by
  rcases h with rfl | rfl <;> exact ⟨by decide, by decide, by decide, by decide⟩
end Go.Proofs.YtgnooffedmeenaaGreatDoor.M

namespace Go.Proofs.YtgnooffedmeenaaGreatDoor.M
open Go.RowKit

/-! ### A written image -/

def headT (f : F.Fu) : List (List Bs) := [funcW, f.nm, S.shG f.ar f.rs] :: (if f.lc = [] then [] else [[localW, W.txt f.lc]])
def shapeT (s : List Int) : List Bs := [shapeW, S.shS s]
/-! ### The lines are the text's -/

theorem ok_body {f : F.Fu} (hf : F.okF f = true) : f.bd.all C.ok1 = true ∧ 1 ≤ f.bd.length ∧ f.bd.length ≤ 512 ∧ ∀ x ∈ f.bd, C.gN x < (f.bd.length : Int) := by
  obtain ⟨_, _, _, h4, _⟩ := (F.okF_iff f).1 hf
  obtain ⟨b1, b2, _, b4⟩ := C.okB_parts h4
  rw [List.all_eq_true] at b4
  refine ⟨List.all_eq_true.2 fun x hx => ?_, b1, b2, fun x hx => ?_⟩
  all_goals
    have := b4 x hx
    unfold C.itemB at this
    rw [Bool.and_eq_true, decide_eq_true_iff] at this
  · exact this.1
  · exact this.2
/-! ### Names are put -/

/-! ### The names of a written image -/

def apart (x y : Nm) : Prop := ¬ (x.lb = true ∧ x.fn = y.fn ∧ x.s = y.s ∧ y.lb = true)
theorem kind_goes {y : C.I3} (h : C.gB y = true) : kindA y.1 = 1 := (ofA_goes (row_goes y.1 (C.gB_ka h).2)).2.1
end Go.Proofs.YtgnooffedmeenaaGreatDoor.M

namespace Go.Proofs.YtgnooffedmeenaaGreatDoor.M.L
open Go.RowKit

/-! ### An instruction that bears a name -/

def nmdW (x : C.I3) (s : Bs) : List Bs := [(O.rowAt x.1).name, s]
/-! ### A written image -/

/-- A place's label; the name that an instruction's number is written as. -/
abbrev Labs := Nat → Nat → Option Bs
abbrev Nams := Nat → C.I3 → Option Bs
def insL (nw : Option Bs) (x : C.I3) : List Bs := match nw with
  | some s => nmdW x s
  | none => wordsX x
/-- What is written says the image. -/
structure Good (p : I.Im) (LB : Labs) (NW : Nams) : Prop where
  lok : ∀ k i s, LB k i = some s → F.okN s = true
  inj : ∀ k i j s, LB k i = some s → LB k j = some s → i = j
  nok : ∀ k x s, NW k x = some s → F.okN s = true ∧ kindA x.1 ≠ 0
  nto : ∀ k f x s, p.fn[k]? = some f → x ∈ f.bd → NW k x = some s →
    (kindA x.1 = 1 ∧ ∃ t : Nat, x.2.1 = (t : Int) ∧ t < f.bd.length ∧ LB k t = some s) ∨ (kindA x.1 = 2 ∧ ∃ t : Nat, x.2.1 = (t : Int) ∧ I.findI p.fn s = some t)

section
variable {lb : Nat → Option Bs} {nw : C.I3 → Option Bs} (hl : ∀ i s, lb i = some s → F.okN s = true) (hn : ∀ x s, nw x = some s → F.okN s = true ∧ kindA x.1 ≠ 0)
include hl hn
end
/-! ### The names are put -/

end Go.Proofs.YtgnooffedmeenaaGreatDoor.M.L

namespace Go.Proofs.YtgnooffedmeenaaGreatDoor.M.L
open Go.RowKit

/-! ### Targets, labels, names -/

/-- Does any instruction go there? -/
def hitB (b : List C.I3) (i : Nat) : Bool := b.any fun x => C.gB x && decide (x.2.1 = (i : Int))
def tgs (b : List C.I3) : List Nat := (List.range b.length).filter (hitB b)
/-- A place's label. -/
def labA (t : List Nat) (i : Nat) : Option Bs := (t.findIdx? fun j => decide (j = i)).map fun n => lbl ((n : Nat) : Int)
def LBp (p : I.Im) : Labs := fun k i => (p.fn[k]?).bind fun f => labA (tgs f.bd) i
def NWp (p : I.Im) : Nams := fun k x => if C.gB x = true then LBp p k x.2.1.toNat else if (O.rowAt x.1).ka = 7 then (p.fn[x.2.1.toNat]?).map F.Fu.nm else none
theorem tgs_mem {b : List C.I3} {i : Nat} : i ∈ tgs b ↔ i < b.length ∧ hitB b i = true := by unfold tgs; rw [List.mem_filter, List.mem_range]
theorem tgs_len (b : List C.I3) : (tgs b).length ≤ b.length := by
  unfold tgs
  have := List.length_filter_le (hitB b) (List.range b.length)
  rwa [List.length_range] at this
theorem hit_of {b : List C.I3} {x : C.I3} {t : Nat} (hx : x ∈ b) (hg : C.gB x = true) (ht : x.2.1 = (t : Int)) : hitB b t = true := by
  unfold hitB
  rw [List.any_eq_true]
  exact ⟨x, hx, by rw [hg, decide_eq_true ht]; rfl⟩
theorem labA_some {t : List Nat} {i : Nat} {s : Bs} (h : labA t i = some s) : ∃ n, n < t.length ∧ t[n]? = some i ∧ s = lbl ((n : Nat) : Int) := by
  unfold labA at h
  cases hf : t.findIdx? fun j => decide (j = i) with
  | none => rw [hf] at h; cases h
  | some n =>
    rw [hf] at h
    injection h with h
    rw [List.findIdx?_eq_some_iff_getElem] at hf
    obtain ⟨hn, h1, _⟩ := hf
    exact ⟨n, hn, by rw [List.getElem?_eq_getElem hn, of_decide_eq_true h1], h.symm⟩
theorem labA_mem {t : List Nat} {i : Nat} (h : i ∈ t) : ∃ s, labA t i = some s := by
  unfold labA
  cases hf : t.findIdx? fun j => decide (j = i) with
  | none =>
    rw [List.findIdx?_eq_none_iff] at hf
    have := hf i h
    simp at this
  | some n => exact ⟨_, rfl⟩
theorem row_func (op : Int) : (O.rowAt op).ka = 7 → kindA op = 2 := by
  intro h
  cases ho : O.isOp op
  · rw [O.rowAt_no ho] at h; exact absurd h (by decide)
  · have hb := O.isOp_yes ho
    have : ∀ j : Fin 30, (O.rowAt (j.1 : Int)).ka = 7 → kindA (j.1 : Int) = 2 := by decide
    have h2 := this ⟨op.toNat, by omega⟩
    rw [show ((op.toNat : Nat) : Int) = op by omega] at h2
    exact h2 h
theorem find_nodup {l : List F.Fu} (h : (l.map F.Fu.nm).Nodup) {i : Nat} {f : F.Fu} (hf : l[i]? = some f) : I.findI l f.nm = some i := by
  obtain ⟨hi, rfl⟩ := List.getElem?_eq_some_iff.1 hf
  unfold I.findI
  rw [List.findIdx?_eq_some_iff_getElem]
  refine ⟨hi, decide_eq_true rfl, fun j hj => ?_⟩
  rw [Bool.not_eq_true, decide_eq_false_iff_not]
  intro e
  have h2 := (List.pairwise_iff_getElem.1 h) j i (by rw [List.length_map]; omega) (by rw [List.length_map]; omega) hj
  rw [List.getElem_map, List.getElem_map] at h2
  exact h2 e

theorem goodP {p : I.Im} (hp : I.okI p = true) : Good p (LBp p) (NWp p) := by
  obtain ⟨⟨_, _, hnd⟩, _, h4⟩ := (I.okI_iff p).1 hp
  have hfn : ∀ {k : Nat} {f : F.Fu}, p.fn[k]? = some f → F.okF f = true := fun h => List.all_eq_true.1 h4 _ (List.mem_of_getElem? h)
  have hlb : ∀ {k i : Nat} {s : Bs}, LBp p k i = some s → ∃ f n, p.fn[k]? = some f ∧ n < (tgs f.bd).length ∧ n ≤ 511 ∧ (tgs f.bd)[n]? = some i ∧ s = lbl ((n : Nat) : Int) := by
    intro k i s h
    unfold LBp at h
    cases hf : p.fn[k]? with
    | none => rw [hf] at h; cases h
    | some f =>
      rw [hf] at h
      obtain ⟨n, h1, h2, h3⟩ := labA_some h
      have := tgs_len f.bd
      have := (ok_body (hfn hf)).2.2.1
      exact ⟨f, n, rfl, h1, by omega, h2, h3⟩
  refine ⟨fun k i s h => ?_, fun k i j s hi hj => ?_, fun k x s h => ?_, fun k f x s hf hx h => ?_⟩
  · obtain ⟨f, n, _, _, h1, _, rfl⟩ := hlb h
    exact lbl_ok (by omega)
  · obtain ⟨f, n, h1, _, h3, h4, h5⟩ := hlb hi
    obtain ⟨f', n', h1', _, h3', h4', h5'⟩ := hlb hj
    rw [h1] at h1'
    injection h1' with e
    subst e
    rw [h5] at h5'
    have := lbl_inj (by omega) (by omega) h5'
    have : n = n' := by omega
    subst this
    rw [h4] at h4'
    injection h4'
  · unfold NWp at h
    split at h
    · rename_i hg
      obtain ⟨f, n, _, _, h1, _, rfl⟩ := hlb h
      exact ⟨lbl_ok (by omega), by rw [kind_goes hg]; decide⟩
    · split at h
      · rename_i hk
        cases hf : p.fn[x.2.1.toNat]? with
        | none => rw [hf] at h; cases h
        | some g =>
          rw [hf] at h
          injection h with h
          subst h
          exact ⟨((F.okF_iff g).1 (hfn hf)).1, by rw [row_func _ hk]; decide⟩
      · cases h
  · obtain ⟨b1, _, _, b4⟩ := ok_body (hfn hf)
    have ho := List.all_eq_true.1 b1 x hx
    unfold NWp at h
    split at h
    · rename_i hg
      have hin := C.gB_in hg
      have h6 := b4 x hx
      rw [C.gN_yes hg] at h6
      exact .inl ⟨kind_goes hg, x.2.1.toNat, by omega, by omega, h⟩
    · split at h
      · rename_i hk
        have h3 := (O.ok_op ho).2.1
        rw [hk] at h3
        have hb := (O.in_bounds h3).2.1 (by decide)
        cases hf2 : p.fn[x.2.1.toNat]? with
        | none => rw [hf2] at h; cases h
        | some g =>
          rw [hf2] at h
          injection h with h
          subst h
          exact .inr ⟨row_func _ hk, x.2.1.toNat, by omega, find_nodup hnd hf2⟩
      · cases h

/-! ### The listings as lines -/

/-- A line: its text; of an instruction the function, and the place; else -1 both. -/
abbrev LR := Bs × Int × Int
def noteB (i : Nat) : Bs := [32, 59, 32] ++ Lib.itoa (i : Int)
/-- An instruction's line: 0 in the listing, 1 in the plain one, 2 in the numbered one. -/
def insS (kind : Nat) (p : I.Im) (k i : Nat) (x : C.I3) : Bs := joinW (insL (if kind = 0 then NWp p k x else none) x) ++ (if kind = 2 then noteB i else [])
def itemR (kind : Nat) (p : I.Im) (t : List Nat) (k i : Nat) (x : C.I3) : List LR := (if kind = 0 then (match labA t i with | some s => [(s ++ [58], -1, -1)] | none => []) else []) ++ [(insS kind p k i x, (k : Int), (i : Int))]
def bodyR (kind : Nat) (p : I.Im) (t : List Nat) (k i : Nat) : List C.I3 → List LR
  | [] => []
  | x :: r => itemR kind p t k i x ++ bodyR kind p t k (i + 1) r
def plainR (w : List Bs) : LR := (joinW w, -1, -1)
def funcR (kind : Nat) (p : I.Im) (k : Nat) (f : F.Fu) : List LR := (headT f).map plainR ++ bodyR kind p (tgs f.bd) k 0 f.bd
def funcsR (kind : Nat) (p : I.Im) (k : Nat) : List F.Fu → List LR
  | [] => []
  | f :: r => funcR kind p k f ++ funcsR kind p (k + 1) r
def allR (kind : Nat) (p : I.Im) : List LR := p.sh.map (fun s => plainR (shapeT s)) ++ funcsR kind p 0 p.fn
/-- Lines, each ended by a line feed. -/
def textOf (l : List Bs) : Bs := l.flatMap fun s => s ++ [10]
def textR (kind : Nat) (p : I.Im) : Bs := textOf ((allR kind p).map Prod.fst)
theorem textOf_append (a b : List Bs) : textOf (a ++ b) = textOf a ++ textOf b := by unfold textOf; rw [List.flatMap_append]
section
variable {p : I.Im} {k : Nat} {t : List Nat} (ht : ∀ i, LBp p k i = labA t i)
include ht
end
/-! ### What is read of them -/

end Go.Proofs.YtgnooffedmeenaaGreatDoor.M.L

namespace Go.Proofs.YtgnooffedmeenaaGreatDoor.M.L
open Go.RowKit

section
variable {zs : List Int}
theorem keeps_iff {j : Nat} : Lib.keeps zs.toArray j = true ↔ j = 0 ∨ zs.toArray[j]! ≠ zs.toArray[j - 1]! := by unfold Lib.keeps; rw [decide_eq_true_iff]
theorem get_bang {j : Nat} (h : j < zs.length) : zs.toArray[j]! = zs[j] := by simp [h]
theorem compact_mem (x : Int) : x ∈ Lib.compact zs ↔ x ∈ zs := by
  unfold Lib.compact Lib.compactUpTo
  constructor
  · intro h
    obtain ⟨j, hj, rfl⟩ := List.mem_map.1 h
    have hl := List.mem_range.1 (List.mem_filter.1 hj).1
    rw [get_bang hl]
    exact List.getElem_mem _
  · intro h
    obtain ⟨j, hj, rfl⟩ := List.getElem_of_mem h
    have key : ∀ j (hj : j < zs.length), zs[j] ∈ ((List.range zs.length).filter (Lib.keeps zs.toArray)).map (zs.toArray[·]!) := by
      intro j
      induction j with
      | zero =>
        intro hj
        exact List.mem_map.2 ⟨0, List.mem_filter.2 ⟨List.mem_range.2 hj, keeps_iff.2 (.inl rfl)⟩, get_bang hj⟩
      | succ j ih =>
        intro hj
        by_cases e : zs[j + 1] = zs[j]
        · rw [e]; exact ih (by omega)
        · refine List.mem_map.2 ⟨j + 1, List.mem_filter.2 ⟨List.mem_range.2 hj, keeps_iff.2 (.inr ?_)⟩, get_bang hj⟩
          rw [get_bang hj, Nat.add_sub_cancel, get_bang (by omega)]
          exact e
    exact key j hj
theorem compact_asc (h : zs.Pairwise (· ≤ ·)) : (Lib.compact zs).Pairwise (· < ·) := by
  unfold Lib.compact Lib.compactUpTo
  rw [List.pairwise_map]
  have h1 : ((List.range zs.length).filter (Lib.keeps zs.toArray)).Pairwise (· < ·) := List.Pairwise.filter _ List.pairwise_lt_range
  refine List.Pairwise.imp_of_mem ?_ h1
  intro a b ha hb hab
  have hal := List.mem_range.1 (List.mem_filter.1 ha).1
  have hbl := List.mem_range.1 (List.mem_filter.1 hb).1
  have hk := keeps_iff.1 (List.mem_filter.1 hb).2
  have hle : ∀ i j (hi : i < zs.length) (hj : j < zs.length), i ≤ j → zs[i] ≤ zs[j] := fun i j hi hj hij => by
    rcases Nat.lt_or_eq_of_le hij with hlt | rfl
    · exact (List.pairwise_iff_getElem.1 h) i j hi hj hlt
    · exact Int.le_refl _
  show zs.toArray[a]! < zs.toArray[b]!
  rcases hk with rfl | hk
  · omega
  · have e1 := hle a (b - 1) hal (by omega) (by omega)
    have e2 := hle (b - 1) b (by omega) hbl (by omega)
    rw [get_bang hbl, get_bang (show b - 1 < zs.length by omega)] at hk
    rw [get_bang hal, get_bang hbl]
    omega
end
theorem asc_ext : ∀ (l r : List Int), l.Pairwise (· < ·) → r.Pairwise (· < ·) → (∀ x, x ∈ l ↔ x ∈ r) → l = r
  | [], [], _, _, _ => rfl
  | [], y :: r, _, _, h => by have := (h y).2 (by simp); cases this
  | x :: l, [], _, _, h => by have := (h x).1 (by simp); cases this
  | x :: l, y :: r, hl, hr, h => by
    rw [List.pairwise_cons] at hl hr
    have e : x = y := by
      have h1 : x ∈ y :: r := (h x).1 (by simp)
      have h2 : y ∈ x :: l := (h y).2 (by simp)
      rcases List.mem_cons.1 h1 with e | h1
      · exact e
      · rcases List.mem_cons.1 h2 with e | h2
        · exact e.symm
        · have := hl.1 y h2; have := hr.1 x h1; omega
    subst e
    congr 1
    refine asc_ext l r hl.2 hr.2 fun z => ⟨fun hz => ?_, fun hz => ?_⟩
    · have h1 := (h z).1 (List.mem_cons_of_mem _ hz)
      rcases List.mem_cons.1 h1 with e | h1
      · have := hl.1 z hz; omega
      · exact h1
    · have h1 := (h z).2 (List.mem_cons_of_mem _ hz)
      rcases List.mem_cons.1 h1 with e | h1
      · have := hr.1 z hz; omega
      · exact h1
theorem sort_asc (l : List Int) : (l.mergeSort fun x y => decide (x ≤ y)).Pairwise (· ≤ ·) := by
  have h := List.pairwise_mergeSort (le := fun x y : Int => decide (x ≤ y)) (fun a b c h1 h2 => by simp only [decide_eq_true_eq] at *; omega) (fun a b => by simp only [Bool.or_eq_true, decide_eq_true_eq]; omega) l
  exact h.imp fun h => of_decide_eq_true h

/-- The places that instructions go to, as they come. -/
def goL (b : List C.I3) : List Int := b.filterMap fun x => if C.gB x = true then some (C.gN x) else none
/-- They are sorted, and each told once. -/
def tgI (b : List C.I3) : List Int := Lib.compact ((goL b).mergeSort fun x y => decide (x ≤ y))
theorem goL_len (b : List C.I3) : (goL b).length ≤ b.length := List.length_filterMap_le _ _
theorem goL_mem {b : List C.I3} {t : Int} : t ∈ goL b ↔ ∃ x ∈ b, C.gB x = true ∧ C.gN x = t := by
  unfold goL
  rw [List.mem_filterMap]
  constructor
  · rintro ⟨x, hx, h⟩
    split at h
    · rename_i hg
      injection h with h
      exact ⟨x, hx, hg, h⟩
    · cases h
  · rintro ⟨x, hx, hg, h⟩
    exact ⟨x, hx, by rw [if_pos hg, h]⟩
/-- A body's targets. -/
theorem tgI_eq {b : List C.I3} (h : ∀ x ∈ b, C.gN x < (b.length : Int)) : tgI b = (tgs b).map fun i => ((i : Nat) : Int) := by
  refine asc_ext _ _ (compact_asc (sort_asc _)) ?_ fun t => ?_
  · rw [List.pairwise_map]
    unfold tgs
    refine List.Pairwise.imp ?_ (List.Pairwise.filter _ List.pairwise_lt_range)
    intro a c hac
    show ((a : Nat) : Int) < (c : Int)
    omega
  · unfold tgI
    rw [compact_mem, List.mem_mergeSort, goL_mem, List.mem_map]
    constructor
    · rintro ⟨x, hx, hg, rfl⟩
      have h1 := C.gB_in hg
      have h2 := h x hx
      have h3 := C.gN_yes hg
      refine ⟨(C.gN x).toNat, tgs_mem.2 ⟨by omega, hit_of hx hg ?_⟩, ?_⟩
      · rw [h3]; omega
      · rw [h3]; omega
    · rintro ⟨i, hi, rfl⟩
      obtain ⟨_, h2⟩ := tgs_mem.1 hi
      unfold hitB at h2
      rw [List.any_eq_true] at h2
      obtain ⟨x, hx, h3⟩ := h2
      rw [Bool.and_eq_true, decide_eq_true_iff] at h3
      exact ⟨x, hx, h3.1, by rw [C.gN_yes h3.1]; exact h3.2⟩
end Go.Proofs.YtgnooffedmeenaaGreatDoor.M.L

namespace Go.Proofs.YtgnooffedmeenaaGreatDoor.M.L
open Go.RowKit

theorem tgs_nodup (b : List C.I3) : (tgs b).Nodup := by unfold tgs; exact List.Pairwise.filter _ List.nodup_range
/-! ### How many lines -/

end Go.Proofs.YtgnooffedmeenaaGreatDoor.M.L

namespace Go.Proofs.YtgnooffedmeenaaGreatDoor.M.L
open Go.RowKit

/-- The line of an instruction; the instruction of a line. -/
def lineI (p : I.Im) (fn pl : Int) : Option Nat := if 0 ≤ fn then (allR 0 p).findIdx? fun e => decide (e.2.1 = fn ∧ e.2.2 = pl) else none
def placeI (p : I.Im) (line : Int) : Option (Int × Int) := if 1 ≤ line then (match (allR 0 p)[(line - 1).toNat]? with
  | some e => if 0 ≤ e.2.1 then some e.2 else none
  | none => none) else none
end Go.Proofs.YtgnooffedmeenaaGreatDoor.M.L

namespace Go.Proofs.YtgnooffedmeenaaGreatDoor.M
open Go

end Go.Proofs.YtgnooffedmeenaaGreatDoor.M

namespace Go.Proofs.YtgnooffedmeenaaGreatDoor.M
open Go

end Go.Proofs.YtgnooffedmeenaaGreatDoor.M

namespace Go.Proofs.YtgnooffedmeenaaGreatDoor.M.L
open Go.RowKit

theorem text_cons (s : Bs) (l : List Bs) : textOf (s :: l) = s ++ 10 :: textOf l := by unfold textOf; rw [List.flatMap_cons, List.append_assoc]; rfl
/-! ### What stands in an instruction's line -/

end Go.Proofs.YtgnooffedmeenaaGreatDoor.M.L

namespace Go.Proofs.YtgnooffedmeenaaGreatDoor.M.L
open Go.RowKit

/-- A line: what it says (0 a shape, 1 a function, 2 locals, 3 a label, 4 an instruction), of which shape, function, place. -/
abbrev Ln4 := Nat × Nat × Nat × Nat
def fu0 : F.Fu := ⟨[], [], [], [], []⟩
def bodyQ (lab : Nat → Bool) (k i : Nat) : Nat → List Ln4
  | 0 => []
  | n + 1 => (if lab i = true then [(3, 0, k, i)] else []) ++ (4, 0, k, i) :: bodyQ lab k (i + 1) n
def funcQ (lab : Nat → Nat → Bool) (k : Nat) (f : F.Fu) : List Ln4 := (1, 0, k, 0) :: ((if f.lc = [] then [] else [(2, 0, k, 0)]) ++ bodyQ (lab k) k 0 f.bd.length)
def funcsQ (lab : Nat → Nat → Bool) (k : Nat) : List F.Fu → List Ln4
  | [] => []
  | f :: r => funcQ lab k f ++ funcsQ lab (k + 1) r
def shapesQ (n : Nat) : List Ln4 := (List.range n).map fun i => (0, i, 0, 0)
def seqQ (lab : Nat → Nat → Bool) (p : I.Im) : List Ln4 := shapesQ p.sh.length ++ funcsQ lab 0 p.fn
/-- Which places have labels, in the listing; none in the plain one. -/
def labB (p : I.Im) (k i : Nat) : Bool := (LBp p k i).isSome
def lab0 : Nat → Nat → Bool := fun _ _ => false

/-- What a line says. -/
def sayQ (kind : Nat) (p : I.Im) (l : Ln4) : Bs :=
  match l.1 with
  | 0 => joinW (shapeT (p.sh[l.2.1]?.getD []))
  | 1 => joinW [funcW, (p.fn[l.2.2.1]?.getD fu0).nm, S.shG (p.fn[l.2.2.1]?.getD fu0).ar (p.fn[l.2.2.1]?.getD fu0).rs]
  | 2 => joinW [localW, W.txt (p.fn[l.2.2.1]?.getD fu0).lc]
  | 3 => ((LBp p l.2.2.1 l.2.2.2).getD []) ++ [58]
  | _ => insS kind p l.2.2.1 l.2.2.2 ((p.fn[l.2.2.1]?.getD fu0).bd[l.2.2.2]?.getD (0, 0, 0))
def toLR (kind : Nat) (p : I.Im) (l : Ln4) : LR := (sayQ kind p l, if l.1 = 4 then (((l.2.2.1 : Nat) : Int), ((l.2.2.2 : Nat) : Int)) else (-1, -1))

theorem bodyQ_lr {kind : Nat} {p : I.Im} {k : Nat} {f : F.Fu} (hf : p.fn[k]? = some f) : ∀ (n i : Nat), i + n = f.bd.length →
    (bodyQ (if kind = 0 then labB p k else lab0 k) k i n).map (toLR kind p) = bodyR kind p (tgs f.bd) k i (f.bd.drop i)
  | 0, i, h => by rw [List.drop_eq_nil_of_le (by omega)]; rfl
  | n + 1, i, h => by
    have hi : i < f.bd.length := by omega
    have ih := bodyQ_lr hf (kind := kind) n (i + 1) (by omega)
    rw [List.drop_eq_getElem_cons hi, bodyR, bodyQ, List.map_append, List.map_cons, ih]
    unfold itemR
    have e1 : toLR kind p (4, 0, k, i) = (insS kind p k i f.bd[i], (k : Int), (i : Int)) := by
      unfold toLR sayQ
      dsimp only
      rw [hf, if_pos rfl]
      simp [List.getElem?_eq_getElem hi]
    have hlb : LBp p k i = labA (tgs f.bd) i := by unfold LBp; rw [hf]; rfl
    rw [e1, List.append_assoc]
    congr 1
    by_cases hk : kind = 0
    · rw [if_pos hk, if_pos hk]
      unfold labB
      rw [hlb]
      cases hl : labA (tgs f.bd) i with
      | none => rfl
      | some s =>
        show [toLR kind p (3, 0, k, i)] = [(s ++ [58], -1, -1)]
        unfold toLR sayQ
        dsimp only
        rw [hlb, hl]
        rfl
    · rw [if_neg hk, if_neg hk]
      rfl
theorem funcQ_lr {kind : Nat} {p : I.Im} {k : Nat} {f : F.Fu} (hf : p.fn[k]? = some f) : (funcQ (if kind = 0 then labB p else lab0) k f).map (toLR kind p) = funcR kind p k f := by
  have h := bodyQ_lr (kind := kind) hf f.bd.length 0 (by omega)
  rw [List.drop_zero] at h
  unfold funcQ funcR headT
  have e0 : (if kind = 0 then labB p else lab0) k = if kind = 0 then labB p k else lab0 k := by split <;> rfl
  rw [e0, List.map_cons, List.map_append, h, List.map_cons, List.cons_append]
  congr 1
  · unfold toLR sayQ
    dsimp only
    rw [hf]
    rfl
  · congr 1
    by_cases hl : f.lc = []
    · rw [if_pos hl, if_pos hl]; rfl
    · rw [if_neg hl, if_neg hl]
      show [toLR kind p (2, 0, k, 0)] = [_]
      unfold toLR sayQ
      dsimp only
      rw [hf]
      rfl
theorem funcsQ_lr {kind : Nat} {p : I.Im} : ∀ (q : List F.Fu) (k : Nat), (∀ j f, q[j]? = some f → p.fn[k + j]? = some f) → (funcsQ (if kind = 0 then labB p else lab0) k q).map (toLR kind p) = funcsR kind p k q
  | [], _, _ => rfl
  | f :: q, k, h => by
    have h0 := h 0 f rfl
    rw [Nat.add_zero] at h0
    rw [funcsQ, funcsR, List.map_append, funcQ_lr h0, funcsQ_lr q (k + 1) (fun j g hg => by rw [show k + 1 + j = k + (j + 1) by omega]; exact h (j + 1) g (by rw [List.getElem?_cons_succ]; exact hg))]
/-- THE LINES ARE THE LISTING's. -/
theorem seqQ_lr (kind : Nat) (p : I.Im) : (seqQ (if kind = 0 then labB p else lab0) p).map (toLR kind p) = allR kind p := by
  unfold seqQ allR
  rw [List.map_append, funcsQ_lr p.fn 0 (fun j f h => by rw [Nat.zero_add]; exact h)]
  congr 1
  unfold shapesQ
  rw [List.map_map]
  refine List.ext_getElem (by simp) fun i h1 h2 => ?_
  have hi : i < p.sh.length := by simpa using h2
  simp only [List.getElem_map, List.getElem_range, Function.comp]
  unfold toLR sayQ plainR
  simp [List.getElem?_eq_getElem hi]
theorem text_seq (kind : Nat) (p : I.Im) : textR kind p = textOf ((seqQ (if kind = 0 then labB p else lab0) p).map (sayQ kind p)) := by
  unfold textR
  rw [← seqQ_lr, List.map_map]
  rfl

/-! ### Which lines there are -/

/-- A line of an image: what it names is there. -/
structure OkQ (lab : Nat → Nat → Bool) (p : I.Im) (l : Ln4) : Prop where
  w : l.1 ≤ 4
  s : l.1 = 0 → l.2.1 < p.sh.length ∧ l.2.2 = (0, 0)
  f : l.1 ≠ 0 → l.2.1 = 0 ∧ ∃ f, p.fn[l.2.2.1]? = some f ∧ (3 ≤ l.1 → l.2.2.2 < f.bd.length) ∧ (l.1 ≤ 2 → l.2.2.2 = 0)
  b : l.1 = 3 → lab l.2.2.1 l.2.2.2 = true
theorem bodyQ_mem {lab : Nat → Bool} {k : Nat} {l : Ln4} : ∀ (n i : Nat), l ∈ bodyQ lab k i n → ∃ j, i ≤ j ∧ j < i + n ∧ ((l = (3, 0, k, j) ∧ lab j = true) ∨ l = (4, 0, k, j))
  | 0, _, h => by cases h
  | n + 1, i, h => by
    rw [bodyQ, List.mem_append, List.mem_cons] at h
    rcases h with h | h | h
    · split at h
      · rename_i hl
        rw [List.mem_singleton] at h
        exact ⟨i, Nat.le_refl _, by omega, .inl ⟨h, hl⟩⟩
      · cases h
    · exact ⟨i, Nat.le_refl _, by omega, .inr h⟩
    · obtain ⟨j, h1, h2, h3⟩ := bodyQ_mem n (i + 1) h
      exact ⟨j, by omega, by omega, h3⟩
theorem funcsQ_mem {lab : Nat → Nat → Bool} {l : Ln4} : ∀ (q : List F.Fu) (k : Nat), l ∈ funcsQ lab k q → ∃ j f, q[j]? = some f ∧ l ∈ funcQ lab (k + j) f
  | [], _, h => by cases h
  | f :: q, k, h => by
    rw [funcsQ, List.mem_append] at h
    rcases h with h | h
    · exact ⟨0, f, rfl, h⟩
    · obtain ⟨j, g, h1, h2⟩ := funcsQ_mem q (k + 1) h
      exact ⟨j + 1, g, by rw [List.getElem?_cons_succ]; exact h1, by rw [show k + (j + 1) = k + 1 + j by omega]; exact h2⟩
section
variable {lab : Nat → Nat → Bool} {p : I.Im}
theorem ne_lit {a b : Nat} {P : Prop} (h : a = b) (hn : Nat.beq a b = false) : P := by rw [h, Nat.beq_refl] at hn; cases hn
theorem okQ_0 {i : Nat} (h : i < p.sh.length) : OkQ lab p (0, i, 0, 0) :=
  ⟨Nat.zero_le 4, fun _ => ⟨h, rfl⟩, fun h => absurd rfl h, fun h => ne_lit (a := 0) (b := 3) h rfl⟩
theorem okQ_1 {k : Nat} {f : F.Fu} (hf : p.fn[k]? = some f) : OkQ lab p (1, 0, k, 0) :=
  ⟨(by show 1 ≤ 4; decide), fun h => ne_lit (a := 1) (b := 0) h rfl, fun _ => ⟨rfl, f, hf, fun h => absurd (show 3 ≤ 1 from h) (by decide), fun _ => rfl⟩, fun h => ne_lit (a := 1) (b := 3) h rfl⟩
theorem okQ_2 {k : Nat} {f : F.Fu} (hf : p.fn[k]? = some f) : OkQ lab p (2, 0, k, 0) :=
  ⟨(by show 2 ≤ 4; decide), fun h => ne_lit (a := 2) (b := 0) h rfl, fun _ => ⟨rfl, f, hf, fun h => absurd (show 3 ≤ 2 from h) (by decide), fun _ => rfl⟩, fun h => ne_lit (a := 2) (b := 3) h rfl⟩
theorem okQ_3 {k j : Nat} {f : F.Fu} (hf : p.fn[k]? = some f) (hj : j < f.bd.length) (hl : lab k j = true) : OkQ lab p (3, 0, k, j) :=
  ⟨(by show 3 ≤ 4; decide), fun h => ne_lit (a := 3) (b := 0) h rfl, fun _ => ⟨rfl, f, hf, fun _ => hj, fun h => absurd (show 3 ≤ 2 from h) (by decide)⟩, fun _ => hl⟩
theorem okQ_4 {k j : Nat} {f : F.Fu} (hf : p.fn[k]? = some f) (hj : j < f.bd.length) : OkQ lab p (4, 0, k, j) :=
  ⟨(by show 4 ≤ 4; decide), fun h => ne_lit (a := 4) (b := 0) h rfl, fun _ => ⟨rfl, f, hf, fun _ => hj, fun h => absurd (show 4 ≤ 2 from h) (by decide)⟩, fun h => ne_lit (a := 4) (b := 3) h rfl⟩
theorem seqQ_ok {l : Ln4} (h : l ∈ seqQ lab p) : OkQ lab p l := by
  unfold seqQ at h
  rcases List.mem_append.1 h with h | h
  · unfold shapesQ at h
    obtain ⟨i, hi, rfl⟩ := List.mem_map.1 h
    exact okQ_0 (List.mem_range.1 hi)
  · obtain ⟨k, f, hf, hl⟩ := funcsQ_mem p.fn 0 h
    rw [Nat.zero_add] at hl
    unfold funcQ at hl
    rcases List.mem_cons.1 hl with rfl | hl
    · exact okQ_1 hf
    · rcases List.mem_append.1 hl with hl | hl
      · split at hl
        · cases hl
        · rw [List.mem_singleton] at hl
          subst hl
          exact okQ_2 hf
      · obtain ⟨j, _, h2, h3⟩ := bodyQ_mem _ _ hl
        rw [Nat.zero_add] at h2
        rcases h3 with ⟨rfl, h4⟩ | rfl
        · exact okQ_3 hf h2 h4
        · exact okQ_4 hf h2
end

/-! ### Line and Place by them -/

theorem line_seq (p : I.Im) (fn pl : Int) (hfn : 0 ≤ fn) : lineI p fn pl = (seqQ (labB p) p).findIdx? fun l => decide (l.1 = 4 ∧ ((l.2.2.1 : Nat) : Int) = fn ∧ ((l.2.2.2 : Nat) : Int) = pl) := by
  unfold lineI
  rw [if_pos hfn]
  have e := seqQ_lr 0 p
  rw [if_pos rfl] at e
  rw [← e, List.findIdx?_map]
  congr 1
  funext l
  show decide _ = decide _
  congr 1
  unfold toLR
  dsimp only
  by_cases h4 : l.1 = 4
  · rw [if_pos h4]; simp [h4]
  · rw [if_neg h4]
    refine propext ⟨fun h => ?_, fun h => absurd h.1 h4⟩
    have h1 : (-1 : Int) = fn := h.1
    omega
theorem line_neg {p : I.Im} {fn pl : Int} (h : ¬ 0 ≤ fn) : lineI p fn pl = none := if_neg h
theorem place_seq (p : I.Im) (line : Int) : placeI p line = if 1 ≤ line then (match (seqQ (labB p) p)[(line - 1).toNat]? with
    | some l => if l.1 = 4 then some (((l.2.2.1 : Nat) : Int), ((l.2.2.2 : Nat) : Int)) else none
    | none => none) else none := by
  unfold placeI
  have e := seqQ_lr 0 p
  rw [if_pos rfl] at e
  rw [← e, List.getElem?_map]
  split
  · cases (seqQ (labB p) p)[(line - 1).toNat]? with
    | none => rfl
    | some l =>
      show (if 0 ≤ (toLR 0 p l).2.1 then some (toLR 0 p l).2 else none) = _
      unfold toLR
      dsimp only
      by_cases h4 : l.1 = 4
      · rw [if_pos h4, if_pos h4]
        exact if_pos (by show (0 : Int) ≤ ((l.2.2.1 : Nat) : Int); omega)
      · rw [if_neg h4, if_neg h4]
        rfl
  · rfl

end Go.Proofs.YtgnooffedmeenaaGreatDoor.M.L

namespace Go.Proofs.YtgnooffedmeenaaGreatDoor
open Go.RowKit

section
variable {P : Program} {ops : Array Oper} {md : Region.Mode}

end
end Go.Proofs.YtgnooffedmeenaaGreatDoor

namespace Go.Proofs.YtgnooffedmeenaaGreatDoor.S
open Go.RowKit W

theorem all_no {l : List Int} {p : Int → Bool} {k : Nat} (hk : k < l.length) (h : p l[k] = false) : l.all p = false :=
  List.all_eq_false.2 ⟨_, List.getElem_mem hk, by rw [h]; decide⟩
theorem all_step {l : List Int} {p : Int → Bool} {k : Nat} (hk : k < l.length) (h : (l.take k).all p = true) (h2 : p l[k] = true) : (l.take (k + 1)).all p = true := by
  rw [List.take_succ_eq_append_getElem hk, List.all_append, h]
  simp [h2]
theorem knownF_any (t : Int) (w : World) : Calls Tryz.prog 161 #[.int .i64 t] w fun e w' => e = .returned (.bool (knownB t)) ∧ Keep NoB w w' :=
  (known_any t w).mono fun _ _ ⟨he, hw⟩ => ⟨he, by rw [← hw]; exact Keep.refl _ _⟩
set_option maxHeartbeats 1000000 in
theorem heldF_any (t : Int) (w : World) : Calls Tryz.prog 162 #[.int .i64 t] w fun e w' => e = .returned (.bool (heldB t)) ∧ Keep NoB w w' := by
  have HK := Lib.hid (fun w => known_any t w)
  cases hk : knownB t
  · rw [hk] at HK
    have hR : heldB t = false := by rw [known_not] at hk; rw [held_not]; omega
    rw [hR]
    clear hk hR
    go_enter Tryz.func162, Tryz.ntmps162
    go_wp2_with (go_at_call 161; refine (HK.out _).mono ?_; rintro e w1 ⟨rfl, rfl⟩)
    go_ret
    exact ⟨rfl, Keep.refl _ _⟩
  · rw [hk] at HK
    by_cases h4 : t = 4
    · subst h4
      have hR : heldB 4 = false := by decide
      rw [hR]
      clear hk hR
      go_enter Tryz.func162, Tryz.ntmps162
      go_wp2_with (go_at_call 161; refine (HK.out _).mono ?_; rintro e w1 ⟨rfl, rfl⟩)
      go_ret
      exact ⟨rfl, Keep.refl _ _⟩
    · have hR : heldB t = true := by rw [known_iff] at hk; rw [held_iff]; omega
      have hq : (t != 4) = true := by rw [bne_iff_ne]; exact h4
      rw [hR]
      clear hk hR h4
      go_enter Tryz.func162, Tryz.ntmps162
      go_wp2_with (go_at_call 161; refine (HK.out _).mono ?_; rintro e w1 ⟨rfl, rfl⟩)
      go_ret
      exact ⟨rfl, Keep.refl _ _⟩

set_option maxRecDepth 100000 in
set_option maxHeartbeats 2000000 in
theorem allS_any (A : Option Addr) (l : List Int) (n c : Nat) (w : World) (hr : Rd w A (ivs l)) (hn : Hid (l.length = n)) (hm : n ≤ 9223372036854775807) (R : Bool) (hR : Hid (R = l.all heldB)) :
    Calls Tryz.prog 174 #[.slice A n c, .func (.func 162) #[] #[]] w fun e w' => e = .returned (.bool R) ∧ Keep NoB w w' := by
  go_enter Tryz.func174, Tryz.ntmps174
  go_wp2
  go_loopw [9] (fun i wr => ∃ k : Nat, k ≤ n ∧ i = .int .i64 k ∧ Hid ((l.take k).all heldB = true) ∧ Keep NoB w wr) (fun i _ => n - (intOf i).toNat)
  case atStart => exact ⟨0, Nat.zero_le _, rfl, rfl, Keep.refl _ _⟩
  case round =>
    obtain ⟨k, hk, rfl, ht, hK⟩ := hrel
    by_cases hlt : k < n
    · have hka : k < l.length := by rw [hn.out]; exact hlt
      obtain ⟨ga, oa, rfl, hca⟩ := rdI_at hr (by omega)
      have ca := hK.cell (hca k hka) id
      have HT := Lib.hid (fun h => all_step (p := heldB) hka ht.out h)
      have HN := Lib.hid (fun h => all_no (p := heldB) hka h)
      clear hca hr ht
      generalize l[k] = x at ca HT HN
      have HC := Lib.hid (fun w => heldF_any x w)
      cases hx : heldB x
      · rw [hx] at HC
        obtain rfl : R = false := by rw [hR.out]; exact HN.out hx
        clear hx HT HN hR
        go_wp2_with (go_at_call 162; refine (HC.out _).mono ?_; rintro e w3 ⟨rfl, k3⟩)
        go_ret
        exact ⟨rfl, keepN hK k3⟩
      · rw [hx] at HC
        have HV := Lib.hid (HT.out hx)
        clear hx HT HN hR
        go_wp2_with (go_at_call 162; refine (HC.out _).mono ?_; rintro e w3 ⟨rfl, k3⟩)
        go_roundw
        case rel => exact ⟨k + 1, by omega, by go_num, HV, keepN hK k3⟩
        case measure => simp [intOf]; omega
    · obtain rfl : R = true := by
        rw [hR.out]
        have e1 := ht.out
        rwa [List.take_of_length_le (by rw [hn.out]; omega)] at e1
      clear hR
      go_wp2
      go_ret
      exact ⟨rfl, hK⟩

set_option maxRecDepth 100000 in
set_option maxHeartbeats 2000000 in
theorem allK_any (A : Option Addr) (l : List Int) (n c : Nat) (w : World) (hr : Rd w A (ivs l)) (hn : Hid (l.length = n)) (hm : n ≤ 9223372036854775807) (R : Bool) (hR : Hid (R = l.all knownB)) :
    Calls Tryz.prog 160 #[.slice A n c, .func (.func 161) #[] #[]] w fun e w' => e = .returned (.bool R) ∧ Keep NoB w w' := by
  go_enter Tryz.func160, Tryz.ntmps160
  go_wp2
  go_loopw [9] (fun i wr => ∃ k : Nat, k ≤ n ∧ i = .int .i64 k ∧ Hid ((l.take k).all knownB = true) ∧ Keep NoB w wr) (fun i _ => n - (intOf i).toNat)
  case atStart => exact ⟨0, Nat.zero_le _, rfl, rfl, Keep.refl _ _⟩
  case round =>
    obtain ⟨k, hk, rfl, ht, hK⟩ := hrel
    by_cases hlt : k < n
    · have hka : k < l.length := by rw [hn.out]; exact hlt
      obtain ⟨ga, oa, rfl, hca⟩ := rdI_at hr (by omega)
      have ca := hK.cell (hca k hka) id
      have HT := Lib.hid (fun h => all_step (p := knownB) hka ht.out h)
      have HN := Lib.hid (fun h => all_no (p := knownB) hka h)
      clear hca hr ht
      generalize l[k] = x at ca HT HN
      have HC := Lib.hid (fun w => knownF_any x w)
      cases hx : knownB x
      · rw [hx] at HC
        obtain rfl : R = false := by rw [hR.out]; exact HN.out hx
        clear hx HT HN hR
        go_wp2_with (go_at_call 161; refine (HC.out _).mono ?_; rintro e w3 ⟨rfl, k3⟩)
        go_ret
        exact ⟨rfl, keepN hK k3⟩
      · rw [hx] at HC
        have HV := Lib.hid (HT.out hx)
        clear hx HT HN hR
        go_wp2_with (go_at_call 161; refine (HC.out _).mono ?_; rintro e w3 ⟨rfl, k3⟩)
        go_roundw
        case rel => exact ⟨k + 1, by omega, by go_num, HV, keepN hK k3⟩
        case measure => simp [intOf]; omega
    · obtain rfl : R = true := by
        rw [hR.out]
        have e1 := ht.out
        rwa [List.take_of_length_le (by rw [hn.out]; omega)] at e1
      clear hR
      go_wp2
      go_ret
      exact ⟨rfl, hK⟩

set_option maxRecDepth 100000 in
set_option maxHeartbeats 2000000 in
theorem allH_any (A : Option Addr) (l : List Int) (n c : Nat) (w : World) (hr : Rd w A (ivs l)) (hn : Hid (l.length = n)) (hm : n ≤ 9223372036854775807) (R : Bool) (hR : Hid (R = l.all heldB)) :
    Calls Tryz.prog 160 #[.slice A n c, .func (.func 162) #[] #[]] w fun e w' => e = .returned (.bool R) ∧ Keep NoB w w' := by
  go_enter Tryz.func160, Tryz.ntmps160
  go_wp2
  go_loopw [9] (fun i wr => ∃ k : Nat, k ≤ n ∧ i = .int .i64 k ∧ Hid ((l.take k).all heldB = true) ∧ Keep NoB w wr) (fun i _ => n - (intOf i).toNat)
  case atStart => exact ⟨0, Nat.zero_le _, rfl, rfl, Keep.refl _ _⟩
  case round =>
    obtain ⟨k, hk, rfl, ht, hK⟩ := hrel
    by_cases hlt : k < n
    · have hka : k < l.length := by rw [hn.out]; exact hlt
      obtain ⟨ga, oa, rfl, hca⟩ := rdI_at hr (by omega)
      have ca := hK.cell (hca k hka) id
      have HT := Lib.hid (fun h => all_step (p := heldB) hka ht.out h)
      have HN := Lib.hid (fun h => all_no (p := heldB) hka h)
      clear hca hr ht
      generalize l[k] = x at ca HT HN
      have HC := Lib.hid (fun w => heldF_any x w)
      cases hx : heldB x
      · rw [hx] at HC
        obtain rfl : R = false := by rw [hR.out]; exact HN.out hx
        clear hx HT HN hR
        go_wp2_with (go_at_call 162; refine (HC.out _).mono ?_; rintro e w3 ⟨rfl, k3⟩)
        go_ret
        exact ⟨rfl, keepN hK k3⟩
      · rw [hx] at HC
        have HV := Lib.hid (HT.out hx)
        clear hx HT HN hR
        go_wp2_with (go_at_call 162; refine (HC.out _).mono ?_; rintro e w3 ⟨rfl, k3⟩)
        go_roundw
        case rel => exact ⟨k + 1, by omega, by go_num, HV, keepN hK k3⟩
        case measure => simp [intOf]; omega
    · obtain rfl : R = true := by
        rw [hR.out]
        have e1 := ht.out
        rwa [List.take_of_length_le (by rw [hn.out]; omega)] at e1
      clear hR
      go_wp2
      go_ret
      exact ⟨rfl, hK⟩

set_option maxRecDepth 100000 in
set_option maxHeartbeats 2000000 in
theorem rheld_any (A : Option Addr) (l : List Int) (n c : Nat) (w : World) (hr : Rd w A (ivs l)) (hn : Hid (l.length = n)) (hm : n ≤ 9223372036854775807) (R : Bool) (hR : Hid (R = l.all heldB)) :
    Calls Tryz.prog 170 #[.slice A n c] w fun e w' => e = .returned (.bool R) ∧ Keep NoB w w' := by
  go_enter Tryz.func170, Tryz.ntmps170
  go_wp2
  go_loopw [3] (fun i wr => ∃ k : Nat, k ≤ n ∧ i = .int .i64 k ∧ Hid ((l.take k).all heldB = true) ∧ Keep NoB w wr) (fun i _ => n - (intOf i).toNat)
  case atStart => exact ⟨0, Nat.zero_le _, rfl, rfl, Keep.refl _ _⟩
  case round =>
    obtain ⟨k, hk, rfl, ht, hK⟩ := hrel
    by_cases hlt : k < n
    · have hka : k < l.length := by rw [hn.out]; exact hlt
      obtain ⟨ga, oa, rfl, hca⟩ := rdI_at hr (by omega)
      have ca := hK.cell (hca k hka) id
      have HT := Lib.hid (fun h => all_step (p := heldB) hka ht.out h)
      have HN := Lib.hid (fun h => all_no (p := heldB) hka h)
      clear hca hr ht
      generalize l[k] = x at ca HT HN
      by_cases h1 : x < 1
      · obtain rfl : R = false := by rw [hR.out]; exact HN.out (by rw [held_not]; omega)
        clear HT HN hR
        go_wp2
        go_ret
        exact ⟨rfl, hK⟩
      · by_cases h3 : 3 < x
        · obtain rfl : R = false := by rw [hR.out]; exact HN.out (by rw [held_not]; omega)
          clear HT HN hR
          go_wp2
          go_ret
          exact ⟨rfl, hK⟩
        · have HV := Lib.hid (HT.out (by rw [held_iff]; omega))
          clear HT HN hR
          go_wp2
          go_roundw
          case rel => exact ⟨k + 1, by omega, by go_num, HV, hK⟩
          case measure => simp [intOf]; omega
    · obtain rfl : R = true := by
        rw [hR.out]
        have e1 := ht.out
        rwa [List.take_of_length_le (by rw [hn.out]; omega)] at e1
      clear hR
      go_wp2
      go_ret
      exact ⟨rfl, hK⟩

end Go.Proofs.YtgnooffedmeenaaGreatDoor.S
