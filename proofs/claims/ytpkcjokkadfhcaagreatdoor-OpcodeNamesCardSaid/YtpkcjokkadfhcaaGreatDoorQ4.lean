/-
  The document's in and Check. Conditions: none but that numbers fit an int64.
  A range over a function that is never left ahead of its end, whose iterator brings things of which something is known in the world in which each comes (En). No program, no conditions.
  The iterator of an instruction's operands: it brings each operand that there is, in order, with its functions as they lie in memory when it comes. Conditions: kinds are from 0 to 10.
-/
import Derived.LoopIn
import Derived.LoopNIn
import Derived.OwnWalkIn
import Derived.RangeFuncBound
import Derived.RangeFuncCalls
import Derived.RangeFuncLeaves
import Derived.RangeFuncNested
import Derived.Shelf.Abstract
import Derived.Shelf.RegionOpen
import Derived.TacticsInMore
import Derived.WalkKit
import Derived.Test.YtpkcjokkadfhcaaGreatDoorQ3
import Derived.Test.YtpkcjokkadfhcaaGreatDoorQ2
namespace Go.Proofs.YtpkcjokkadfhcaaGreatDoor.O
open Go.RowKit

set_option maxHeartbeats 1000000 in
theorem rin_any (k n : Int) (p : Bool) (w : World) (hp : Hid (inK k n = p)) (h0 : 0 ≤ k) (h1 : k ≤ 10) (hI : I64 n) :
    Calls Tryz.prog 50 #[.int .i64 k, .int .i64 n] w fun e w' => e = .returned (.bool p) ∧ Keep NoB w w' := by
  by_cases hk : k = 1
  · subst hk
    have : p = true := by
      rw [← hp.out]
      exact decide_eq_true hI
    subst this
    clear hp h0 h1 hI
    go_enter Tryz.func50, Tryz.ntmps50
    go_wp2
    go_ret
    exact ⟨rfl, Keep.refl _ _⟩
  · have hq : (k == 1) = false := by rw [beq_eq_false_iff_ne]; exact hk
    have HL := Lib.hid (fun w => rleast_any k w h0 h1 hk)
    have HM := Lib.hid (fun w => rmost_any k w h0 h1 hk)
    have hd : Hid (decide (lo k ≤ n ∧ n ≤ hi k) = p) := hp
    clear hp h0 h1 hk hI
    generalize lo k = L at HL hd
    generalize hi k = M at HM hd
    cases d1 : decide (L ≤ n)
    · have : p = false := by rw [← hd.out]; exact decide_eq_false fun h => of_decide_eq_false d1 h.1
      subst this
      clear hd
      go_enter Tryz.func50, Tryz.ntmps50
      go_wp2_with fail
      refine (HL.out _).mono ?_
      rintro e w1 ⟨rfl, rfl⟩
      go_wp2
      go_ret
      exact ⟨rfl, Keep.refl _ _⟩
    · cases d2 : decide (n ≤ M)
      · have : p = false := by rw [← hd.out]; exact decide_eq_false fun h => of_decide_eq_false d2 h.2
        subst this
        clear hd
        go_enter Tryz.func50, Tryz.ntmps50
        go_wp2_with fail
        refine (HL.out _).mono ?_
        rintro e w1 ⟨rfl, rfl⟩
        go_wp2_with fail
        refine (HM.out _).mono ?_
        rintro e w1 ⟨rfl, k1⟩
        go_wp2
        go_ret
        exact ⟨rfl, k1⟩
      · have : p = true := by rw [← hd.out]; exact decide_eq_true ⟨of_decide_eq_true d1, of_decide_eq_true d2⟩
        subst this
        clear hd
        go_enter Tryz.func50, Tryz.ntmps50
        go_wp2_with fail
        refine (HL.out _).mono ?_
        rintro e w1 ⟨rfl, rfl⟩
        go_wp2_with fail
        refine (HM.out _).mono ?_
        rintro e w1 ⟨rfl, k1⟩
        go_wp2
        go_ret
        exact ⟨rfl, k1⟩

theorem blk_inst {w : World} {g : Nat} {t : TypeId} {a0 a1 a2 : Value} (h : Blk w g t #[a0, a1, a2]) : w.cell? ⟨g, 0, none⟩ = some a0 ∧ w.cell? ⟨g, 1, none⟩ = some a1 ∧ w.cell? ⟨g, 2, none⟩ = some a2 := ⟨h.cell 0, h.cell 1, h.cell 2⟩

set_option maxHeartbeats 2000000 in
theorem rcheck_any (op a b : Int) (w : World) (ha : I64 a) (hb : I64 b) :
    Calls Tryz.prog 15 #[instV op a b] w fun e w' => e = .returned (.int .i64 (chk op a b)) ∧ Keep NoB w w' := by
  obtain ⟨j0, j1, l0, l1⟩ := kinds_ok op
  obtain ⟨p, hp⟩ : ∃ p, Hid (inK (rowAt op).ka a = p) := ⟨_, rfl⟩
  obtain ⟨q, hq⟩ : ∃ q, Hid (inK (rowAt op).kb b = q) := ⟨_, rfl⟩
  have HA := Lib.hid (fun w => rin_any (rowAt op).ka a p w hp j0 j1 ha)
  have HB := Lib.hid (fun w => rin_any (rowAt op).kb b q w hq l0 l1 hb)
  have HK := Lib.hid (fun w => rkinds_any op w)
  have HX : Hid (chk op a b = if (isOp op && p && q) = true then 0 else 40) := by show _ = _; unfold chk okI; rw [hp.out, hq.out]
  clear j0 j1 l0 l1 hp hq ha hb
  generalize (rowAt op).ka = j at HA HK
  generalize (rowAt op).kb = l at HB HK
  generalize chk op a b = c at HX ⊢
  have bx0 := Blk.new w 23 #[.int .i64 op, .int .i64 a, .int .i64 b]
  have gK := (Keep.refl NoB w).alloc (.cells #[.int .i64 op, .int .i64 a, .int .i64 b] 23)
  go_enter Tryz.func15, Tryz.ntmps15
  go_wp2_with fail
  refine (HK.out _).mono ?_
  rintro e w1 ⟨rfl, rfl⟩
  go_wp2_with fail
  refine (HA.out _).mono ?_
  rintro e w2 ⟨rfl, k2⟩
  have bx := bx0.keep k2 id
  replace gK := keepN gK k2
  clear k2 bx0
  obtain ⟨x0, x1, x2⟩ := blk_inst bx
  go_wp2_with fail
  refine (HB.out _).mono ?_
  rintro e w3 ⟨rfl, k3⟩
  have bx3 := bx.keep k3 id
  replace gK := keepN gK k3
  clear k3 bx x0 x1 x2 HA HB HK
  obtain ⟨x0, x1, x2⟩ := blk_inst bx3
  cases ho : isOp op
  · have hn := isOp_no ho
    have hc : c = 40 := by rw [HX.out, ho]; rfl
    subst hc
    by_cases h0 : op < 0
    · have d0 : decide (op < 0) = true := by simpa using h0
      clear hn HX ho h0
      go_wp2
      go_ret
      exact ⟨rfl, gK⟩
    · have d0 : decide (op < 0) = false := by simpa using h0
      have d1 : decide (30 ≤ op) = true := by rw [decide_eq_true_iff]; omega
      clear hn HX ho h0
      go_wp2
      go_ret
      exact ⟨rfl, gK⟩
  · have hn := isOp_yes ho
    have d0 : decide (op < 0) = false := by rw [decide_eq_false_iff_not]; omega
    have d1 : decide (30 ≤ op) = false := by rw [decide_eq_false_iff_not]; omega
    cases p
    · have hc : c = 40 := by rw [HX.out, ho]; rfl
      subst hc
      clear hn HX ho
      go_wp2
      go_ret
      exact ⟨rfl, gK⟩
    · cases q
      · have hc : c = 40 := by rw [HX.out, ho]; rfl
        subst hc
        clear hn HX ho
        go_wp2
        go_ret
        exact ⟨rfl, gK⟩
      · have hc : c = 0 := by rw [HX.out, ho]; rfl
        subst hc
        clear hn HX ho
        go_wp2
        go_ret
        exact ⟨rfl, gK⟩

end Go.Proofs.YtpkcjokkadfhcaaGreatDoor.O

namespace Go.Proofs.YtpkcjokkadfhcaaGreatDoor
open Go.RowKit Go.Shelf

section
variable {P : Program} {n : Nat}

theorem Keep.grows {W W' : World} (h : Keep NoB W W') : W.grownBy W' none := ⟨h.os, h.tape, h.output, h.size, fun k hk _ => h.block k hk id⟩
theorem ownFrom_keeps {β : Type} {B : Nat} {I : β → World → Prop} (hI : OwnFrom B I) {s : β} {W W' : World} (h : I s W) (hk : Keep NoB W W') : I s W' := hI s W W' none h hk.grows (fun r e => by cases e)
theorem keepsFrom_keep {B : Nat} {W W' : World} (hk : Keep NoB W W') : KeepsFrom B W W' := ⟨hk.size, fun k _ _ h _ => (hk.block k (Array.getElem?_eq_some_iff.1 h).1 id).trans h⟩

/-- One round, out of the walks of the assignments and of the body, if the body comes to its end. -/
theorem yieldAt_end {L m : Nat} {r : Loop} {args : Array Value} {W : World} {R : World → Prop} (hl : W.heap[L]? = some (.loop r)) (hr : r.state = .ready) (hp : r.pending = none) (hs : args.size = r.params.size)
    (h : r.assign.wpIn (Fence.wide.inRound L) m P (Exit.then (fun a₁ W₁ => W₁.heap[L]? = some (.loop r) ∧
        r.body.wpIn (Fence.wide.inRound L) m P (fun e _ W₃ => e = .normal ∧ W₃.heap[L]? = some (.loop { r with state := .busy }) ∧ R (W₃.putObj L (.loop r))) a₁ (W₁.putObj L (.loop { r with state := .busy })))
        (fun _ _ _ => False)) { tmps := (r.params.zip args).foldl (fun t (p, v) => t.setIfInBounds p v) r.tmps, defers := [] } W) :
    YieldAt Fence.wide m P L args W fun e W' => e = .returned (.bool true) ∧ R W' := by
  refine ⟨r.fn, _, r.assign, r.body, run_yield hl hs, roundIn_of_wpIn trivial (wpIn_mono h ?_)⟩
  intro e a₁ W₁ hq
  cases e with
  | normal =>
    obtain ⟨h1, h2⟩ := hq
    refine ⟨_, run_beginRound h1 hr, wpIn_mono h2 ?_⟩
    rintro e₃ a₃ W₃ ⟨rfl, h3, h4⟩
    refine ⟨_, _, run_endRound none h3, rfl, ?_⟩
    have hb : ({ r with state := .busy } : Loop) = { r with state := .busy } := rfl
    have he : ({ ({ r with state := .busy } : Loop) with state := if (none : Option Code).isNone then LoopState.ready else .done, pending := none } : Loop) = r := by
      cases r; simp_all
    rw [he]; exact h4
  | exit id => exact hq
  | goto t => exact hq
  | ret => exact hq
  | panic c => exact hq
  | outgrown => exact hq

/-- What is asked of the iterator. -/
def Brings {α : Type} (P : Program) (m k : Nat) (gf : Nat) (lb : Array Value) (encs : α → Array Value) (I : List α → World → Prop) (En : List α → α → World → Prop) (S : List α → Prop) : Prop :=
  ∀ (L : Nat) (J : List α → World → Prop), (∀ pre W W', J pre W → Keep NoB W W' → J pre W') → (∀ pre W, J pre W → I pre W) →
    (∀ pre x W, J pre W → En pre x W → YieldAt Fence.wide m P L (encs x) W fun e W' => e = .returned (.bool true) ∧ J (pre ++ [x]) W') →
    ∀ W, J [] W → CallsIn Fence.wide k P gf (#[.func (.yield L) #[] #[]] ++ lb) W fun e W' => (∃ v, e = .returned v) ∧ ∃ xs, S xs ∧ J xs W'

theorem wpIn_rangeFunc_brings {α : Type} {g : Operand} {ps : Array Tmp} {assign body : Code} {Q : Exit → Act → World → Prop} {a : Act} {w : World} {m : Nat}
    {gf : Nat} {lb : Array Value} (hg : a.eval g = .func (.func gf) #[] lb) (eg : ∀ args w, (callFunc gf args).run P w = .ok (.enter gf args) w)
    {encs : α → Array Value} {I : List α → World → Prop} {En : List α → α → World → Prop} {S : List α → Prop} (hit : Brings P m (n - 1) gf lb encs I En S) (hps : ∀ x, (encs x).size = ps.size)
    (hI : OwnFrom w.heap.size I) (h0 : I [] w) (Ax : List α → α → Act → World → Prop) (hAx : ∀ pre x a', OwnFrom w.heap.size (fun (_ : Unit) W => Ax pre x a' W))
    (hassign : ∀ (l : Nat) (pre : List α) (x : α) (W : World), I pre W → En pre x W →
      assign.wpIn (Fence.wide.inRound l) m P (Exit.then (fun a' W' => Ax pre x a' W' ∧ KeepsFrom w.heap.size W W') (fun _ _ _ => False)) { tmps := (ps.zip (encs x)).foldl (fun t (p, v) => t.setIfInBounds p v) a.tmps, defers := [] } W)
    (hbody : ∀ (l : Nat) (pre : List α) (x : α) (a' : Act) (W : World), Ax pre x a' W → body.wpIn (Fence.wide.inRound l) m P (fun e _ W' => e = .normal ∧ I (pre ++ [x]) W' ∧ KeepsFrom w.heap.size W W') a' W)
    (hdone : ∀ (D : Nat) (xs : List α) (W : World), w.heap.size ≤ D → S xs → I xs W → W.heap[D]? = some (.deferred (some [])) → Q .normal { a with defers := { target := .collected D, args := #[] } :: a.defers } W) :
    (Code.rangeFunc g ps assign body).wpIn Fence.wide n P Q a w := by
  refine wpIn_rangeFunc fun fn _ => ?_
  obtain ⟨r, hr⟩ : ∃ r : Loop, r = { state := .ready, pending := none, fn, tmps := a.tmps, params := ps, assign, body, defers := w.heap.size } := ⟨_, rfl⟩
  obtain ⟨W1, hW1⟩ : ∃ W1, (w.alloc (.deferred (some []))).alloc (.loop r) = W1 := ⟨_, rfl⟩
  have hL1 : W1.heap[w.heap.size + 1]? = some (.loop r) := by
    rw [← hW1]; have := World.alloc_heap_new (w.alloc (.deferred (some []))) (.loop r); rwa [World.size_alloc] at this
  have hD1 : W1.heap[w.heap.size]? = some (.deferred (some [])) := by
    rw [← hW1]; exact (Below.heap_alloc _ _ _ (by simp)).trans (World.alloc_heap_new w _)
  refine ⟨w.heap.size + 1, [{ target := .collected w.heap.size, args := #[] }], W1, { target := .fn (.func gf) lb, args := #[.func (.yield (w.heap.size + 1)) #[] #[]] }, W1, gf,
    #[.func (.yield (w.heap.size + 1)) #[] #[]] ++ lb, W1, ?_, ?_, fun _ _ => trivial, ?_, (fun h => by cases h), ?_⟩
  · rw [← hW1, hr]; exact run_enterLoop_outer _ _ _ _ _
  · simp only [resolve, hg]
    simp [go_sem]
  · simp [invoke, go_sem, eg]
  refine (hit (w.heap.size + 1) (fun pre W => I pre W ∧ W.heap[w.heap.size + 1]? = some (.loop r) ∧ W.heap[w.heap.size]? = some (.deferred (some []))) ?_ (fun _ _ h => h.1) ?_ W1 ⟨by rw [← hW1]; exact hI.alloc _ (hI.alloc _ h0), hL1, hD1⟩).mono ?_
  · rintro pre W W' ⟨h1, h2, h3⟩ hk
    exact ⟨ownFrom_keeps hI h1 hk, (hk.block _ (Array.getElem?_eq_some_iff.1 h2).1 id).trans h2, (hk.block _ (Array.getElem?_eq_some_iff.1 h3).1 id).trans h3⟩
  · clear hL1 hW1 hD1
    subst hr
    rintro pre x W ⟨h1, h2, h3⟩ hen
    refine yieldAt_end h2 rfl rfl (hps x) ?_
    have ha := hassign (w.heap.size + 1) pre x W h1 hen
    refine wpIn_mono ha ?_
    intro e a₁ Wa hq
    cases e with
    | normal =>
      obtain ⟨hax, hka⟩ := hq
      have l2 := hka.same _ _ (by omega) h2 rfl
      have d2 := hka.same _ _ (Nat.le_refl _) h3 rfl
      refine ⟨l2, ?_⟩
      have lt2 := (Array.getElem?_eq_some_iff.1 l2).1
      refine wpIn_mono (hbody _ pre x a₁ _ ((hAx pre x a₁).putObj (s := ()) _ hax (by omega) l2 rfl)) ?_
      rintro e₃ a₃ W₃ ⟨rfl, h4, h5⟩
      have l3 := h5.same (w.heap.size + 1) _ (by omega) (World.putObj_heap_same lt2) rfl
      have d3 := h5.same w.heap.size _ (Nat.le_refl _) ((World.putObj_heap_other (by omega)).trans d2) rfl
      refine ⟨rfl, l3, hI.putObj _ h4 (by omega) l3 rfl, World.putObj_heap_same (Array.getElem?_eq_some_iff.1 l3).1, (World.putObj_heap_other (by omega)).trans d3⟩
    | exit id => exact hq
    | goto t => exact hq
    | ret => exact hq
    | panic c => exact hq
    | outgrown => exact hq
  · rintro e W2 ⟨⟨v, rfl⟩, xs, hS, h1, h2, h3⟩
    have hp : r.pending = none := by rw [hr]
    exact ⟨none, _, by have := run_endLoop (P := P) h2 (by rw [hr]; simp); rw [hp] at this; exact this, hdone _ xs _ (Nat.le_refl _) hS (hI.putObj _ h1 (by omega) h2 rfl) ((World.putObj_heap_other (by omega)).trans h3)⟩
end
end Go.Proofs.YtpkcjokkadfhcaaGreatDoor

namespace Go.Proofs.YtpkcjokkadfhcaaGreatDoor.O
open Go.RowKit Go.Shelf
attribute [local go_sem] Oper.semAt_some

/-- An operand that comes: its kind, its number, its functions. -/
structure Part where
  k : Int
  n : Int
  sh : Value
  gu : Value
def Part.key (x : Part) : Int × Int := (x.k, x.n)
abbrev partE (x : Part) : Array Value := #[opV x.k x.sh x.gu, .int .i64 x.n]
/-- The operands that there are. -/
def partsL (ka kb a b : Int) : List (Int × Int) := if ka = 0 then [] else if kb = 0 then [(ka, a)] else [(ka, a), (kb, b)]
/-- What is known of one that comes: its place, its functions. -/
def PartN (ka kb a b : Int) (pre : List Part) (x : Part) (W : World) : Prop := (∃ post, pre.map Part.key ++ x.key :: post = partsL ka kb a b) ∧ FnAt x.k x.sh x.gu W

theorem parts_0 {ka kb a b : Int} (h : ka = 0) : partsL ka kb a b = [] := by unfold partsL; rw [if_pos h]
theorem parts_1 {ka kb a b : Int} (h : ka ≠ 0) (h' : kb = 0) : partsL ka kb a b = [(ka, a)] := by unfold partsL; rw [if_neg h, if_pos h']
theorem parts_2 {ka kb a b : Int} (h : ka ≠ 0) (h' : kb ≠ 0) : partsL ka kb a b = [(ka, a), (kb, b)] := by unfold partsL; rw [if_neg h, if_neg h']

theorem run_index_nums (a b : Int) (w : World) : (Instr.index 128 (.agg #[.int .i64 a, .int .i64 b]) (.int .i64 0)).run Tryz.prog w = .ok (.int .i64 a) w ∧
    (Instr.index 128 (.agg #[.int .i64 a, .int .i64 b]) (.int .i64 1)).run Tryz.prog w = .ok (.int .i64 b) w := by
  have hs : (sizeOf 2).run Tryz.prog w = .ok 1 w := Tryz.sizeOf2 w
  unfold Instr.index
  constructor
  · simp [run_underlying Tryz.underlying128, asIntOf, hs, part]
  · simp [run_underlying Tryz.underlying128, asIntOf, hs, part]

set_option maxRecDepth 100000 in
set_option maxHeartbeats 4000000 in
theorem parts1_in (m : Nat) (q : Row) (op a b : Int) (Bx Br : Nat) (hka : 0 ≤ q.ka ∧ q.ka ≤ 10) (hkb : 0 ≤ q.kb ∧ q.kb ≤ 10) (I : List Part → World → Prop)
    (hbx : ∀ pre W, I pre W → Blk W Bx 23 #[.int .i64 op, .int .i64 a, .int .i64 b]) (hbr : ∀ pre W, I pre W → Blk W Br 71 (cells9 q)) :
    Brings Tryz.prog m (m + 1) 68 #[.pointer (some ⟨Bx, 0, none⟩), .pointer (some ⟨Br, 0, none⟩)] partE I (PartN q.ka q.kb a b) (fun xs => xs.map Part.key = partsL q.ka q.kb a b) := by
  intro L J hJk hJI hY W h0
  refine callsIn_of_wp Tryz.func68 rfl trivial ?_ rfl
  simp only [Tryz.ntmps68, List.size_toArray, List.length_cons, List.length_nil, Nat.reduceAdd, Nat.reduceSub, Array.replicate_succ, Array.replicate_zero, List.push_toArray, List.append_toArray, List.nil_append, List.cons_append]
  have x0 := hbx _ _ (hJI _ _ h0)
  have c1 : W.cell? ⟨Bx, 1, none⟩ = some (.int .i64 a) := x0.cell 1
  have c2 : W.cell? ⟨Bx, 2, none⟩ = some (.int .i64 b) := x0.cell 2
  clear x0
  gi_wp2
  gi_loopw [11] (fun i wr => ∃ (k : Nat) (pre : List Part), k ≤ 2 ∧ i = .int .i64 (k : Int) ∧ Hid (pre.map Part.key = [(q.ka, a), (q.kb, b)].take k ∧ (1 ≤ k → q.ka ≠ 0) ∧ (2 ≤ k → q.kb ≠ 0)) ∧ J pre wr)
    (fun i _ => 2 - (intOf i).toNat)
  case atStart => exact ⟨0, [], by omega, rfl, ⟨rfl, fun h => by omega, fun h => by omega⟩, h0⟩
  case round =>
    obtain ⟨k, pre, hk, rfl, HP, hJ⟩ := hrel
    have r0 := hbr _ _ (hJI _ _ hJ)
    have d1 : wr.cell? ⟨Br, 1, none⟩ = some (.int .i64 q.ka) := r0.cell 1
    have d2 : wr.cell? ⟨Br, 2, none⟩ = some (.int .i64 q.kb) := r0.cell 2
    clear r0 c1 c2
    have hix := fun w => run_index_nums a b w
    have hi0 := fun w => (hix w).1
    have hi1 := fun w => (hix w).2
    clear hix
    obtain rfl | rfl | rfl : k = 0 ∨ k = 1 ∨ k = 2 := by omega
    · by_cases hz : q.ka = 0
      · have hS : Hid (pre.map Part.key = partsL q.ka q.kb a b) := by show _ = _; rw [HP.out.1, parts_0 hz]; rfl
        have e0 : (q.ka == 0) = true := by rw [beq_iff_eq]; exact hz
        clear HP hz hka hkb
        rw [show ((0 : Nat) : Int) = 0 from rfl]
        gi_wp2
        refine ⟨trivial, ?_⟩
        gi_wp2
        refine ⟨fun _ h => (by cases h), ?_⟩
        gi_wp2
        refine bodyPost_ret (results_none rfl _ _ _) rfl ?_
        exact ⟨⟨_, rfl⟩, pre, hS.out, hJ⟩
      · have e0 : (q.ka == 0) = false := by rw [beq_eq_false_iff_ne]; exact hz
        have HN : Hid (pre.map Part.key ++ (q.ka, a) :: (if q.kb = 0 then [] else [(q.kb, b)]) = partsL q.ka q.kb a b) := by show _ = _; rw [HP.out.1]; unfold partsL; rw [if_neg hz]; split <;> rfl
        have HQ : Hid (∀ x : Part, x.key = (q.ka, a) → (pre ++ [x]).map Part.key = [(q.ka, a), (q.kb, b)].take 1) := by intro x hx; rw [List.map_append, HP.out.1]; simp [hx]
        have hp1 := HP.out.2.1
        have HZ : Hid ((1 ≤ 1 → q.ka ≠ 0) ∧ (2 ≤ 1 → q.kb ≠ 0)) := ⟨fun _ => hz, fun h => by omega⟩
        clear HP hz hp1
        rw [show ((0 : Nat) : Int) = 0 from rfl]
        gi_wp2_with (refine ⟨trivial, ?_⟩; gi_at_call 46; refine (callsIn_wide.2 (operandOf_any q.ka hka _)).mono ?_; rintro e w1 ⟨sh, gu, rfl, hF, k1⟩; have hJ1 := hJk _ _ _ hJ k1; obtain ⟨fn, tmps, assign, body, hy, hR⟩ := hY pre ⟨q.ka, a, sh, gu⟩ w1 hJ1 ⟨⟨_, HN.out⟩, hF⟩; dsimp only [partE] at hy)
        refine hR.mono ?_
        rintro e W3 ⟨rfl, hJ3⟩
        gi_wp2
        go_roundw
        case rel => exact ⟨1, pre ++ [_], by omega, rfl, ⟨HQ.out _ rfl, HZ.out⟩, hJ3⟩
        case measure => simp [intOf]
    · by_cases hz : q.kb = 0
      · have hS : Hid (pre.map Part.key = partsL q.ka q.kb a b) := by show _ = _; rw [HP.out.1, parts_1 (HP.out.2.1 (by omega)) hz]; rfl
        have e0 : (q.kb == 0) = true := by rw [beq_iff_eq]; exact hz
        clear HP hz hka hkb
        rw [show ((1 : Nat) : Int) = 1 from rfl]
        gi_wp2
        refine ⟨trivial, ?_⟩
        gi_wp2
        refine ⟨fun _ h => (by cases h), ?_⟩
        gi_wp2
        refine bodyPost_ret (results_none rfl _ _ _) rfl ?_
        exact ⟨⟨_, rfl⟩, pre, hS.out, hJ⟩
      · have e0 : (q.kb == 0) = false := by rw [beq_eq_false_iff_ne]; exact hz
        have HN : Hid (pre.map Part.key ++ (q.kb, b) :: [] = partsL q.ka q.kb a b) := by show _ = _; rw [HP.out.1, parts_2 (HP.out.2.1 (by omega)) hz]; rfl
        have HQ : Hid (∀ x : Part, x.key = (q.kb, b) → (pre ++ [x]).map Part.key = [(q.ka, a), (q.kb, b)].take 2) := by intro x hx; rw [List.map_append, HP.out.1]; simp [hx]
        have hp1 := HP.out.2.1
        have HZ : Hid ((1 ≤ 2 → q.ka ≠ 0) ∧ (2 ≤ 2 → q.kb ≠ 0)) := ⟨fun _ => hp1 (by omega), fun _ => hz⟩
        clear HP hz hp1
        rw [show ((1 : Nat) : Int) = 1 from rfl]
        gi_wp2_with (refine ⟨trivial, ?_⟩; gi_at_call 46; refine (callsIn_wide.2 (operandOf_any q.kb hkb _)).mono ?_; rintro e w1 ⟨sh, gu, rfl, hF, k1⟩; have hJ1 := hJk _ _ _ hJ k1; obtain ⟨fn, tmps, assign, body, hy, hR⟩ := hY pre ⟨q.kb, b, sh, gu⟩ w1 hJ1 ⟨⟨_, HN.out⟩, hF⟩; dsimp only [partE] at hy)
        refine hR.mono ?_
        rintro e W3 ⟨rfl, hJ3⟩
        gi_wp2
        go_roundw
        case rel => exact ⟨2, pre ++ [_], by omega, rfl, ⟨HQ.out _ rfl, HZ.out⟩, hJ3⟩
        case measure => simp [intOf]
    · have hS : Hid (pre.map Part.key = partsL q.ka q.kb a b) := by show _ = _; rw [HP.out.1, parts_2 (HP.out.2.1 (by omega)) (HP.out.2.2 (by omega))]; rfl
      clear HP hka hkb
      rw [show ((2 : Nat) : Int) = 2 from rfl]
      gi_wp2
      go_end0
      exact ⟨⟨_, rfl⟩, pre, hS.out, hJ⟩

end Go.Proofs.YtpkcjokkadfhcaaGreatDoor.O
