/-
  A range over a function that is never left ahead of its end, whose iterator brings things of which something is known in the world in which each comes (En). No program, no conditions.
  The iterator of a function's slots: the arguments, the results, the locals, each with its number. Conditions: the lists lie in memory; a round keeps them.
  The types of a function's slots: what types and Slots answer. Conditions: the function's lists lie in memory, and are no longer than statements go through.
  What a slot is: what Slot answers. Conditions: the function's lists lie in memory, and are no longer than statements go through; the number fits an int64.
  Which slots are pointers: what Pointers answers. Conditions: the function's lists lie in memory, and are no longer than statements go through.
  The builtin copy of whole elements onto the first ones of a slice that is owned; and slices.Clone of lists. No conditions.
-/
import Derived.Laws.CopyOwn
import Derived.LoopIn
import Derived.LoopNIn
import Derived.OwnWalkIn
import Derived.RangeFuncBound
import Derived.RangeFuncCalls
import Derived.RangeFuncLeaves
import Derived.RangeFuncNested
import Derived.Shelf.Abstract
import Derived.Shelf.RegionOpen
import Derived.TacticsInMore
import Derived.WalkKit
import Derived.Test.YtbnekeomdhljhaaGreatDoorQ2
import Derived.Test.YtbnekeomdhljhaaGreatDoorQ7
namespace Go.Proofs.YtbnekeomdhljhaaGreatDoor
open Go.RowKit Go.Shelf

section
variable {P : Program} {n : Nat}

theorem Keep.grows {W W' : World} (h : Keep NoB W W') : W.grownBy W' none := ⟨h.os, h.tape, h.output, h.size, fun k hk _ => h.block k hk id⟩
theorem ownFrom_keeps {β : Type} {B : Nat} {I : β → World → Prop} (hI : OwnFrom B I) {s : β} {W W' : World} (h : I s W) (hk : Keep NoB W W') : I s W' := hI s W W' none h hk.grows (fun r e => by cases e)
theorem keepsFrom_keep {B : Nat} {W W' : World} (hk : Keep NoB W W') : KeepsFrom B W W' := ⟨hk.size, fun k _ _ h _ => (hk.block k (Array.getElem?_eq_some_iff.1 h).1 id).trans h⟩

/-- One round, out of the walks of the assignments and of the body, if the body comes to its end. -/
theorem yieldAt_end {L m : Nat} {r : Loop} {args : Array Value} {W : World} {R : World → Prop} (hl : W.heap[L]? = some (.loop r)) (hr : r.state = .ready) (hp : r.pending = none) (hs : args.size = r.params.size)
    (h : r.assign.wpIn (Fence.wide.inRound L) m P (Exit.then (fun a₁ W₁ => W₁.heap[L]? = some (.loop r) ∧
        r.body.wpIn (Fence.wide.inRound L) m P (fun e _ W₃ => e = .normal ∧ W₃.heap[L]? = some (.loop { r with state := .busy }) ∧ R (W₃.putObj L (.loop r))) a₁ (W₁.putObj L (.loop { r with state := .busy })))
        (fun _ _ _ => False)) { tmps := (r.params.zip args).foldl (fun t (p, v) => t.setIfInBounds p v) r.tmps, defers := [] } W) :
    YieldAt Fence.wide m P L args W fun e W' => e = .returned (.bool true) ∧ R W' := by
  refine ⟨r.fn, _, r.assign, r.body, run_yield hl hs, roundIn_of_wpIn trivial (wpIn_mono h ?_)⟩
  intro e a₁ W₁ hq
  cases e with
  | normal =>
    obtain ⟨h1, h2⟩ := hq
    refine ⟨_, run_beginRound h1 hr, wpIn_mono h2 ?_⟩
    rintro e₃ a₃ W₃ ⟨rfl, h3, h4⟩
    refine ⟨_, _, run_endRound none h3, rfl, ?_⟩
    have hb : ({ r with state := .busy } : Loop) = { r with state := .busy } := rfl
    have he : ({ ({ r with state := .busy } : Loop) with state := if (none : Option Code).isNone then LoopState.ready else .done, pending := none } : Loop) = r := by
      cases r; simp_all
    rw [he]; exact h4
  | exit id => exact hq
  | goto t => exact hq
  | ret => exact hq
  | panic c => exact hq
  | outgrown => exact hq

/-- What is asked of the iterator. -/
def Brings {α : Type} (P : Program) (m k : Nat) (gf : Nat) (lb : Array Value) (encs : α → Array Value) (I : List α → World → Prop) (En : List α → α → World → Prop) (S : List α → Prop) : Prop :=
  ∀ (L : Nat) (J : List α → World → Prop), (∀ pre W W', J pre W → Keep NoB W W' → J pre W') → (∀ pre W, J pre W → I pre W) →
    (∀ pre x W, J pre W → En pre x W → YieldAt Fence.wide m P L (encs x) W fun e W' => e = .returned (.bool true) ∧ J (pre ++ [x]) W') →
    ∀ W, J [] W → CallsIn Fence.wide k P gf (#[.func (.yield L) #[] #[]] ++ lb) W fun e W' => (∃ v, e = .returned v) ∧ ∃ xs, S xs ∧ J xs W'

theorem wpIn_rangeFunc_brings {α : Type} {g : Operand} {ps : Array Tmp} {assign body : Code} {Q : Exit → Act → World → Prop} {a : Act} {w : World} {m : Nat}
    {gf : Nat} {lb : Array Value} (hg : a.eval g = .func (.func gf) #[] lb) (eg : ∀ args w, (callFunc gf args).run P w = .ok (.enter gf args) w)
    {encs : α → Array Value} {I : List α → World → Prop} {En : List α → α → World → Prop} {S : List α → Prop} (hit : Brings P m (n - 1) gf lb encs I En S) (hps : ∀ x, (encs x).size = ps.size)
    (hI : OwnFrom w.heap.size I) (h0 : I [] w) (Ax : List α → α → Act → World → Prop) (hAx : ∀ pre x a', OwnFrom w.heap.size (fun (_ : Unit) W => Ax pre x a' W))
    (hassign : ∀ (l : Nat) (pre : List α) (x : α) (W : World), I pre W → En pre x W →
      assign.wpIn (Fence.wide.inRound l) m P (Exit.then (fun a' W' => Ax pre x a' W' ∧ KeepsFrom w.heap.size W W') (fun _ _ _ => False)) { tmps := (ps.zip (encs x)).foldl (fun t (p, v) => t.setIfInBounds p v) a.tmps, defers := [] } W)
    (hbody : ∀ (l : Nat) (pre : List α) (x : α) (a' : Act) (W : World), Ax pre x a' W → body.wpIn (Fence.wide.inRound l) m P (fun e _ W' => e = .normal ∧ I (pre ++ [x]) W' ∧ KeepsFrom w.heap.size W W') a' W)
    (hdone : ∀ (D : Nat) (xs : List α) (W : World), w.heap.size ≤ D → S xs → I xs W → W.heap[D]? = some (.deferred (some [])) → Q .normal { a with defers := { target := .collected D, args := #[] } :: a.defers } W) :
    (Code.rangeFunc g ps assign body).wpIn Fence.wide n P Q a w := by
  refine wpIn_rangeFunc fun fn _ => ?_
  obtain ⟨r, hr⟩ : ∃ r : Loop, r = { state := .ready, pending := none, fn, tmps := a.tmps, params := ps, assign, body, defers := w.heap.size } := ⟨_, rfl⟩
  obtain ⟨W1, hW1⟩ : ∃ W1, (w.alloc (.deferred (some []))).alloc (.loop r) = W1 := ⟨_, rfl⟩
  have hL1 : W1.heap[w.heap.size + 1]? = some (.loop r) := by
    rw [← hW1]; have := World.alloc_heap_new (w.alloc (.deferred (some []))) (.loop r); rwa [World.size_alloc] at this
  have hD1 : W1.heap[w.heap.size]? = some (.deferred (some [])) := by
    rw [← hW1]; exact (Below.heap_alloc _ _ _ (by simp)).trans (World.alloc_heap_new w _)
  refine ⟨w.heap.size + 1, [{ target := .collected w.heap.size, args := #[] }], W1, { target := .fn (.func gf) lb, args := #[.func (.yield (w.heap.size + 1)) #[] #[]] }, W1, gf,
    #[.func (.yield (w.heap.size + 1)) #[] #[]] ++ lb, W1, ?_, ?_, fun _ _ => trivial, ?_, (fun h => by cases h), ?_⟩
  · rw [← hW1, hr]; exact run_enterLoop_outer _ _ _ _ _
  · simp only [resolve, hg]
    simp [go_sem]
  · simp [invoke, go_sem, eg]
  refine (hit (w.heap.size + 1) (fun pre W => I pre W ∧ W.heap[w.heap.size + 1]? = some (.loop r) ∧ W.heap[w.heap.size]? = some (.deferred (some []))) ?_ (fun _ _ h => h.1) ?_ W1 ⟨by rw [← hW1]; exact hI.alloc _ (hI.alloc _ h0), hL1, hD1⟩).mono ?_
  · rintro pre W W' ⟨h1, h2, h3⟩ hk
    exact ⟨ownFrom_keeps hI h1 hk, (hk.block _ (Array.getElem?_eq_some_iff.1 h2).1 id).trans h2, (hk.block _ (Array.getElem?_eq_some_iff.1 h3).1 id).trans h3⟩
  · clear hL1 hW1 hD1
    subst hr
    rintro pre x W ⟨h1, h2, h3⟩ hen
    refine yieldAt_end h2 rfl rfl (hps x) ?_
    have ha := hassign (w.heap.size + 1) pre x W h1 hen
    refine wpIn_mono ha ?_
    intro e a₁ Wa hq
    cases e with
    | normal =>
      obtain ⟨hax, hka⟩ := hq
      have l2 := hka.same _ _ (by omega) h2 rfl
      have d2 := hka.same _ _ (Nat.le_refl _) h3 rfl
      refine ⟨l2, ?_⟩
      have lt2 := (Array.getElem?_eq_some_iff.1 l2).1
      refine wpIn_mono (hbody _ pre x a₁ _ ((hAx pre x a₁).putObj (s := ()) _ hax (by omega) l2 rfl)) ?_
      rintro e₃ a₃ W₃ ⟨rfl, h4, h5⟩
      have l3 := h5.same (w.heap.size + 1) _ (by omega) (World.putObj_heap_same lt2) rfl
      have d3 := h5.same w.heap.size _ (Nat.le_refl _) ((World.putObj_heap_other (by omega)).trans d2) rfl
      refine ⟨rfl, l3, hI.putObj _ h4 (by omega) l3 rfl, World.putObj_heap_same (Array.getElem?_eq_some_iff.1 l3).1, (World.putObj_heap_other (by omega)).trans d3⟩
    | exit id => exact hq
    | goto t => exact hq
    | ret => exact hq
    | panic c => exact hq
    | outgrown => exact hq
  · rintro e W2 ⟨⟨v, rfl⟩, xs, hS, h1, h2, h3⟩
    have hp : r.pending = none := by rw [hr]
    exact ⟨none, _, by have := run_endLoop (P := P) h2 (by rw [hr]; simp); rw [hp] at this; exact this, hdone _ xs _ (Nat.le_refl _) hS (hI.putObj _ h1 (by omega) h2 rfl) ((World.putObj_heap_other (by omega)).trans h3)⟩
end
end Go.Proofs.YtbnekeomdhljhaaGreatDoor

namespace Go.Proofs.YtbnekeomdhljhaaGreatDoor.F
open Go.RowKit Go.Shelf W
attribute [local go_sem] Oper.semAt_some

/-- What comes: a slot's number, what it is, and its type. -/
abbrev slA (f : Fu) (i : Nat) : Array Value := #[.int .i64 (i : Int), .agg #[.int .i64 (wh f i), .int .i64 (ty f i)]]
/-- The lists read. -/
def Ls (v : FV) (f : Fu) (W : World) : Prop := Rd W v.A (ivs f.ar) ∧ Rd W v.B (ivs f.rs) ∧ Rd W v.L (ivs f.lc)
theorem Ls.of {v : FV} {f : Fu} {W : World} (h : FnAt W v f) : Ls v f W := ⟨h.ra, h.rb, h.rl⟩
theorem Ls.keepN {v : FV} {f : Fu} {W W' : World} (h : Ls v f W) (hk : Keep NoB W W') : Ls v f W' := ⟨h.1.keepN hk, h.2.1.keepN hk, h.2.2.keepN hk⟩
/-- What a round keeps: the lists. -/
def LsK (v : FV) (f : Fu) (W W' : World) : Prop := Ls v f W → Ls v f W'
theorem LsK.trans {v : FV} {f : Fu} {X Y Z : World} (h : LsK v f X Y) (h' : LsK v f Y Z) : LsK v f X Z := fun hr => h' (h hr)
theorem rd_putObj {A : Option Addr} {xs : List Value} (W : World) (l : Nat) (o o' : Obj) (hl : W.heap[l]? = some o) (ho : o.isCells = false) (hr : Rd W A xs) : Rd (W.putObj l o') A xs := fun h0 => by
  obtain ⟨g, off, e, hc⟩ := hr h0
  refine ⟨g, off, e, fun j u hu => ?_⟩
  have h1 := hc j u hu
  have hne : g ≠ l := by
    intro e2
    unfold World.cell? at h1
    dsimp only at h1
    rw [e2, hl] at h1
    cases o with
    | cells cs t f => cases ho
    | _ => simp at h1
  exact (World.cell?_of_block (World.putObj_heap_other (show (⟨g, off + j, none⟩ : Addr).block ≠ l from hne))).trans h1
theorem LsK.putObj {v : FV} {f : Fu} (W : World) (l : Nat) (o o' : Obj) (hl : W.heap[l]? = some o) (ho : o.isCells = false) : LsK v f W (W.putObj l o') := fun h =>
  ⟨rd_putObj W l o o' hl ho h.1, rd_putObj W l o o' hl ho h.2.1, rd_putObj W l o o' hl ho h.2.2⟩
/-- Each list lies below a bound. -/
def LsB (v : FV) (f : Fu) (B : Nat) : Prop := (∀ ad, v.A = some ad → 0 < f.ar.length → ad.block < B) ∧ (∀ ad, v.B = some ad → 0 < f.rs.length → ad.block < B) ∧ (∀ ad, v.L = some ad → 0 < f.lc.length → ad.block < B)
theorem rd_lt {W : World} {A : Option Addr} {xs : List Value} (h : Rd W A xs) {ad : Addr} (e : A = some ad) (h0 : 0 < xs.length) : ad.block < W.heap.size := by
  obtain ⟨g, off, e2, hc⟩ := h h0
  rw [e] at e2
  injection e2 with e2
  subst e2
  exact World.block_lt_of_cell? W _ (hc 0 _ (List.getElem?_eq_getElem h0))
theorem Ls.bound {v : FV} {f : Fu} {W : World} (h : Ls v f W) : LsB v f W.heap.size :=
  ⟨fun ad e h0 => rd_lt h.1 e (by simpa using h0), fun ad e h0 => rd_lt h.2.1 e (by simpa using h0), fun ad e h0 => rd_lt h.2.2 e (by simpa using h0)⟩
theorem rd_below {A : Option Addr} {l : List Int} {B : Nat} {W W' : World} (hA : ∀ ad, A = some ad → 0 < l.length → ad.block < B) (h : Below B W W') (hr : Rd W A (ivs l)) : Rd W' A (ivs l) := fun h0 => by
  obtain ⟨g, off, e, hc⟩ := hr h0
  have hb : g < B := hA ⟨g, off, none⟩ e (by simpa using h0)
  exact ⟨g, off, e, fun j u hu => (World.cell?_of_block (show W'.heap[(⟨g, off + j, none⟩ : Addr).block]? = W.heap[(⟨g, off + j, none⟩ : Addr).block]? from h.block g hb)).trans (hc j u hu)⟩
theorem lsK_below {v : FV} {f : Fu} {B : Nat} {W W' : World} (hA : LsB v f B) (h : Below B W W') : LsK v f W W' := fun hr => ⟨rd_below hA.1 h hr.1, rd_below hA.2.1 h hr.2.1, rd_below hA.2.2 h hr.2.2⟩

/-- How many have come ahead of the lists of one kind. -/
def cum (f : Fu) (j : Nat) : Nat := if j ≤ 1 then 0 else if j = 2 then f.ar.length else if j = 3 then f.ar.length + f.rs.length else f.ar.length + f.rs.length + f.lc.length
def kindsV (v : FV) : Array Value := #[.slice none 0 0, .slice v.A v.na v.ca, .slice v.B v.nb v.cb, .slice v.L v.nl v.cl]
theorem index_kind (v : FV) (j : Nat) (hj : j < 4) (w : World) : (Instr.index 180 (.agg (kindsV v)) (.int .i64 (j : Int))).run Tryz.prog w = .ok ((kindsV v).getD j undef) w := by
  have hs : (sizeOf 22).run Tryz.prog w = .ok 1 w := Tryz.sizeOf22 w
  unfold Instr.index kindsV
  obtain rfl | rfl | rfl | rfl : j = 0 ∨ j = 1 ∨ j = 2 ∨ j = 3 := by omega
  all_goals simp [run_underlying Tryz.underlying180, asIntOf, hs, part]
/-- A kind's list. -/
theorem kind_at (v : FV) (f : Fu) (j : Nat) (hj : j < 4) (h1 : f.ar.length = v.na) (h2 : f.rs.length = v.nb) (h3 : f.lc.length = v.nl) (hs : SmF v) : ∃ A n c l, (kindsV v).getD j undef = .slice A n c ∧ l.length = n ∧ n ≤ 100 ∧ cum f (j + 1) = cum f j + n ∧ (∀ W, Ls v f W → Rd W A (ivs l)) ∧
    ∀ r (h : r < l.length), ty f (cum f j + r) = l[r] ∧ wh f (cum f j + r) = (j : Int) := by
  obtain rfl | rfl | rfl | rfl : j = 0 ∨ j = 1 ∨ j = 2 ∨ j = 3 := by omega
  · exact ⟨_, _, _, [], rfl, rfl, by omega, rfl, fun W _ => Rd.none_ _ _, fun r h => absurd h (by simp)⟩
  · exact ⟨_, _, _, f.ar, rfl, h1, hs.na, by simp [cum, h1], fun W h => h.1, fun r h => by simpa [cum] using ty_ar h⟩
  · exact ⟨_, _, _, f.rs, rfl, h2, hs.nb, by simp [cum, h2], fun W h => h.2.1, fun r h => by simpa [cum] using ty_rs h⟩
  · exact ⟨_, _, _, f.lc, rfl, h3, hs.nl, by simp [cum, h3], fun W h => h.2.2, fun r h => by simpa [cum] using ty_lc h⟩
theorem cum_le (f : Fu) (j : Nat) : cum f j ≤ (sl f).length := by
  rw [sl_length]
  unfold cum
  split
  · omega
  · split
    · omega
    · split <;> omega
theorem cum_all (f : Fu) : cum f 4 = (sl f).length := by rw [sl_length]; rfl

set_option maxRecDepth 100000 in
set_option maxHeartbeats 4000000 in
theorem slots1_in (m l : Nat) (hm : 1 ≤ m) (bb : Nat) (v : FV) (f : Fu) (h1 : f.ar.length = v.na) (h2 : f.rs.length = v.nb) (h3 : f.lc.length = v.nl) (hs : SmF v) (J Jx : List Nat → World → Prop)
    (hY : ∀ pre x W, J pre W → pre.length < (sl f).length → YieldAt Fence.wide (m - 1) Tryz.prog l (slA f x) W fun e W' =>
      (e = .returned (.bool true) ∧ J (pre ++ [x]) W' ∧ LsK v f W W') ∨ (e = .returned (.bool false) ∧ Jx (pre ++ [x]) W'))
    (W : World) (hx : Blk W bb 180 (kindsV v)) (hr : Ls v f W) (h0 : J [] W) :
    CallsIn Fence.wide m Tryz.prog 134 #[.func (.yield l) #[] #[], .pointer (some ⟨bb, 0, none⟩)] W fun e W' => (∃ v, e = .returned v) ∧
      ((∃ ys : List Nat, ys = List.range (sl f).length ∧ J ys W') ∨ (∃ pre : List Nat, (∃ k, k ≤ (sl f).length ∧ pre = List.range k) ∧ Jx pre W')) := by
  have hn : (sl f).length ≤ 300 := by rw [sl_length]; have := hs.na; have := hs.nb; have := hs.nl; omega
  have HI := Lib.hid (fun j hj w => index_kind v j hj w)
  have HK := Lib.hid (fun j hj => kind_at v f j hj h1 h2 h3 hs)
  have cb0 : W.cell? ⟨bb, 0, none⟩ = some (.slice none 0 0) := hx.cell 0
  have cb1 : W.cell? ⟨bb, 1, none⟩ = some (.slice v.A v.na v.ca) := hx.cell 1
  have cb2 : W.cell? ⟨bb, 2, none⟩ = some (.slice v.B v.nb v.cb) := hx.cell 2
  have cb3 : W.cell? ⟨bb, 3, none⟩ = some (.slice v.L v.nl v.cl) := hx.cell 3
  have HR := Lib.hid hr
  clear hr hx h1 h2 h3
  refine callsIn_of_wp Tryz.func134 rfl trivial ?_ rfl
  simp only [Tryz.ntmps134, List.size_toArray, List.length_cons, List.length_nil, Nat.reduceAdd, Nat.reduceSub, Array.replicate_succ, Array.replicate_zero, List.push_toArray, List.append_toArray, List.nil_append, List.cons_append]
  gi_wp2
  gi_loopw [3, 9] (fun i p wr => ∃ j : Nat, j ≤ 4 ∧ p = .int .i64 (j : Int) ∧ i = .int .i64 (cum f j : Nat) ∧ J (List.range (cum f j)) wr ∧ Hid (Ls v f wr)) (fun _ p _ => 4 - (intOf p).toNat)
  case atStart => exact ⟨0, by omega, rfl, rfl, h0, HR.out⟩
  case round =>
    clear h0 HR cb0 cb1 cb2 cb3
    obtain ⟨j, hj, rfl, rfl, hJ, hL⟩ := hrel
    by_cases hlt : j < 4
    · obtain ⟨A, n, c, ls, hA, hln, hn1, hcu, hrd, hat⟩ := HK.out j hlt
      have hix := HI.out j hlt
      rw [hA] at hix
      unfold kindsV at hix
      have HCU := Lib.hid hcu
      have HRD := Lib.hid hrd
      have HAT := Lib.hid hat
      have HLN := Lib.hid hln
      have hcl := cum_le f (j + 1)
      rw [hcu] at hcl
      clear hA hat hrd hcu hln
      have hq4 : decide ((j : Int) < 4) = true := decide_eq_true (by omega)
      gi_wp2
      gi_loopw [3, 15] (fun i p wr => ∃ r : Nat, r ≤ n ∧ p = .int .i64 (r : Int) ∧ i = .int .i64 ((cum f j + r : Nat) : Int) ∧ J (List.range (cum f j + r)) wr ∧ Hid (Ls v f wr)) (fun _ p _ => n - (intOf p).toNat)
      case atStart => exact ⟨0, by omega, rfl, by simp, hJ, hL⟩
      case round =>
        clear hJ hL hix
        obtain ⟨r, hrn, rfl, rfl, hJ, hL⟩ := hrel
        by_cases hrl : r < n
        · have hrl2 : r < ls.length := by rw [HLN.out]; exact hrl
          obtain ⟨g, off, rfl, hc⟩ := rdI_at (HRD.out _ hL.out) (by omega)
          have cr := hc r hrl2
          have HY := Lib.hid (hY (List.range (cum f j + r)) (cum f j + r) _ hJ (by simp; omega))
          obtain ⟨e1, e2⟩ := HAT.out r hrl2
          dsimp only [slA] at HY
          rw [e1, e2] at HY
          have HE : Hid (List.range (cum f j + r) ++ [cum f j + r] = List.range (cum f j + (r + 1))) := by show _ = _; rw [← Nat.add_assoc, List.range_succ]
          clear hc e1 e2 hJ
          generalize ls[r] = t at cr HY
          obtain ⟨fn, tmps, assign, body, hy, hRun⟩ := HY.out
          clear HY
          generalize cum f j = q at *
          push_cast at hy
          gi_wp2
          refine hRun.mono ?_
          rintro e W3 (⟨rfl, hJ3, hk3⟩ | ⟨rfl, hJx3⟩)
          · have hL3 := hk3 hL.out
            rw [HE.out] at hJ3
            gi_wp2
            go_roundw
            case rel => exact ⟨r + 1, by omega, by go_num, by go_num, hJ3, hL3⟩
            case measure => simp [intOf]; omega
          · rw [HE.out] at hJx3
            gi_wp2
            refine bodyPost_ret (results_none rfl _ _ _) rfl ?_
            exact ⟨⟨_, rfl⟩, .inr ⟨_, ⟨_, by omega, rfl⟩, hJx3⟩⟩
        · obtain rfl : r = n := by omega
          gi_wp2
          go_roundw
          case rel => exact ⟨j + 1, by omega, by go_num, by rw [HCU.out], by rw [HCU.out]; exact hJ, hL⟩
          case measure => simp [intOf]; omega
    · obtain rfl : j = 4 := by omega
      gi_wp2
      go_end0
      exact ⟨⟨_, rfl⟩, .inl ⟨_, by rw [cum_all], hJ⟩⟩

theorem slots_stops (m : Nat) (hm : 1 ≤ m) (bb : Nat) (v : FV) (f : Fu) (h1 : f.ar.length = v.na) (h2 : f.rs.length = v.nb) (h3 : f.lc.length = v.nl) (hs : SmF v) (w : World) (hx : Blk w bb 180 (kindsV v)) (hr : Ls v f w) :
    SeqStopsK Fence.wide m Tryz.prog 134 #[.pointer (some ⟨bb, 0, none⟩)] (slA f) (LsK v f) (fun ys : List Nat => ys = List.range (sl f).length) (fun pre : List Nat => ∃ k, k ≤ (sl f).length ∧ pre = List.range k) (sl f).length w := fun l J Jx W hb _ _ hY h0 =>
  slots1_in m l hm bb v f h1 h2 h3 hs J Jx hY W (Blk.keep hx (Keep.of_below (O := NoB) hb) id) (hr.keepN (Keep.of_below (O := NoB) hb)) h0

set_option maxRecDepth 100000 in
theorem slots_any (m : Nat) (v : FV) (w : World) :
    CallsIn Fence.wide m Tryz.prog 83 #[v.val] w fun e w' => e = .returned (.func (.func 134) #[] #[.pointer (some ⟨w.heap.size + 1, 0, none⟩)]) ∧
      w' = (w.alloc (.cells v.cells 27)).alloc (.cells (kindsV v) 180) := by
  obtain ⟨S, A, na, ca, B, nb, cb, L, nl, cl, D, nd, cd⟩ := v
  dsimp only [FV.val, FV.cells, kindsV]
  refine callsIn_of_wp Tryz.func83 rfl trivial ?_ rfl
  simp only [Tryz.ntmps83, List.size_toArray, List.length_cons, List.length_nil, Nat.reduceAdd, Nat.reduceSub, Array.replicate_succ, Array.replicate_zero, List.push_toArray, List.append_toArray, List.nil_append, List.cons_append]
  gi_wp2
  go_ret
  exact ⟨rfl, rfl⟩

end Go.Proofs.YtbnekeomdhljhaaGreatDoor.F

namespace Go.Proofs.YtbnekeomdhljhaaGreatDoor.F
open Go.RowKit Go.Shelf W
attribute [local go_sem] Oper.semAt_some

theorem blk_own {β : Type} (B : Nat) (t : TypeId) (cs : Array Value) : Go.Own (fun (_ : β) W => Blk W B t cs) := by
  rintro s X Y row h hg hrow
  refine Blk.grown h hg fun e => ?_
  obtain ⟨o, ho, hc⟩ := hrow B e.symm
  unfold Blk at h
  rw [h] at ho; cases ho; cases hc
theorem keep_put {O : Nat → Prop} {w W : World} {D : Nat} {o : Obj} (h : Keep O w W) (hD : w.heap.size ≤ D) : Keep O w (W.putObj D o) := h.grown (grownBy_putObj' W D o) (fun g e hl => by cases e; omega)

/-- What the walk of types keeps. -/
def typI (f : Fu) (w : World) (bl : Nat) (pre : List Nat) (W : World) : Prop :=
  (∃ u, Boxed W bl 22 u ∧ W.ownsRow w.heap.size 3 1 u pre.length (ivs (pre.map (ty f))) ∧ True) ∧ Below w.heap.size w W
theorem typI_own (f : Fu) (w : World) (bl B : Nat) (hB : w.heap.size ≤ B) : OwnFrom B (typI f w bl) :=
  OwnFrom.and (Own.from (holdsRow_own w.heap.size bl 22 3 1 (fun pre : List Nat => pre.length) (fun pre : List Nat => ivs (pre.map (ty f))) (fun _ _ => True)) _) (ownFrom_below (Nat.le_refl _) hB)
theorem typ_step {f : Fu} {v : FV} {w W w1 : World} {bl x : Nat} {pre : List Nat} {u u' : Value} {tmp : Obj} (hA : LsB v f w.heap.size) (hv : Boxed W bl 22 u) (hrow : W.ownsRow w.heap.size 3 1 u pre.length (ivs (pre.map (ty f)))) (hB : Below w.heap.size w W)
    (hbb : w.heap.size ≤ bl) (hown' : w1.ownsRow w.heap.size 3 1 u' (pre.length + 1) (ivs (pre.map (ty f)) ++ [.int .i64 (ty f x)])) (hgrow : (W.alloc tmp).grownBy w1 u.ownBlock) :
    KeepsOthers W (w1.setCell ⟨bl, 0, none⟩ u') ∧ LsK v f W (w1.setCell ⟨bl, 0, none⟩ u') ∧ typI f w bl (pre ++ [x]) (w1.setCell ⟨bl, 0, none⟩ u') := by
  obtain ⟨hv1, hv2, hr2, hk2, hb2⟩ := hv.appended (by decide) hrow hB.size hbb hown' hgrow
  refine ⟨hk2, lsK_below hA hb2, ⟨u', hv2, ?_, trivial⟩, hB.trans hb2⟩
  simpa using hr2
/-- The frame when a slot has come. -/
def typA (v : FV) (f : Fu) (b : Nat) (x Bx : Nat) : Act := { tmps := #[v.val, .pointer (some ⟨b, 0, none⟩), .slice none 0 0, .pointer (some ⟨b + 1, 0, none⟩), undef, .pointer (some ⟨Bx, 0, none⟩), v.val, .func (.func 134) #[] #[.pointer (some ⟨b + 1 + 1 + 1, 0, none⟩)],
  .int .i64 (x : Int), .agg #[.int .i64 (wh f x), .int .i64 (ty f x)], undef, undef, undef, undef, undef, undef], defers := [] }

set_option maxRecDepth 100000 in
set_option maxHeartbeats 4000000 in
theorem types_any (v : FV) (f : Fu) (w : World) (h : FnAt w v f) (hs : SmF v) :
    Calls Tryz.prog 86 #[v.val] w fun e w' => ∃ u, e = .returned u ∧ Own w' 3 1 (Fresh w) u (sl f).length (ivs (sl f)) ∧ Keep NoB w w' := by
  obtain ⟨i0, hi, hz0, hz1, hz2⟩ := info_parts int_info
  have hl := Ls.of h
  have hA := Lib.hid hl.bound
  have hst := Lib.hid (fun m hm bb w hx hr => slots_stops m hm bb v f h.la h.lb h.ll hs w hx hr)
  have hn : (sl f).length ≤ 300 := by rw [sl_length, h.la, h.lb, h.ll]; have := hs.na; have := hs.nb; have := hs.nl; omega
  have hk1 := ((Keep.refl NoB w).alloc (.cells v.cells 27)).alloc (.cells #[.slice none 0 0] 22)
  have hk2 := (hk1.alloc (.cells v.cells 27)).alloc (.cells (kindsV v) 180)
  have HL := Lib.hid (hl.keepN hk2)
  have HSl := Lib.hid (fun m w => slots_any m v w)
  have HI0 : Hid (typI f w (w.heap.size + 1) [] ((((w.alloc (.cells v.cells 27)).alloc (.cells #[.slice none 0 0] 22)).alloc (.cells v.cells 27)).alloc (.cells (kindsV v) 180))) := by
    have bL := Boxed.new (w.alloc (.cells v.cells 27)) 22 (.slice none 0 0)
    rw [World.size_alloc] at bL
    exact ⟨⟨_, (bL.alloc _).alloc _, World.ownsRow_nil _ _ _ _, trivial⟩, hk2.toBelow⟩
  have HP := Lib.hid (Blk.new (((w.alloc (.cells v.cells 27)).alloc (.cells #[.slice none 0 0] 22)).alloc (.cells v.cells 27)) 180 (kindsV v))
  have HA := Lib.hid (show typA v f w.heap.size = typA v f w.heap.size from rfl)
  clear h hs hl hk1 hk2
  obtain ⟨S, A, na, ca, B, nb, cb, L, nl, cl, D, nd, cd⟩ := v
  unfold FV.val FV.cells at *
  refine (callsIn_wide (n := 4)).1 ?_
  refine callsIn_of_wp_marks Tryz.func86 rfl trivial ?_ rfl
  simp only [Tryz.ntmps86, List.size_toArray, List.length_cons, List.length_nil, Nat.reduceAdd, Nat.reduceSub, Array.replicate_succ, Array.replicate_zero, List.push_toArray, List.append_toArray, List.nil_append, List.cons_append]
  gi_wp2_with (refine ⟨trivial, ?_⟩; gi_at_call 83; refine (HSl.out _ _).mono ?_; rintro e w' ⟨rfl, rfl⟩)
  refine wpIn_rangeFunc_ownH rfl (by omega) (gf := 134) (lb := #[.pointer (some ⟨w.heap.size + 1 + 1 + 1, 0, none⟩)]) rfl trivial (enters_of Tryz.func134 (by kernel_rfl) rfl)
    (hst.out _ (by omega) (w.heap.size + 1 + 1 + 1) _ (by simpa using HP.out) HL.out) (fun h h' => LsK.trans h h') (fun W l o o' _ hl ho _ => LsK.putObj W l o o' hl ho) (Below.refl _ _) (fun _ => rfl)
    (typI f w (w.heap.size + 1)) (fun _ _ _ => False) (typI_own f w _ _ (by simp; omega)) (fun _ _ _ _ _ hf _ _ => hf) HI0.out
    (fun x a' W => ∃ Bx, Blk W Bx 126 #[.int .i64 (wh f x), .int .i64 (ty f x)] ∧ a' = typA ⟨S, A, na, ca, B, nb, cb, L, nl, cl, D, nd, cd⟩ f w.heap.size x Bx) ?hax ?assign ?body ?done ?stop
  case hax =>
    rintro x a' s X Y row ⟨Bx, h1, h2⟩ hg hrow
    exact ⟨Bx, blk_own (β := Unit) _ _ _ () _ _ _ h1 hg (fun r e => (hrow r e).2), h2⟩
  case assign =>
    intro l pre x W K hi hK
    have HI := Lib.hid (fun W' hk => typI_own f w (w.heap.size + 1) w.heap.size (Nat.le_refl _) pre W W' none hi (Keep.grows hk) (fun r e => by cases e))
    have HB := Lib.hid (Blk.new W 126 #[.int .i64 (wh f x), .int .i64 (ty f x)])
    gi_wp2
    exact hK _ _ (keepsFrom_keep ((Keep.refl NoB W).alloc _)) (fun h => h.keepN ((Keep.refl NoB W).alloc _)) (HI.out _ ((Keep.refl NoB W).alloc _)) ⟨_, HB.out, rfl⟩
  case body =>
    rintro l pre x a' W hl _ ⟨⟨u, hv, hrow, _⟩, hB⟩ ⟨Bx, hb, rfl⟩ hlt
    have HST := Lib.hid (fun u' w1' tmp hown' hgrow => typ_step (x := x) (u' := u') (w1 := w1') (tmp := tmp) hA.out hv hrow hB (Nat.le_succ _) hown' hgrow)
    have cv := hv.cell
    have cx : W.cell? ⟨Bx, 1, none⟩ = some (.int .i64 (ty f x)) := hb.cell 1
    obtain ⟨A0, c0, rfl⟩ := own_form hrow
    have hv2 := hv
    obtain ⟨xs, hxs⟩ : ∃ xs, ivs (pre.map (ty f)) = xs := ⟨_, rfl⟩
    have hxl : xs.length = pre.length := by rw [← hxs]; simp
    rw [hxs] at hrow HST
    have hBs := hB.size
    have hWs := hv.lt
    dsimp only [typA]
    clear hxs hv hb hB
    generalize ty f x = t at cx HST
    generalize wh f x = u at *
    gi_wp2_with (gi_at_builtin; refine wpListIn_append_own _ rfl _ _ 22 rfl w.heap.size 3 i0 (.int .i64 0) 1 8 Tryz.underlying22 hi hz0 hz1 hz2 rfl (by decide) _ _ _ rfl (hrow.alloc _) ⟨W.heap.size, 0, none⟩ 1 1 [.int .i64 t] rfl rfl (cell_one_new _ _ _) (by simp [Value.oneCell']) (by unfold maxLen; omega) (by omega) (by simp; omega) ?_; intro u' w2 hown' hgrow _; obtain ⟨g', cap', rfl⟩ := ownsRow_succ hown'; have hst := HST.out _ _ _ hown' hgrow; have hv3 := (hv2.alloc _).kept hgrow (hv2.not_row (by decide) hrow); have hc1 := hv3.cell; have hf1 := hv3.frozen)
    exact ⟨hst.1.from _, hst.2⟩
  case done =>
    rintro D ys W hD rfl ⟨⟨u, hv, hrow, _⟩, hB⟩ hDf
    have cv := hv.cell
    gi_wp2
    refine ⟨by simp, .inl ⟨_, _, rfl, run_takeDeferred hDf, ?_⟩⟩
    refine ⟨_, results_tmp rfl _ _ _, ?_⟩
    rw [ty_range, List.length_range] at hrow
    exact ⟨u, rfl, Own.of_row (ownsRow_putObj hrow _ hDf rfl) (fun j hj => hj), keep_put (Keep.of_below hB) (by simp at hD; omega)⟩
  case stop =>
    rintro D c pre W _ _ hf _
    exact hf.elim

set_option maxRecDepth 100000 in
set_option maxHeartbeats 2000000 in
theorem slotsF_any (v : FV) (f : Fu) (w : World) (h : FnAt w v f) (hs : SmF v) :
    Calls Tryz.prog 31 #[v.val] w fun e w' => ∃ u, e = .returned u ∧ Own w' 3 1 (Fresh w) u (slF f).length (ivs (slF f)) ∧ Keep NoB w w' := by
  have bx := Blk.new w 27 v.cells
  have k0 := (Keep.refl NoB w).alloc (.cells v.cells 27)
  have HF := Lib.hid (h.keepN k0)
  cases ho : okF f
  · have HC := Lib.hid (check_any v f _ HF.out hs 70 (chkF_no ho))
    rw [slF_no ho]
    have HX := Lib.hid bx
    obtain ⟨S, A, na, ca, B, nb, cb, L, nl, cl, D, nd, cd⟩ := v
    unfold FV.val FV.cells at *
    clear bx h hs ho
    go_enter Tryz.func31, Tryz.ntmps31
    go_wp2_with fail
    refine HC.out.mono ?_
    rintro e w1 ⟨rfl, k1⟩
    go_wp2
    go_ret
    exact ⟨_, rfl, Own.nil _ _ _ _, keepN k0 k1⟩
  · have HC := Lib.hid (check_any v f _ HF.out hs 0 (chkF_ok ho))
    have HT := Lib.hid (fun w1 hk => types_any v f w1 (HF.out.keepN hk) hs)
    rw [slF_ok ho]
    have HX := Lib.hid bx
    obtain ⟨S, A, na, ca, B, nb, cb, L, nl, cl, D, nd, cd⟩ := v
    unfold FV.val FV.cells at *
    clear bx h hs ho
    go_enter Tryz.func31, Tryz.ntmps31
    go_wp2_with fail
    refine HC.out.mono ?_
    rintro e w1 ⟨rfl, k1⟩
    have hx1 := HX.out.keep k1 id
    obtain ⟨c0, c1, c2, c3, c4⟩ := blk5 (v := ⟨S, A, na, ca, B, nb, cb, L, nl, cl, D, nd, cd⟩) hx1
    clear hx1
    go_wp2_with fail
    refine (HT.out _ k1).mono ?_
    rintro e w2 ⟨u, rfl, hO, k2⟩
    have HO := Lib.hid (hO.mono (O' := Fresh w) (fun k hf _ => Nat.le_trans (keepN k0 k1).size hf))
    clear hO
    go_wp2
    go_ret
    exact ⟨_, rfl, HO.out, keepN (keepN k0 k1) k2⟩

end Go.Proofs.YtbnekeomdhljhaaGreatDoor.F

namespace Go.Proofs.YtbnekeomdhljhaaGreatDoor.F
open Go.RowKit Go.Shelf W
attribute [local go_sem] Oper.semAt_some

/-- The three results lie in cells. -/
def RsC (W : World) (b : Nat) (x y z : Int) : Prop := Blk W b 3 #[.int .i64 x] ∧ Blk W (b + 1) 3 #[.int .i64 y] ∧ Blk W (b + 1 + 1) 32 #[.int .i64 z]
theorem RsC.keep {W W' : World} {b : Nat} {x y z : Int} (h : RsC W b x y z) (hk : Keep NoB W W') : RsC W' b x y z := ⟨h.1.keep hk id, h.2.1.keep hk id, h.2.2.keep hk id⟩
theorem RsC.grown {W W' : World} {row : Option Nat} {b : Nat} {x y z : Int} (h : RsC W b x y z) (hb : W.grownBy W' row) (h0 : some b ≠ row) (h1 : some (b + 1) ≠ row) (h2 : some (b + 1 + 1) ≠ row) : RsC W' b x y z := ⟨h.1.grown hb h0, h.2.1.grown hb h1, h.2.2.grown hb h2⟩
theorem RsC.cells {W : World} {b : Nat} {x y z : Int} (h : RsC W b x y z) : W.cell? ⟨b, 0, none⟩ = some (.int .i64 x) ∧ W.cell? ⟨b + 1, 0, none⟩ = some (.int .i64 y) ∧ W.cell? ⟨b + 1 + 1, 0, none⟩ = some (.int .i64 z) := ⟨h.1.cell 0, h.2.1.cell 0, h.2.2.cell 0⟩
theorem ret3 {tmps : Array Value} {W : World} {b : Nat} {x y z : Int} (h : RsC W b x y z) (h4 : tmps.getD 4 undef = .pointer (some ⟨b, 0, none⟩)) (h5 : tmps.getD 5 undef = .pointer (some ⟨b + 1, 0, none⟩)) (h6 : tmps.getD 6 undef = .pointer (some ⟨b + 1 + 1, 0, none⟩)) :
    (results Tryz.f24 tmps).run Tryz.prog W = .ok (.tuple #[.int .i64 x, .int .i64 y, .int .i64 z]) W := by
  obtain ⟨c0, c1, c2⟩ := h.cells
  simp only [Array.getD_eq_getD_getElem?] at h4 h5 h6
  simp [results, Tryz.results24, go_sem, h4, h5, h6, c0, c1, c2]

theorem RsC.put {W : World} {b : Nat} {x y z : Int} (h : RsC W b x y z) (x' y' z' : Int) :
    RsC (((W.setCell ⟨b, 0, none⟩ (.int .i64 x')).setCell ⟨b + 1, 0, none⟩ (.int .i64 y')).setCell ⟨b + 1 + 1, 0, none⟩ (.int .i64 z')) b x' y' z' :=
  ⟨((h.1.put 0 _).far (p := ⟨b + 1, 0, none⟩) (show b ≠ b + 1 by omega) _).far (p := ⟨b + 1 + 1, 0, none⟩) (show b ≠ b + 1 + 1 by omega) _,
    ((h.2.1.far (p := ⟨b, 0, none⟩) (show b + 1 ≠ b by omega) _).put 0 _).far (p := ⟨b + 1 + 1, 0, none⟩) (show b + 1 ≠ b + 1 + 1 by omega) _,
    ((h.2.2.far (p := ⟨b, 0, none⟩) (show b + 1 + 1 ≠ b by omega) _).far (p := ⟨b + 1, 0, none⟩) (show b + 1 + 1 ≠ b + 1 by omega) _).put 0 _⟩
theorem keep_put3 {w W : World} {b : Nat} (h : Keep NoB w W) (hb : w.heap.size ≤ b) (x y z : Value) : Keep NoB w (((W.setCell ⟨b, 0, none⟩ x).setCell ⟨b + 1, 0, none⟩ y).setCell ⟨b + 1 + 1, 0, none⟩ z) :=
  ((h.setCell (fun h => absurd h (by simp; omega)) x).setCell (fun h => absurd h (by simp; omega)) y).setCell (fun h => absurd h (by simp; omega)) z
/-- What the walk keeps; and what it leaves behind. -/
def sltI (w : World) (b : Nat) (i : Int) (pre : List Nat) (W : World) : Prop := (RsC W b 0 0 0 ∧ Blk W (w.heap.size + 1) 3 #[.int .i64 i]) ∧ Keep NoB w W ∧ ∀ y ∈ pre, (y : Int) ≠ i
def sltX (f : Fu) (w : World) (b : Nat) (i : Int) (c : Code) (pre : List Nat) (W : World) : Prop := c = .ret ∧ ∃ (x : Nat) (q : List Nat), (x : Int) = i ∧ pre = q ++ [x] ∧ RsC W b (wh f x) (ty f x) 0 ∧ Keep NoB w W
theorem blk_ofrom {β : Type} (B g : Nat) (t : TypeId) (cs : Array Value) : OwnFrom B (fun (_ : β) W => Blk W g t cs) := Own.from (blk_own (β := β) g t cs) _
theorem rsc_own {β : Type} (B b : Nat) (x y z : Int) : OwnFrom B (fun (_ : β) W => RsC W b x y z) := OwnFrom.and (blk_ofrom _ _ _ _) (OwnFrom.and (blk_ofrom _ _ _ _) (blk_ofrom _ _ _ _))
theorem sltI_own (w : World) (b B : Nat) (i : Int) (hB : w.heap.size ≤ B) : OwnFrom B (sltI w b i) := by
  rintro s X Y row ⟨⟨h1, h2⟩, h3, h4⟩ hg hr
  exact ⟨⟨rsc_own (β := Unit) B b 0 0 0 () X Y row h1 hg hr, blk_ofrom (β := Unit) B _ _ _ () X Y row h2 hg hr⟩, h3.grown hg (fun g e hl => by have := (hr g e).1; omega), h4⟩
theorem sltX_own (f : Fu) (w : World) (b B : Nat) (i : Int) (c : Code) (hB : w.heap.size ≤ B) : OwnFrom B (sltX f w b i c) := by
  rintro s X Y row ⟨h1, x, q, h2, h3, h4, h5⟩ hg hr
  exact ⟨h1, x, q, h2, h3, rsc_own (β := Unit) B b _ _ _ () X Y row h4 hg hr, h5.grown hg (fun g e hl => by have := (hr g e).1; omega)⟩
/-- The frame when a slot has come. -/
def sltA (v : FV) (b bw : Nat) (i a t : Int) (x Bx : Nat) : Act := { tmps := #[v.val, .int .i64 i, .pointer (some ⟨b, 0, none⟩), .pointer (some ⟨b + 1, 0, none⟩), .pointer (some ⟨b + 1 + 1, 0, none⟩), .pointer (some ⟨b + 1 + 1 + 1, 0, none⟩), .pointer (some ⟨b + 1 + 1 + 1 + 1, 0, none⟩), .int .i64 (x : Int), .pointer (some ⟨Bx, 0, none⟩), v.val, .int .i64 0, .bool false, v.val,
  .func (.func 134) #[] #[.pointer (some ⟨bw + 1, 0, none⟩)], .int .i64 (x : Int), .agg #[.int .i64 a, .int .i64 t], undef, undef, undef, undef, undef, undef, undef], defers := [] }
theorem slot_miss {f : Fu} {i : Int} (h : ∀ y ∈ List.range (sl f).length, (y : Int) ≠ i) : ¬ (okF f = true ∧ 0 ≤ i ∧ i < (sl f).length) := by
  rintro ⟨_, h0, h1⟩
  exact h i.toNat (List.mem_range.2 (by omega)) (by omega)
theorem slot_hit {f : Fu} {i : Int} {k x : Nat} {pre q : List Nat} (ho : okF f = true) (hk : k ≤ (sl f).length) (hp : pre = List.range k) (hq : pre = q ++ [x]) (hx : (x : Int) = i) : slW f i = wh f x ∧ slT f i = ty f x ∧ slE f i = 0 := by
  have hm : x ∈ List.range k := by rw [← hp, hq]; simp
  have := List.mem_range.1 hm
  subst hx
  exact slot_yes ho (by omega)

set_option maxRecDepth 100000 in
set_option maxHeartbeats 8000000 in
theorem slot_any (v : FV) (f : Fu) (i : Int) (w : World) (h : FnAt w v f) (hs : SmF v) (A0 T0 E0 : Int) (hR : Hid (slW f i = A0 ∧ slT f i = T0 ∧ slE f i = E0)) :
    Calls Tryz.prog 24 #[v.val, .int .i64 i] w fun e w' => e = .returned (.tuple #[.int .i64 A0, .int .i64 T0, .int .i64 E0]) ∧ Keep NoB w w' := by
  have bx := Blk.new w 27 v.cells
  have k0 := ((((Keep.refl NoB w).alloc (.cells v.cells 27)).alloc (.cells #[.int .i64 i] 3)).alloc (.cells #[.int .i64 0] 3)).alloc (.cells #[.int .i64 0] 3) |>.alloc (.cells #[.int .i64 0] 32)
  have HF := Lib.hid (h.keepN k0)
  have HX := Lib.hid ((((bx.alloc (.cells #[.int .i64 i] 3)).alloc (.cells #[.int .i64 0] 3)).alloc (.cells #[.int .i64 0] 3)).alloc (.cells #[.int .i64 0] 32))
  have HRC : Hid (RsC (((((w.alloc (.cells v.cells 27)).alloc (.cells #[.int .i64 i] 3)).alloc (.cells #[.int .i64 0] 3)).alloc (.cells #[.int .i64 0] 3)).alloc (.cells #[.int .i64 0] 32)) (w.heap.size + 1 + 1) 0 0 0 ∧
      Blk (((((w.alloc (.cells v.cells 27)).alloc (.cells #[.int .i64 i] 3)).alloc (.cells #[.int .i64 0] 3)).alloc (.cells #[.int .i64 0] 3)).alloc (.cells #[.int .i64 0] 32)) (w.heap.size + 1) 3 #[.int .i64 i]) := by
    have b1 := ((Blk.new (w.alloc (.cells v.cells 27)) 3 #[.int .i64 i]).alloc (.cells #[.int .i64 0] 3)).alloc (.cells #[.int .i64 0] 3) |>.alloc (.cells #[.int .i64 0] 32)
    have b2 := ((Blk.new ((w.alloc (.cells v.cells 27)).alloc (.cells #[.int .i64 i] 3)) 3 #[.int .i64 0]).alloc (.cells #[.int .i64 0] 3)).alloc (.cells #[.int .i64 0] 32)
    have b3 := (Blk.new (((w.alloc (.cells v.cells 27)).alloc (.cells #[.int .i64 i] 3)).alloc (.cells #[.int .i64 0] 3)) 3 #[.int .i64 0]).alloc (.cells #[.int .i64 0] 32)
    have b4 := Blk.new ((((w.alloc (.cells v.cells 27)).alloc (.cells #[.int .i64 i] 3)).alloc (.cells #[.int .i64 0] 3)).alloc (.cells #[.int .i64 0] 3)) 32 #[.int .i64 0]
    simp only [World.size_alloc] at b1 b2 b3 b4
    exact ⟨⟨b2, b3, b4⟩, b1⟩
  have K0 := Lib.hid k0
  cases ho : okF f
  · have HC := Lib.hid (check_any v f _ HF.out hs 70 (chkF_no ho))
    obtain ⟨e1, e2, e3⟩ := slot_no (f := f) (i := i) (by rw [ho]; simp)
    obtain ⟨rfl, rfl, rfl⟩ : 0 = A0 ∧ 0 = T0 ∧ 72 = E0 := ⟨e1.symm.trans hR.out.1, e2.symm.trans hR.out.2.1, e3.symm.trans hR.out.2.2⟩
    obtain ⟨S, A, na, ca, B, nb, cb, L, nl, cl, D, nd, cd⟩ := v
    unfold FV.val FV.cells at *
    obtain ⟨c0, c1, c2, c3, c4⟩ := blk5 (v := ⟨S, A, na, ca, B, nb, cb, L, nl, cl, D, nd, cd⟩) HX.out
    dsimp only at c0 c1 c2 c3 c4
    clear bx h hs ho hR e1 e2 e3 k0 HF
    refine (callsIn_wide (n := 4)).1 ?_
    refine callsIn_of_wp_marks Tryz.func24 rfl trivial ?_ rfl
    simp only [Tryz.ntmps24, List.size_toArray, List.length_cons, List.length_nil, Nat.reduceAdd, Nat.reduceSub, Array.replicate_succ, Array.replicate_zero, List.push_toArray, List.append_toArray, List.nil_append, List.cons_append]
    gi_wp2_with fail
    gi_wp2_with (refine ⟨trivial, ?_⟩; gi_at_call 18; refine (callsIn_wide.2 HC.out).mono ?_; rintro e w1 ⟨rfl, k1⟩; have hr1 := HRC.out.1.keep k1; have fa := hr1.1.frozen 0; have fb := hr1.2.1.frozen 0; have fc := hr1.2.2.frozen 0; obtain ⟨r0, r1, r2⟩ := hr1.cells)
    exact ⟨_, ret3 (hr1.put 0 0 72) rfl rfl rfl, rfl, keep_put3 (keepN K0.out k1) (by omega) _ _ _⟩
  · have HC := Lib.hid (check_any v f _ HF.out hs 0 (chkF_ok ho))
    have hst := Lib.hid (fun m hm bb w hx hr => slots_stops m hm bb v f h.la h.lb h.ll hs w hx hr)
    have HSl := Lib.hid (fun m w => slots_any m v w)
    have HMI := Lib.hid (fun hm => slot_no (slot_miss (f := f) (i := i) hm))
    have HHI := Lib.hid (fun k x pre q hk hp hq hx => slot_hit (f := f) (i := i) (k := k) (x := x) (pre := pre) (q := q) ho hk hp hq hx)
    have HV : Hid (∀ w1, Keep NoB (((((w.alloc (.cells v.cells 27)).alloc (.cells #[.int .i64 i] 3)).alloc (.cells #[.int .i64 0] 3)).alloc (.cells #[.int .i64 0] 3)).alloc (.cells #[.int .i64 0] 32)) w1 →
        sltI w (w.heap.size + 1 + 1) i [] ((w1.alloc (.cells v.cells 27)).alloc (.cells (kindsV v) 180)) ∧
        Ls v f ((w1.alloc (.cells v.cells 27)).alloc (.cells (kindsV v) 180)) ∧
        Blk ((w1.alloc (.cells v.cells 27)).alloc (.cells (kindsV v) 180)) (w1.heap.size + 1) 180 (kindsV v)) := fun w1 hk => by
      have hl := Ls.of (HF.out.keepN hk)
      have hk3 := ((Keep.refl NoB w1).alloc (.cells v.cells 27)).alloc (.cells (kindsV v) 180)
      have bk := Blk.new (w1.alloc (.cells v.cells 27)) 180 (kindsV v)
      have hk4 := keepN hk hk3
      refine ⟨⟨⟨HRC.out.1.keep hk4, HRC.out.2.keep hk4 id⟩, keepN K0.out hk4, fun y hy => absurd hy (by simp)⟩, hl.keepN hk3, ?_⟩
      simpa using bk
    obtain ⟨S, A, na, ca, B, nb, cb, L, nl, cl, D, nd, cd⟩ := v
    unfold FV.val FV.cells at *
    obtain ⟨c0, c1, c2, c3, c4⟩ := blk5 (v := ⟨S, A, na, ca, B, nb, cb, L, nl, cl, D, nd, cd⟩) HX.out
    dsimp only at c0 c1 c2 c3 c4
    clear bx h hs ho k0 HF
    refine (callsIn_wide (n := 4)).1 ?_
    refine callsIn_of_wp_marks Tryz.func24 rfl trivial ?_ rfl
    simp only [Tryz.ntmps24, List.size_toArray, List.length_cons, List.length_nil, Nat.reduceAdd, Nat.reduceSub, Array.replicate_succ, Array.replicate_zero, List.push_toArray, List.append_toArray, List.nil_append, List.cons_append]
    gi_wp2_with fail
    gi_wp2_with (refine ⟨trivial, ?_⟩; gi_at_call 18; refine (callsIn_wide.2 HC.out).mono ?_; rintro e w1 ⟨rfl, k1⟩; have hx1 := HX.out.keep k1 id; obtain ⟨c0, c1, c2, c3, c4⟩ := blk5 (v := ⟨S, A, na, ca, B, nb, cb, L, nl, cl, D, nd, cd⟩) hx1; dsimp only at c0 c1 c2 c3 c4; obtain ⟨hI0, hL0, hP0⟩ := HV.out _ k1; have HI0 := Lib.hid hI0; have HL0 := Lib.hid hL0; have HP0 := Lib.hid hP0; have hKw := keepN K0.out k1; clear hx1 hI0 hL0 hP0 HV HC)
    gi_wp2_with (refine ⟨trivial, ?_⟩; gi_at_call 83; refine (HSl.out _ _).mono ?_; rintro e w' ⟨rfl, rfl⟩)
    have hw1 := K0.out.size
    have hw2 := hKw.size
    simp only [World.size_alloc] at hw1
    have hw3 := k1.size
    simp only [World.size_alloc] at hw3
    refine wpIn_rangeFunc_ownH rfl (by omega) (gf := 134) (lb := #[.pointer (some ⟨w1.heap.size + 1, 0, none⟩)]) rfl trivial (enters_of Tryz.func134 (by kernel_rfl) rfl)
      (hst.out _ (by omega) (w1.heap.size + 1) _ HP0.out HL0.out) (fun h h' => LsK.trans h h') (fun W l o o' _ hl ho _ => LsK.putObj W l o o' hl ho) (Below.refl _ _) (fun _ => rfl)
      (sltI w (w.heap.size + 1 + 1) i) (sltX f w (w.heap.size + 1 + 1) i) (sltI_own w _ _ i (by simp; omega)) (fun c => sltX_own f w _ _ i c (by simp; omega)) HI0.out
      (fun x a' W => ∃ Bx, Blk W Bx 126 #[.int .i64 (wh f x), .int .i64 (ty f x)] ∧ a' = sltA ⟨S, A, na, ca, B, nb, cb, L, nl, cl, D, nd, cd⟩ w.heap.size w1.heap.size i (wh f x) (ty f x) x Bx) ?hax ?assign ?body ?done ?stop
    case hax =>
      rintro x a' s X Y row ⟨Bx, h1, h2⟩ hg hrow
      exact ⟨Bx, blk_own (β := Unit) _ _ _ () _ _ _ h1 hg (fun r e => (hrow r e).2), h2⟩
    case assign =>
      intro l pre x W K hi hK
      have HI := Lib.hid (fun W' hk => sltI_own w (w.heap.size + 1 + 1) w.heap.size i (Nat.le_refl _) pre W W' none hi (Keep.grows hk) (fun r e => by cases e))
      have HB := Lib.hid (Blk.new W 126 #[.int .i64 (wh f x), .int .i64 (ty f x)])
      gi_wp2
      exact hK _ _ (keepsFrom_keep ((Keep.refl NoB W).alloc _)) (fun h => h.keepN ((Keep.refl NoB W).alloc _)) (HI.out _ ((Keep.refl NoB W).alloc _)) ⟨_, HB.out, rfl⟩
    case body =>
      rintro l pre x a' W hl _ ⟨⟨hrs, hbi⟩, hKW, hne⟩ ⟨Bx, hb, rfl⟩ hlt
      have ci : W.cell? ⟨w.heap.size + 1, 0, none⟩ = some (.int .i64 i) := hbi.cell 0
      have cx0 : W.cell? ⟨Bx, 0, none⟩ = some (.int .i64 (wh f x)) := hb.cell 0
      have cx1 : W.cell? ⟨Bx, 1, none⟩ = some (.int .i64 (ty f x)) := hb.cell 1
      have fa := hrs.1.frozen 0
      have fb := hrs.2.1.frozen 0
      have fc := hrs.2.2.frozen 0
      obtain ⟨r0, r1, r2⟩ := hrs.cells
      have hbb : ∀ u, (W.setCell ⟨w.heap.size + 1 + 1, 0, none⟩ u).cell? ⟨Bx, 1, none⟩ = some (.int .i64 (ty f x)) := fun u => (hb.far (p := ⟨w.heap.size + 1 + 1, 0, none⟩) (Blk.ne hb hrs.1 (by decide)) u).cell 1
      by_cases hxi : (x : Int) = i
      · have HXX : Hid (sltX f w (w.heap.size + 1 + 1) i .ret (pre ++ [x]) (((W.drew.setCell ⟨w.heap.size + 1 + 1, 0, none⟩ (.int .i64 (wh f x))).setCell ⟨w.heap.size + 1 + 1 + 1, 0, none⟩ (.int .i64 (ty f x))).setCell ⟨w.heap.size + 1 + 1 + 1 + 1, 0, none⟩ (.int .i64 0))) :=
          ⟨rfl, x, pre, hxi, rfl, RsC.put (W := W.drew) hrs _ _ _, keep_put3 hKW.drew (by omega) _ _ _⟩
        have hq : ((x : Int) == i) = true := by rw [beq_iff_eq]; exact hxi
        clear hxi hrs hbi hKW hne
        generalize ty f x = t at *
        generalize wh f x = a at *
        have hmix : Tryz.prog.follows .mixedOrders = true := by kernel_rfl
        dsimp only [sltA]
        gi_wp2
        gi_region
        all_goals gi_wp2
        all_goals
          refine ⟨⟨?_, ?_⟩, HXX.out⟩
          · simp
          · intro k o hk1 hk2 hk3
            simp only [World.size_alloc] at hk1
            exact (((Below.heap_setCell _ _ _ _ (by show k ≠ w.heap.size + 1 + 1 + 1 + 1; omega)).trans (Below.heap_setCell _ _ _ _ (by show k ≠ w.heap.size + 1 + 1 + 1; omega))).trans (Below.heap_setCell _ _ _ _ (by show k ≠ w.heap.size + 1 + 1; omega))).trans hk2
      · have HXX : Hid (sltI w (w.heap.size + 1 + 1) i (pre ++ [x]) W) := ⟨⟨hrs, hbi⟩, hKW, fun y hy => by
          rcases List.mem_append.1 hy with h | h
          · exact hne y h
          · rw [List.mem_singleton.1 h]; exact hxi⟩
        have hq : ((x : Int) == i) = false := by rw [beq_eq_false_iff_ne]; exact hxi
        clear hxi hrs hbi hKW hne
        generalize ty f x = t at *
        generalize wh f x = a at *
        dsimp only [sltA]
        gi_wp2
        exact ⟨KeepsFrom.refl _ _, id, HXX.out⟩
    case done =>
      rintro D ys W hD rfl ⟨⟨hrs, hbi⟩, hKW, hne⟩ hDf
      obtain ⟨e1, e2, e3⟩ := HMI.out hne
      obtain ⟨rfl, rfl, rfl⟩ : 0 = A0 ∧ 0 = T0 ∧ 72 = E0 := ⟨e1.symm.trans hR.out.1, e2.symm.trans hR.out.2.1, e3.symm.trans hR.out.2.2⟩
      have fa := hrs.1.frozen 0
      have fb := hrs.2.1.frozen 0
      have fc := hrs.2.2.frozen 0
      obtain ⟨r0, r1, r2⟩ := hrs.cells
      have HD : Hid ((((W.setCell ⟨w.heap.size + 1 + 1, 0, none⟩ (.int .i64 0)).setCell ⟨w.heap.size + 1 + 1 + 1, 0, none⟩ (.int .i64 0)).setCell ⟨w.heap.size + 1 + 1 + 1 + 1, 0, none⟩ (.int .i64 72)).heap[D]? = some (.deferred (some []))) := by
        simp only [World.size_alloc] at hD
        exact (((Below.heap_setCell _ _ _ _ (by show D ≠ w.heap.size + 1 + 1 + 1 + 1; omega)).trans (Below.heap_setCell _ _ _ _ (by show D ≠ w.heap.size + 1 + 1 + 1; omega))).trans (Below.heap_setCell _ _ _ _ (by show D ≠ w.heap.size + 1 + 1; omega))).trans hDf
      clear hR e1 e2 e3 hne
      gi_wp2
      refine ⟨by simp, .inl ⟨_, _, rfl, run_takeDeferred HD.out, ?_⟩⟩
      simp only [World.size_alloc] at hD
      exact ⟨_, ret3 ((hrs.put 0 0 72).grown (grownBy_putObj' _ D _) (by simp; omega) (by simp; omega) (by simp; omega)) rfl rfl rfl, rfl, keep_put (keep_put3 hKW (by omega) _ _ _) (by omega)⟩
    case stop =>
      rintro D c pre W hD ⟨k, hk, hp⟩ ⟨rfl, x, q, hx, hq, hrs, hKW⟩ hDf
      obtain ⟨e1, e2, e3⟩ := HHI.out k x pre q hk hp hq hx
      obtain ⟨rfl, rfl, rfl⟩ : wh f x = A0 ∧ ty f x = T0 ∧ 0 = E0 := ⟨e1.symm.trans hR.out.1, e2.symm.trans hR.out.2.1, e3.symm.trans hR.out.2.2⟩
      gi_wp2
      refine ⟨by simp, .inl ⟨_, _, rfl, run_takeDeferred hDf, ?_⟩⟩
      simp only [World.size_alloc] at hD
      exact ⟨_, ret3 (hrs.grown (grownBy_putObj' _ D _) (by simp; omega) (by simp; omega) (by simp; omega)) rfl rfl rfl, rfl, keep_put hKW (by omega)⟩

end Go.Proofs.YtbnekeomdhljhaaGreatDoor.F

namespace Go.Proofs.YtbnekeomdhljhaaGreatDoor.F
open Go.RowKit Go.Shelf W
attribute [local go_sem] Oper.semAt_some

/-- Is a slot an argument, or a local, of type P? Those among the slots that have come. -/
def pB (f : Fu) (i : Nat) : Bool := (wh f i == 1 && ty f i == 4) || (wh f i == 3 && ty f i == 4)
def pL (f : Fu) (pre : List Nat) : List Int := (pre.filter (pB f)).map fun i : Nat => (i : Int)
theorem pL_yes {f : Fu} {pre : List Nat} {x : Nat} (h : pB f x = true) : ivs (pL f (pre ++ [x])) = ivs (pL f pre) ++ [.int .i64 (x : Int)] := by unfold pL; rw [List.filter_append]; simp [h]
theorem pL_no {f : Fu} {pre : List Nat} {x : Nat} (h : pB f x = false) : pL f (pre ++ [x]) = pL f pre := by unfold pL; rw [List.filter_append]; simp [h]
theorem pL_len (f : Fu) (pre : List Nat) : (pL f pre).length ≤ pre.length := by unfold pL; rw [List.length_map]; exact List.length_filter_le _ _
/-- The numbers of its slots of type P. -/
def ptZ (f : Fu) : List Int := (ptrF f).map fun i : Nat => (i : Int)
theorem pL_all {f : Fu} (h : okF f = true) : pL f (List.range (sl f).length) = ptZ f := by
  unfold ptZ pL
  rw [ptrF_ok h]
  congr 1
  unfold ptr
  apply List.filter_congr
  intro i hi
  exact (ptr_held h (List.mem_range.1 hi)).symm

/-- What the walk keeps. -/
def ptI (f : Fu) (w0 : World) (bl : Nat) (pre : List Nat) (W : World) : Prop :=
  (∃ u, Boxed W bl 22 u ∧ W.ownsRow w0.heap.size 3 1 u (pL f pre).length (ivs (pL f pre)) ∧ True) ∧ Below w0.heap.size w0 W
theorem ptI_own (f : Fu) (w0 : World) (bl B : Nat) (hB : w0.heap.size ≤ B) : OwnFrom B (ptI f w0 bl) :=
  OwnFrom.and (Own.from (holdsRow_own w0.heap.size bl 22 3 1 (fun pre : List Nat => (pL f pre).length) (fun pre : List Nat => ivs (pL f pre)) (fun _ _ => True)) _) (ownFrom_below (Nat.le_refl _) hB)
theorem pt_step {f : Fu} {v : FV} {w0 W w1 : World} {bl x : Nat} {pre : List Nat} {u u' : Value} {tmp : Obj} (hA : LsB v f w0.heap.size) (hv : Boxed W bl 22 u) (hrow : W.ownsRow w0.heap.size 3 1 u (pL f pre).length (ivs (pL f pre))) (hB : Below w0.heap.size w0 W)
    (hbb : w0.heap.size ≤ bl) (hp : pB f x = true) (hown' : w1.ownsRow w0.heap.size 3 1 u' ((pL f pre).length + 1) (ivs (pL f pre) ++ [.int .i64 (x : Int)])) (hgrow : (W.alloc tmp).grownBy w1 u.ownBlock) :
    KeepsOthers W (w1.setCell ⟨bl, 0, none⟩ u') ∧ LsK v f W (w1.setCell ⟨bl, 0, none⟩ u') ∧ ptI f w0 bl (pre ++ [x]) (w1.setCell ⟨bl, 0, none⟩ u') := by
  obtain ⟨hv1, hv2, hr2, hk2, hb2⟩ := hv.appended (by decide) hrow hB.size hbb hown' hgrow
  refine ⟨hk2, lsK_below hA hb2, ⟨u', hv2, ?_, trivial⟩, hB.trans hb2⟩
  rw [pL_yes hp]
  have e : (pL f (pre ++ [x])).length = (pL f pre).length + 1 := by have := congrArg List.length (pL_yes (pre := pre) hp); simpa using this
  rw [e]; exact hr2
/-- The frame when a slot has come. -/
def ptA (v : FV) (b bl : Nat) (a t : Int) (x Bx : Nat) : Act := { tmps := #[v.val, .pointer (some ⟨b, 0, none⟩), .slice none 0 0, .pointer (some ⟨bl, 0, none⟩), .int .i64 (x : Int), .pointer (some ⟨Bx, 0, none⟩), v.val, .int .i64 0, .bool false, v.val,
  .func (.func 134) #[] #[.pointer (some ⟨bl + 1 + 1, 0, none⟩)], .int .i64 (x : Int), .agg #[.int .i64 a, .int .i64 t], undef, undef, undef, undef, undef, undef, undef, undef, undef, undef, undef, undef, undef], defers := [] }

set_option maxRecDepth 100000 in
set_option maxHeartbeats 8000000 in
theorem pointers_any (v : FV) (f : Fu) (w : World) (h : FnAt w v f) (hs : SmF v) :
    Calls Tryz.prog 33 #[v.val] w fun e w' => ∃ u, e = .returned u ∧ Own w' 3 1 (Fresh w) u (ptZ f).length (ivs (ptZ f)) ∧ Keep NoB w w' := by
  have bx := Blk.new w 27 v.cells
  have k0 := (Keep.refl NoB w).alloc (.cells v.cells 27)
  have HF := Lib.hid (h.keepN k0)
  have HX := Lib.hid bx
  cases ho : okF f
  · have HC := Lib.hid (check_any v f _ HF.out hs 70 (chkF_no ho))
    have hp : ptZ f = [] := by unfold ptZ; rw [ptrF_no ho]; rfl
    rw [hp]
    obtain ⟨S, A, na, ca, B, nb, cb, L, nl, cl, D, nd, cd⟩ := v
    unfold FV.val FV.cells at *
    clear bx h hs ho hp
    refine (callsIn_wide (n := 4)).1 ?_
    refine callsIn_of_wp_marks Tryz.func33 rfl trivial ?_ rfl
    simp only [Tryz.ntmps33, List.size_toArray, List.length_cons, List.length_nil, Nat.reduceAdd, Nat.reduceSub, Array.replicate_succ, Array.replicate_zero, List.push_toArray, List.append_toArray, List.nil_append, List.cons_append]
    gi_wp2
    refine V.wpIn_scope_wide ?_
    gi_wp2_with (refine ⟨trivial, ?_⟩; gi_at_call 18; refine (callsIn_wide.2 HC.out).mono ?_; rintro e w1 ⟨rfl, k1⟩)
    exact ⟨_, results_tmp rfl _ _ _, _, rfl, Own.nil _ _ _ _, keepN k0 k1⟩
  · obtain ⟨i0, hi, hz0, hz1, hz2⟩ := info_parts int_info
    have HC := Lib.hid (check_any v f _ HF.out hs 0 (chkF_ok ho))
    have hst := Lib.hid (fun m hm bb w hx hr => slots_stops m hm bb v f h.la h.lb h.ll hs w hx hr)
    have hn : (sl f).length ≤ 300 := by rw [sl_length, h.la, h.lb, h.ll]; have := hs.na; have := hs.nb; have := hs.nl; omega
    have HSl := Lib.hid (fun m w => slots_any m v w)
    have HPA := Lib.hid (pL_all ho)
    have HV : Hid (∀ w1, Keep NoB (w.alloc (.cells v.cells 27)) w1 → LsB v f w1.heap.size ∧ ptI f w1 w1.heap.size [] (((w1.alloc (.cells #[.slice none 0 0] 22)).alloc (.cells v.cells 27)).alloc (.cells (kindsV v) 180)) ∧
        Ls v f (((w1.alloc (.cells #[.slice none 0 0] 22)).alloc (.cells v.cells 27)).alloc (.cells (kindsV v) 180)) ∧
        Blk (((w1.alloc (.cells #[.slice none 0 0] 22)).alloc (.cells v.cells 27)).alloc (.cells (kindsV v) 180)) (w1.heap.size + 1 + 1) 180 (kindsV v)) := fun w1 hk => by
      have hl := Ls.of (HF.out.keepN hk)
      have hk3 := (((Keep.refl NoB w1).alloc (.cells #[.slice none 0 0] 22)).alloc (.cells v.cells 27)).alloc (.cells (kindsV v) 180)
      have bL := Boxed.new w1 22 (.slice none 0 0)
      have bk := Blk.new ((w1.alloc (.cells #[.slice none 0 0] 22)).alloc (.cells v.cells 27)) 180 (kindsV v)
      refine ⟨hl.bound, ⟨⟨_, (bL.alloc _).alloc _, World.ownsRow_nil _ _ _ _, trivial⟩, hk3.toBelow⟩, hl.keepN hk3, ?_⟩
      simpa using bk
    have K0 := Lib.hid k0
    obtain ⟨S, A, na, ca, B, nb, cb, L, nl, cl, D, nd, cd⟩ := v
    unfold FV.val FV.cells at *
    clear bx h hs ho k0 HF
    refine (callsIn_wide (n := 4)).1 ?_
    refine callsIn_of_wp_marks Tryz.func33 rfl trivial ?_ rfl
    simp only [Tryz.ntmps33, List.size_toArray, List.length_cons, List.length_nil, Nat.reduceAdd, Nat.reduceSub, Array.replicate_succ, Array.replicate_zero, List.push_toArray, List.append_toArray, List.nil_append, List.cons_append]
    gi_wp2
    refine V.wpIn_scope_wide ?_
    gi_wp2_with (refine ⟨trivial, ?_⟩; gi_at_call 18; refine (callsIn_wide.2 HC.out).mono ?_; rintro e w1 ⟨rfl, k1⟩)
    have hx1 := (HX.out.keep k1 id).alloc (.cells #[.slice none 0 0] 22)
    obtain ⟨c0, c1, c2, c3, c4⟩ := blk5 (v := ⟨S, A, na, ca, B, nb, cb, L, nl, cl, D, nd, cd⟩) hx1
    dsimp only at c0 c1 c2 c3 c4
    obtain ⟨hA, hI0, hL0, hP0⟩ := HV.out _ k1
    have HA := Lib.hid hA
    have HI0 := Lib.hid hI0
    have HL0 := Lib.hid hL0
    have HP0 := Lib.hid hP0
    have hKw := keepN K0.out k1
    clear hx1 hA hI0 hL0 hP0 HV HC
    refine wpIn_label ?_
    gi_wp2_with (refine ⟨trivial, ?_⟩; gi_at_call 83; refine (HSl.out _ _).mono ?_; rintro e w' ⟨rfl, rfl⟩)
    refine wpIn_rangeFunc_ownH rfl (by omega) (gf := 134) (lb := #[.pointer (some ⟨w1.heap.size + 1 + 1, 0, none⟩)]) rfl trivial (enters_of Tryz.func134 (by kernel_rfl) rfl)
      (hst.out _ (by omega) (w1.heap.size + 1 + 1) _ HP0.out HL0.out) (fun h h' => LsK.trans h h') (fun W l o o' _ hl ho _ => LsK.putObj W l o o' hl ho) (Below.refl _ _) (fun _ => rfl)
      (ptI f w1 w1.heap.size) (fun _ _ _ => False) (ptI_own f w1 _ _ (by simp; omega)) (fun _ _ _ _ _ hf _ _ => hf) HI0.out
      (fun x a' W => ∃ Bx, Blk W Bx 126 #[.int .i64 (wh f x), .int .i64 (ty f x)] ∧ a' = ptA ⟨S, A, na, ca, B, nb, cb, L, nl, cl, D, nd, cd⟩ w.heap.size w1.heap.size (wh f x) (ty f x) x Bx) ?hax ?assign ?body ?done ?stop
    case hax =>
      rintro x a' s X Y row ⟨Bx, h1, h2⟩ hg hrow
      exact ⟨Bx, blk_own (β := Unit) _ _ _ () _ _ _ h1 hg (fun r e => (hrow r e).2), h2⟩
    case assign =>
      intro l pre x W K hi hK
      have HI := Lib.hid (fun W' hk => ptI_own f w1 w1.heap.size w1.heap.size (Nat.le_refl _) pre W W' none hi (Keep.grows hk) (fun r e => by cases e))
      have HB := Lib.hid (Blk.new W 126 #[.int .i64 (wh f x), .int .i64 (ty f x)])
      gi_wp2
      exact hK _ _ (keepsFrom_keep ((Keep.refl NoB W).alloc _)) (fun h => h.keepN ((Keep.refl NoB W).alloc _)) (HI.out _ ((Keep.refl NoB W).alloc _)) ⟨_, HB.out, rfl⟩
    case body =>
      rintro l pre x a' W hl _ ⟨⟨u, hv, hrow, _⟩, hB⟩ ⟨Bx, hb, rfl⟩ hlt
      have HST := Lib.hid (fun hp u' w1' tmp hown' hgrow => pt_step (x := x) (u' := u') (w1 := w1') (tmp := tmp) HA.out hv hrow hB (Nat.le_refl _) hp hown' hgrow)
      have HNO : Hid (pB f x = false → ptI f w1 w1.heap.size (pre ++ [x]) W) := fun hp => ⟨⟨u, hv, by rw [pL_no hp]; exact hrow, trivial⟩, hB⟩
      have HPB : Hid (pB f x = ((wh f x == 1 && ty f x == 4) || (wh f x == 3 && ty f x == 4))) := rfl
      have cv := hv.cell
      have cx0 : W.cell? ⟨Bx, 0, none⟩ = some (.int .i64 (wh f x)) := hb.cell 0
      have cx1 : W.cell? ⟨Bx, 1, none⟩ = some (.int .i64 (ty f x)) := hb.cell 1
      obtain ⟨A0, c0, rfl⟩ := own_form hrow
      have hv2 := hv
      have hpl := pL_len f pre
      obtain ⟨xs, hxs⟩ : ∃ xs, pL f pre = xs := ⟨_, rfl⟩
      rw [hxs] at hrow HST hpl cv hv hv2
      have hBs := hB.size
      have hWs := hv.lt
      dsimp only [ptA]
      clear hxs hv hb hB
      generalize ty f x = t at cx1 HPB
      generalize wh f x = a at cx0 HPB
      by_cases hyes : (a = 1 ∨ a = 3) ∧ t = 4
      · obtain ⟨ha, rfl⟩ := hyes
        have hp : pB f x = true := by rw [HPB.out]; rcases ha with rfl | rfl <;> rfl
        have HS2 := Lib.hid (HST.out hp)
        clear HST HNO HPB hp
        rcases ha with rfl | rfl
        all_goals
          gi_wp2_with (gi_at_builtin; refine wpListIn_append_own _ rfl _ _ 22 rfl w1.heap.size 3 i0 (.int .i64 0) 1 8 Tryz.underlying22 hi hz0 hz1 hz2 rfl (by decide) _ _ _ rfl (hrow.alloc _) ⟨W.heap.size, 0, none⟩ 1 1 [.int .i64 (x : Int)] rfl rfl (cell_one_new _ _ _) (by simp [Value.oneCell']) (by unfold maxLen; omega) (by omega) (by simp; omega) ?_; intro u' w2 hown' hgrow _; obtain ⟨g', cap', rfl⟩ := ownsRow_succ hown'; have hst := HS2.out _ _ _ hown' hgrow; have hv3 := (hv2.alloc _).kept hgrow (hv2.not_row (by decide) hrow); have hc1 := hv3.cell; have hf1 := hv3.frozen)
          exact ⟨hst.1.from _, hst.2⟩
      · have hp : pB f x = false := by
          rw [HPB.out]
          cases h4 : t == 4
          · simp
          · rw [beq_iff_eq] at h4
            have h1 : (a == 1) = false := by rw [beq_eq_false_iff_ne]; exact fun e => hyes ⟨.inl e, h4⟩
            have h3 : (a == 3) = false := by rw [beq_eq_false_iff_ne]; exact fun e => hyes ⟨.inr e, h4⟩
            rw [h1, h3]; rfl
        have HI2 := Lib.hid (HNO.out hp)
        clear HST HNO HPB hp hrow
        by_cases ht : t = 4
        · have q1 : (a == 1) = false := by rw [beq_eq_false_iff_ne]; exact fun e => hyes ⟨.inl e, ht⟩
          have q3 : (a == 3) = false := by rw [beq_eq_false_iff_ne]; exact fun e => hyes ⟨.inr e, ht⟩
          subst ht
          clear hyes
          gi_wp2
          exact ⟨KeepsFrom.refl _ _, id, HI2.out⟩
        · have qt : (t == 4) = false := by rw [beq_eq_false_iff_ne]; exact ht
          clear ht hyes
          by_cases ha1 : a = 1
          · subst ha1
            gi_wp2
            exact ⟨KeepsFrom.refl _ _, id, HI2.out⟩
          · have q1 : (a == 1) = false := by rw [beq_eq_false_iff_ne]; exact ha1
            clear ha1
            by_cases ha3 : a = 3
            · subst ha3
              gi_wp2
              exact ⟨KeepsFrom.refl _ _, id, HI2.out⟩
            · have q3 : (a == 3) = false := by rw [beq_eq_false_iff_ne]; exact ha3
              clear ha3
              gi_wp2
              exact ⟨KeepsFrom.refl _ _, id, HI2.out⟩
    case done =>
      rintro D ys W hD rfl ⟨⟨u, hv, hrow, _⟩, hB⟩ hDf
      have cv := hv.cell
      gi_wp2
      refine ⟨by simp, .inl ⟨_, _, rfl, run_takeDeferred hDf, ?_⟩⟩
      refine ⟨_, results_tmp rfl _ _ _, ?_⟩
      rw [HPA.out] at hrow
      exact ⟨u, rfl, Own.of_row (ownsRow_putObj hrow _ hDf rfl) (fun j hj => Nat.le_trans hKw.size hj), keepN hKw (keep_put (Keep.of_below hB) (by simp at hD; omega))⟩
    case stop =>
      rintro D c pre W _ _ hf _
      exact hf.elim

end Go.Proofs.YtbnekeomdhljhaaGreatDoor.F

namespace Go.Proofs.YtbnekeomdhljhaaGreatDoor
open Go.RowKit

theorem run_copy_own {P : Program} {w : World} (dT sT ty elem : TypeId) (k : Nat) (hk : 0 < k) (hu : P.underlying dT = some (.slice elem)) (hsz : (P.info? elem).map (·.size) = some k) (v : Value) (n : Nat) (xs : List Value) (hO : w.ownsRow 0 elem k v n xs)
    (X : Option Addr) (m c : Nat) (ys : List Value) (hr : Rd w X ys) (hl : ys.length = m * k) (hmn : m ≤ n) (h1 : ∀ u ∈ ys, u.oneCell' = true) :
    ∃ w', (Builtin.copy_ #[dT, sT] ty #[v, .slice X m c]).run P w = .ok (goInt m) w' ∧ w'.ownsRow 0 elem k v n (ys ++ xs.drop ys.length) ∧ Keep (fun b => v.ownBlock = some b) w w' := by
  have hmin : Nat.min m n = m := Nat.min_eq_left hmn
  cases hq : P.info? elem with
  | none => simp [hq] at hsz
  | some i =>
  have hi : i.size = k := by simpa [hq] using hsz
  have hnil : m = 0 → ∃ w', (Builtin.copy_ #[dT, sT] ty #[v, .slice X m c]).run P w = .ok (goInt m) w' ∧ w'.ownsRow 0 elem k v n (ys ++ xs.drop ys.length) ∧ Keep (fun b => v.ownBlock = some b) w w' := by
    rintro rfl
    obtain rfl : ys = [] := List.length_eq_zero_iff.1 (by rw [hl, Nat.zero_mul])
    refine ⟨w, ?_, by simpa using hO, Keep.refl _ _⟩
    have hl0 : ∀ (x : Addr), (loadCells x 0).run P w = .ok #[] w := fun x => by simpa using run_loadCells_list (P := P) w x [] (by simp)
    rcases hO.2 with ⟨rfl, _⟩ | ⟨g, cap, cur, rfl, _⟩
    · cases X <;> simp [Builtin.copy_, run_underlying hu, Builtin.lenOf, Builtin.firstCells, sizeOf, typeInfo, hq, hl0]
    · cases X <;> simp [Builtin.copy_, run_underlying hu, Builtin.lenOf, Builtin.firstCells, sizeOf, typeInfo, hq, hmin, storeCells, hl0]
  by_cases h0 : m = 0
  · exact hnil h0
  · have hpos : 0 < ys.length := by rw [hl]; exact Nat.mul_pos (by omega) hk
    obtain ⟨gx, ox, rfl, hcx⟩ := hr hpos
    rcases hO.2 with ⟨rfl, hn0⟩ | ⟨g, cap, cur, rfl, hb, hg, hnc, hcm, hsc, hcx2⟩
    · omega
    · have hsrc : ∀ j u, ys[j]? = some u → w.cell? ((⟨gx, ox, none⟩ : Addr).add j) = some u := fun j u hj => by
        have ea : (⟨gx, ox, none⟩ : Addr).add j = ⟨gx, ox + j, none⟩ := by unfold Addr.add; by_cases h : j = 0 <;> simp [h]
        rw [ea]; exact hcx j u hj
      have hxl : xs.length = n * k := hO.1
      have hle : ys.length ≤ n * k := by rw [hl]; exact Nat.mul_le_mul_right k hmn
      have hnk : n * k ≤ cur.size := by rw [hsc]; exact Nat.mul_le_mul_right k hnc
      have hload := run_loadCells_list (P := P) w ⟨gx, ox, none⟩ ys hsrc
      have hst := run_storeCells_at P g 0 elem ys 0 cur w hg (by omega) h1
      have e : cur.toList.take (0 + 0) ++ ys ++ cur.toList.drop (0 + 0 + ys.length) = ys ++ cur.toList.drop ys.length := by simp
      rw [e] at hst
      refine ⟨w.setRow g (ys ++ cur.toList.drop ys.length).toArray, ?_, ⟨?_, .inr ⟨g, cap, _, rfl, hb, setRow_heap w g cur _ elem _ hg, hnc, hcm, ?_, ?_⟩⟩, ⟨rfl, rfl, rfl, by simp [World.setRow], fun b _ hne => setRow_other w g b _ (fun e => hne (by subst e; rfl))⟩⟩
      · simp [Builtin.copy_, run_underlying hu, Builtin.lenOf, Builtin.firstCells, sizeOf, typeInfo, hq, hi, hmin, ← hl, hload, hst]
      · rw [List.length_append, List.length_drop, hxl]; omega
      · have e2 : cur.toList.length = cur.size := Array.length_toList
        rw [List.size_toArray, List.length_append, List.length_drop]; omega
      · show (ys ++ cur.toList.drop ys.length).take (n * k) = _
        rw [List.take_append, List.take_of_length_le hle, ← hcx2, List.drop_take]

/-- slices.Clone of a list. -/
theorem clone_own {w W : World} {E size n : Nat} {A' : Option Addr} {c' : Nat} {xs : List Value} (hrow : W.ownsRow 0 E size (.slice A' n c') n xs) (hg : (w.alloc (.cells #[] E)).grownBy W (some w.heap.size)) (hat : (Value.slice A' n c').ownBlock = some w.heap.size ∨ (Value.slice A' n c').ownBlock = some (w.alloc (.cells #[] E)).heap.size) :
    Own W E size (Fresh w) (.slice A' n c') n xs ∧ Keep NoB w W := by
  refine ⟨⟨hrow, fun g e => ?_⟩, ((Keep.refl NoB w).alloc _).grown hg (fun g e hlt => by cases e; omega)⟩
  rcases hat with h | h <;> rw [h] at e <;> cases e <;> simp [Fresh]

set_option maxHeartbeats 800000 in
theorem cloneInts_any (w : World) (A : Option Addr) (xs : List Value) (n c : Nat) (hr : Rd w A xs) (hl : xs.length = n * 1) (h1 : ∀ u ∈ xs, u.oneCell' = true) (hb : n ≤ 1000) :
    Calls Tryz.prog 62 #[.slice A n c] w fun e w' => ∃ v, e = .returned v ∧ Own w' 3 1 (Fresh w) v n xs ∧ Keep NoB w w' := by
  obtain ⟨i0, hi, hz0, hz1, hz2⟩ := info_parts int_info
  have qT : ∀ (w : World) (a : Option Addr) (n c n' c' : Nat), (binOp .eql 22 (.slice a n c) (.slice none n' c')).run Tryz.prog w = .ok (.bool a.isNone) w := fun w a n c n' c' => Lib.run_eql_slice_nil w _ _ a n c n' c' Tryz.underlying22
  rcases A with _ | ad
  · have hx : xs = [] := by
      rcases Nat.eq_zero_or_pos xs.length with h0 | h0
      · exact List.length_eq_zero_iff.1 h0
      · obtain ⟨g, off, e, _⟩ := hr h0; cases e
    subst hx
    obtain rfl : n = 0 := by simp at hl; omega
    go_enter Tryz.func62, Tryz.ntmps62
    go_wp2
    go_ret
    exact ⟨_, rfl, Own.nil _ _ _ _, Keep.refl _ _⟩
  · have hm := World.ownsRow_made (e := 3) (size := 1) (base := 0) w #[] 0 (Nat.zero_le _) (Nat.zero_le _) rfl
    have hr' := hr.keepN ((Keep.refl NoB w).alloc (.cells #[] 3))
    have HL := Lib.hid hl
    have HO := Lib.hid h1
    have HR := Lib.hid hr'
    clear hr hr' hl h1
    go_enter Tryz.func62, Tryz.ntmps62
    go_wp2_with (at_builtin; refine wpList_append_rd _ rfl (.tmp 5) (.tmp 6) _ rfl 3 1 8 i0 _ Tryz.underlying22 hi hz0 hz1 hz2 rfl (by decide) (.slice (some ⟨w.heap.size, 0, none⟩) 0 0) 0 [] (some ad) n c xs rfl hm rfl HR.out HL.out HO.out (by unfold maxLen; omega) (by omega) ?_; intro A5 c5 w5 hrow5 hg5 hv5; rw [Nat.zero_add] at hrow5 hv5 ⊢; rw [List.nil_append] at hrow5; obtain ⟨hO5, hK5⟩ := clone_own hrow5 hg5 hv5)
    go_ret
    exact ⟨_, rfl, hO5, hK5⟩

set_option maxHeartbeats 800000 in
theorem cloneVals_any (w : World) (A : Option Addr) (xs : List Value) (n c : Nat) (hr : Rd w A xs) (hl : xs.length = n * 2) (h1 : ∀ u ∈ xs, u.oneCell' = true) (hb : n ≤ 1000) :
    Calls Tryz.prog 88 #[.slice A n c] w fun e w' => ∃ v, e = .returned v ∧ Own w' 68 2 (Fresh w) v n xs ∧ Keep NoB w w' := by
  obtain ⟨i0, hi, hz0, hz1, hz2⟩ := info_parts val_info
  have qT : ∀ (w : World) (a : Option Addr) (n c n' c' : Nat), (binOp .eql 53 (.slice a n c) (.slice none n' c')).run Tryz.prog w = .ok (.bool a.isNone) w := fun w a n c n' c' => Lib.run_eql_slice_nil w _ _ a n c n' c' Tryz.underlying53
  rcases A with _ | ad
  · have hx : xs = [] := by
      rcases Nat.eq_zero_or_pos xs.length with h0 | h0
      · exact List.length_eq_zero_iff.1 h0
      · obtain ⟨g, off, e, _⟩ := hr h0; cases e
    subst hx
    obtain rfl : n = 0 := by simp at hl; omega
    go_enter Tryz.func88, Tryz.ntmps88
    go_wp2
    go_ret
    exact ⟨_, rfl, Own.nil _ _ _ _, Keep.refl _ _⟩
  · have hm := World.ownsRow_made (e := 68) (size := 2) (base := 0) w #[] 0 (Nat.zero_le _) (Nat.zero_le _) rfl
    have hr' := hr.keepN ((Keep.refl NoB w).alloc (.cells #[] 68))
    have HL := Lib.hid hl
    have HO := Lib.hid h1
    have HR := Lib.hid hr'
    clear hr hr' hl h1
    go_enter Tryz.func88, Tryz.ntmps88
    go_wp2_with (at_builtin; refine wpList_append_rd _ rfl (.tmp 5) (.tmp 6) _ rfl 68 2 16 i0 _ Tryz.underlying53 hi hz0 hz1 hz2 rfl (by decide) (.slice (some ⟨w.heap.size, 0, none⟩) 0 0) 0 [] (some ad) n c xs rfl hm rfl HR.out HL.out HO.out (by unfold maxLen; omega) (by omega) ?_; intro A5 c5 w5 hrow5 hg5 hv5; rw [Nat.zero_add] at hrow5 hv5 ⊢; rw [List.nil_append] at hrow5; obtain ⟨hO5, hK5⟩ := clone_own hrow5 hg5 hv5)
    go_ret
    exact ⟨_, rfl, hO5, hK5⟩

theorem inst_info : (Tryz.prog.info? 74).map (fun i => (i.zero, i.size, i.bytes)) = some (some (.agg #[.int .i64 0, .int .i64 0, .int .i64 0]), 3, 24) := by kernel_rfl

set_option maxHeartbeats 800000 in
theorem cloneIns_any (w : World) (A : Option Addr) (xs : List Value) (n c : Nat) (hr : Rd w A xs) (hl : xs.length = n * 3) (h1 : ∀ u ∈ xs, u.oneCell' = true) (hb : n ≤ 1000) :
    Calls Tryz.prog 63 #[.slice A n c] w fun e w' => ∃ v, e = .returned v ∧ Own w' 74 3 (Fresh w) v n xs ∧ Keep NoB w w' := by
  obtain ⟨i0, hi, hz0, hz1, hz2⟩ := info_parts inst_info
  have qT : ∀ (w : World) (a : Option Addr) (n c n' c' : Nat), (binOp .eql 25 (.slice a n c) (.slice none n' c')).run Tryz.prog w = .ok (.bool a.isNone) w := fun w a n c n' c' => Lib.run_eql_slice_nil w _ _ a n c n' c' Tryz.underlying25
  rcases A with _ | ad
  · have hx : xs = [] := by
      rcases Nat.eq_zero_or_pos xs.length with h0 | h0
      · exact List.length_eq_zero_iff.1 h0
      · obtain ⟨g, off, e, _⟩ := hr h0; cases e
    subst hx
    obtain rfl : n = 0 := by simp at hl; omega
    go_enter Tryz.func63, Tryz.ntmps63
    go_wp2
    go_ret
    exact ⟨_, rfl, Own.nil _ _ _ _, Keep.refl _ _⟩
  · have hm := World.ownsRow_made (e := 74) (size := 3) (base := 0) w #[] 0 (Nat.zero_le _) (Nat.zero_le _) rfl
    have hr' := hr.keepN ((Keep.refl NoB w).alloc (.cells #[] 74))
    have HL := Lib.hid hl
    have HO := Lib.hid h1
    have HR := Lib.hid hr'
    clear hr hr' hl h1
    go_enter Tryz.func63, Tryz.ntmps63
    go_wp2_with (at_builtin; refine wpList_append_rd _ rfl (.tmp 5) (.tmp 6) _ rfl 74 3 24 i0 _ Tryz.underlying25 hi hz0 hz1 hz2 rfl (by decide) (.slice (some ⟨w.heap.size, 0, none⟩) 0 0) 0 [] (some ad) n c xs rfl hm rfl HR.out HL.out HO.out (by unfold maxLen; omega) (by omega) ?_; intro A5 c5 w5 hrow5 hg5 hv5; rw [Nat.zero_add] at hrow5 hv5 ⊢; rw [List.nil_append] at hrow5; obtain ⟨hO5, hK5⟩ := clone_own hrow5 hg5 hv5)
    go_ret
    exact ⟨_, rfl, hO5, hK5⟩

end Go.Proofs.YtbnekeomdhljhaaGreatDoor
