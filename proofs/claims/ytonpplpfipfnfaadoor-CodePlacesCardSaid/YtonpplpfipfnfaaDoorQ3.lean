/-
  The steps of a walk through a region by WMix. No program, no conditions.
  What operandOf hands out, and has. Conditions: the kind is from 0 to 10.
  What rowOf and has answer. Conditions: none but that a kind's operand is one.
  What rowFor answers. No conditions.
  What Check, Ends, Goes, Kinds, Name and Effect answer. Conditions: none but that numbers fit an int64.
  The plain mathematics of layer code: instructions as triples, lists of them as cells, which lists are bodies, heads and stretches, what one more and one fewer make, how many have an op. No program, no conditions.
-/
import Derived.Laws.EntriesVeiled
import Derived.Lib.Hide
import Derived.Test.YtonpplpfipfnfaaDoorQ2
namespace Go.Proofs.YtonpplpfipfnfaaDoor
open Go.RowKit

/-- A world of a class. -/
structure KI (I : World → Prop) where
  w : World
  has : I w

section
variable {P : Program} {l tl : List Oper} {Q : Act → World → Prop} {rest : List (Nat × Bool)} {i : Nat} {gen : Bool} {o : Oper} {a : Act} {I : World → Prop}

theorem at_drop (ho : l.drop i = o :: tl) : l.toArray[i]? = some o := by
  rw [List.getElem?_toArray, ← List.head?_drop, ho]; rfl
theorem wpM_skip (ho : l.drop i = o :: tl) (hw : Region.wanted o (yielded l.toArray a.tmps) = false) (h : wpM P l.toArray Q rest (a.put o.dst undef) I) : wpM P l.toArray Q ((i, gen) :: rest) a I := by
  change mOp P l.toArray gen i (wpM P l.toArray Q rest) a I
  have ho := at_drop ho
  unfold mOp
  simp only [ho, hw, Bool.false_eq_true, if_false]
  exact h

/-- An operation that reads, reckons or calls. -/
theorem wpM_step (ho : l.drop i = o :: tl) (hm : isMake o = false) {d : Tmp} (hd : o.dst = some d) (hlt : decide (d < a.tmps.size) = true) (hw : Region.wanted o (yielded l.toArray a.tmps) = true)
    (HH : ∃ A' : Act, (∀ n : KI I, ∀ K : Act → Prop, (∀ a', a' = A' → K a') → o.quiet P a (fun w' => ∃ m : KW n.w, w' = m.w) K) ∧ a.put o.dst (A'.tmps.getD d undef) = A' ∧ wpM P l.toArray Q rest A' I) : wpM P l.toArray Q ((i, gen) :: rest) a I := by
  obtain ⟨A', H, hA, h⟩ := HH
  change mOp P l.toArray gen i (wpM P l.toArray Q rest) a I
  have ho := at_drop ho
  unfold mOp
  simp only [ho, hw, if_true, hm, Bool.false_eq_true, if_false]
  have hlt := of_decide_eq_true hlt
  have key : ∀ n : KI I, ∃ v, a.put o.dst v = A' ∧ yieldsK P o a n.w fun u w' => u = v ∧ Keep NoB n.w w' := fun n => by
    obtain ⟨v, h1, h2⟩ := H n (fun a' => a' = A') (fun _ h => h)
    refine ⟨v, h2, ?_⟩
    have h3 := h1 n.w ⟨⟨n.w, Keep.refl _ _⟩, rfl⟩
    unfold Oper.quietAt at h3
    unfold yieldsK
    generalize (execOp a.eval o).run P n.w = r at *
    cases r with
    | ok x w' =>
      cases x <;> simp only [Oper.quietUpon] at h3 <;> simp only [yieldsR]
      case value u => obtain ⟨rfl, rfl⟩ := h3; exact ⟨rfl, Keep.refl _ _⟩
      case skip => obtain ⟨rfl, rfl⟩ := h3; exact ⟨rfl, Keep.refl _ _⟩
      case enter f args =>
        obtain ⟨rfl, hc⟩ := h3
        exact hc.mono fun e w'' ⟨he, m, hm⟩ => ⟨v, he, rfl, by rw [hm]; exact m.keep⟩
    | halt x w' => simp only [Oper.quietUpon] at h3
  have val : ∀ v, a.put o.dst v = A' → v = A'.tmps.getD d undef := fun v e => by
    rw [← e, hd]
    simp [Act.put, hlt]
  refine .inl ⟨A'.tmps.getD d undef, fun w hw' => ?_, by rw [hA]; exact h⟩
  obtain ⟨v, e, hy⟩ := key ⟨w, hw'⟩
  rw [← val v e]; exact hy

/-- An operation that makes a block. -/
theorem wpM_make (ho : l.drop i = o :: tl) (hm : isMake o = true) (hw : Region.wanted o (yielded l.toArray a.tmps) = true) (mk : Nat → Value) (obj : Obj) (hk : Make1 P o a mk obj)
    (h : ∀ g, wpM P l.toArray Q rest (a.put o.dst (mk g)) fun w => I w ∧ w.heap[g]? = some obj) : wpM P l.toArray Q ((i, gen) :: rest) a I := by
  change mOp P l.toArray gen i (wpM P l.toArray Q rest) a I
  have ho := at_drop ho
  unfold mOp
  simp only [ho, hw, if_true, hm]
  exact ⟨mk, obj, hk, h⟩

/-- One that comes up alone, and yields whatever. -/
theorem wpM_gen (ho : l.drop i = o :: tl) (hm : isMake o = false) (hw : Region.wanted o (yielded l.toArray a.tmps) = true) (V : Value → World → Prop) (hV : ∀ v, StableI (V v))
    (H : ∀ n : KI I, yieldsK P o a n.w fun u w' => V u w' ∧ Keep NoB n.w w') (h : ∀ v, wpM P l.toArray Q rest (a.put o.dst v) fun w => I w ∧ V v w) : wpM P l.toArray Q ((i, true) :: rest) a I := by
  change mOp P l.toArray true i (wpM P l.toArray Q rest) a I
  have ho := at_drop ho
  unfold mOp
  simp only [ho, hw, if_true, hm, Bool.false_eq_true, if_false]
  exact .inr ⟨trivial, V, ⟨hV, fun w hw' => H ⟨w, hw'⟩⟩, h⟩

/-- Less may be known of the worlds. -/
theorem wpM_weak {ops : Array Oper} : ∀ (l : List (Nat × Bool)) (a : Act) (I I' : World → Prop), (∀ w, I w → I' w) → wpM P ops Q l a I' → wpM P ops Q l a I
  | [], _, _, _, hI, h => fun w hw => h w (hI w hw)
  | (i, gen) :: rest, a, I, I', hI, h => by
    change mOp P ops gen i (wpM P ops Q rest) a I
    change mOp P ops gen i (wpM P ops Q rest) a I' at h
    unfold mOp at *
    split
    · rename_i ho; simp only [ho] at h; exact wpM_weak rest a I I' hI h
    · rename_i o ho
      simp only [ho] at h
      split
      · rename_i hw
        simp only [hw, if_true] at h
        split
        · rename_i hm
          simp only [hm, if_true] at h
          obtain ⟨mk, obj, h1, h2⟩ := h
          exact ⟨mk, obj, h1, fun g => wpM_weak rest _ _ _ (fun w hw => ⟨hI w hw.1, hw.2⟩) (h2 g)⟩
        · rename_i hm
          simp only [hm] at h
          rcases h with ⟨v, h1, h2⟩ | ⟨hg, V, h1, h2⟩
          · exact .inl ⟨v, fun w hw => h1 w (hI w hw), wpM_weak rest _ _ _ hI h2⟩
          · exact .inr ⟨hg, V, ⟨h1.1, fun w hw => h1.2 w (hI w hw)⟩, fun v => wpM_weak rest _ _ _ (fun w hw => ⟨hI w hw.1, hw.2⟩) (h2 v)⟩
      · rename_i hw; simp only [hw] at h; exact wpM_weak rest _ _ _ hI h

theorem wpM_nil (h : ∀ n : KI I, Q a n.w) : wpM P l.toArray Q [] a I := fun w hw => h ⟨w, hw⟩

/-! The same laws with the goal shut in a structure: a goal that is laid bare is unfolded, operation by operation, wherever one is not wanted. -/

/-- What is shut in. -/
structure Shut (p : Prop) : Prop where
  out : p

theorem shM_skip (ho : l.drop i = o :: tl) (hw : Region.wanted o (yielded l.toArray a.tmps) = false) (hu : a.put o.dst undef = a) (h : Shut (wpM P l.toArray Q rest a I)) : Shut (wpM P l.toArray Q ((i, gen) :: rest) a I) :=
  ⟨wpM_skip ho hw (by rw [hu]; exact h.out)⟩
theorem shM_step (ho : l.drop i = o :: tl) (hm : isMake o = false) {d : Tmp} (hd : o.dst = some d) (hlt : decide (d < a.tmps.size) = true) (hw : Region.wanted o (yielded l.toArray a.tmps) = true)
    (HH : ∃ A' : Act, (∀ n : KI I, ∀ K : Act → Prop, (∀ a', a' = A' → K a') → o.quiet P a (fun w' => ∃ m : KW n.w, w' = m.w) K) ∧ a.put o.dst (A'.tmps.getD d undef) = A' ∧ Shut (wpM P l.toArray Q rest A' I)) : Shut (wpM P l.toArray Q ((i, gen) :: rest) a I) :=
  ⟨wpM_step ho hm hd hlt hw (HH.imp fun _ h => ⟨h.1, h.2.1, h.2.2.out⟩)⟩
theorem shM_make (ho : l.drop i = o :: tl) (hm : isMake o = true) (hw : Region.wanted o (yielded l.toArray a.tmps) = true) (mk : Nat → Value) (obj : Obj) (hk : Make1 P o a mk obj)
    (h : ∀ g, Shut (wpM P l.toArray Q rest (a.put o.dst (mk g)) fun w => I w ∧ w.heap[g]? = some obj)) : Shut (wpM P l.toArray Q ((i, gen) :: rest) a I) :=
  ⟨wpM_make ho hm hw mk obj hk fun g => (h g).out⟩
theorem shM_gen (ho : l.drop i = o :: tl) (hm : isMake o = false) (hw : Region.wanted o (yielded l.toArray a.tmps) = true) (V : Value → World → Prop) (hV : ∀ v, StableI (V v))
    (H : ∀ n : KI I, yieldsK P o a n.w fun u w' => V u w' ∧ Keep NoB n.w w') (h : ∀ v, Shut (wpM P l.toArray Q rest (a.put o.dst v) fun w => I w ∧ V v w)) : Shut (wpM P l.toArray Q ((i, true) :: rest) a I) :=
  ⟨wpM_gen ho hm hw V hV H fun v => (h v).out⟩
theorem shM_nil (h : ∀ n : KI I, Q a n.w) : Shut (wpM P l.toArray Q [] a I) := ⟨wpM_nil h⟩
theorem wp_region_sh {id : Nat} {Q : Exit → Act → World → Prop} {w : World} {ops : Array Oper} (l : List (Nat × Bool)) (I : World → Prop) (hm : P.follows .mixedOrders = true) (hs : Region.noSelect ops = true) (hl : l.length = ops.size)
    (hB : orderM .any ops l (Array.replicate ops.size false) = true) (hI : StableI I) (hw : I w.drew) (h : Shut (wpM P ops (Q .normal) l a I)) : (Code.region id ops true).wp P Q a w :=
  wp_region_mix l I hm hs hl hB hI hw h.out

end
end Go.Proofs.YtonpplpfipfnfaaDoor

namespace Go.Proofs.YtonpplpfipfnfaaDoor.O
open Go.RowKit

/-- A function value; one with a captured variable, which lies in block n. -/
abbrev fnV (f : Nat) : Value := .func (.func f) #[] #[]
abbrev boxV (f n : Nat) : Value := .func (.func f) #[] #[.pointer (some ⟨n, 0, none⟩)]
/-- Does the kind tell its numbers by digits; by words? -/
def digK (k : Int) : Bool := decide (k = 1 ∨ k = 4 ∨ k = 5 ∨ k = 6 ∨ k = 7 ∨ k = 10)
def wordK (k : Int) : Bool := decide (k = 2 ∨ k = 3 ∨ k = 8 ∨ k = 9)
/-- The functions that tell a kind's words, and read them. -/
def wordF (k : Int) : Nat := if k = 8 then 49 else if k = 9 then 51 else 47
def readF (k : Int) : Nat := if k = 8 then 50 else if k = 9 then 52 else 48

/-- An operand as a value, whatever its functions. -/
def opV (k : Int) (sh gu : Value) : Value := .agg #[.int .i64 k, .int .i64 (lo k), .int .i64 (hi k), sh, gu]
/-- The functions of a kind's operand, as they lie in memory. -/
def FnAt (k : Int) (sh gu : Value) (w : World) : Prop :=
  (k = 0 ∧ sh = .nilFunc ∧ gu = .nilFunc) ∨ (digK k = true ∧ sh = fnV 53 ∧ gu = fnV 55) ∨
    (wordK k = true ∧ ∃ b c, sh = boxV 57 b ∧ gu = boxV 58 c ∧ w.cell? ⟨b, 0, none⟩ = some (fnV (wordF k)) ∧ w.cell? ⟨c, 0, none⟩ = some (fnV (readF k)))
theorem FnAt.keep {k : Int} {sh gu : Value} {w w' : World} (h : FnAt k sh gu w) (hk : Keep NoB w w') : FnAt k sh gu w' := by
  rcases h with h | h | ⟨h, b, c, h1, h2, h3, h4⟩
  · exact .inl h
  · exact .inr (.inl h)
  · exact .inr (.inr ⟨h, b, c, h1, h2, hk.cell h3 id, hk.cell h4 id⟩)

theorem cell_far {w : World} {g b i : Nat} {u v : Value} (h : w.cell? ⟨b, 0, none⟩ = some v) (hn : g ≠ b) : (w.setCell ⟨g, i, none⟩ u).cell? ⟨b, 0, none⟩ = some v :=
  (World.cell?_of_block (Below.heap_setCell _ _ _ _ (fun e => hn e.symm))).trans h
theorem cell_far5 {w : World} {g b : Nat} {u0 u1 u2 u3 u4 v : Value} (h : w.cell? ⟨b, 0, none⟩ = some v) (hn : g ≠ b) :
    (((((w.setCell ⟨g, 0, none⟩ u0).setCell ⟨g, 1, none⟩ u1).setCell ⟨g, 2, none⟩ u2).setCell ⟨g, 3, none⟩ u3).setCell ⟨g, 4, none⟩ u4).cell? ⟨b, 0, none⟩ = some v :=
  cell_far (cell_far (cell_far (cell_far (cell_far h hn) hn) hn) hn) hn

set_option maxHeartbeats 1000000 in
theorem digits_any (k l m : Int) (w : World) :
    Calls Tryd.prog 45 #[.int .i64 k, .int .i64 l, .int .i64 m] w fun e w' => e = .returned (.agg #[.int .i64 k, .int .i64 l, .int .i64 m, fnV 53, fnV 55]) ∧ Keep NoB w w' := by
  go_enter Tryd.func45, Tryd.ntmps45
  go_wp2
  refine bodyPost_ret (v := .agg #[.int .i64 k, .int .i64 l, .int .i64 m, fnV 53, fnV 55]) (by simp [results, Tryd.results45, go_sem]) rfl ⟨rfl, (Keep.refl NoB w).alloc _⟩

set_option maxHeartbeats 1000000 in
theorem worded_any (k l m : Int) (f g : Nat) (w : World) :
    Calls Tryd.prog 46 #[.int .i64 k, .int .i64 l, .int .i64 m, fnV f, fnV g] w fun e w' => ∃ b c, e = .returned (.agg #[.int .i64 k, .int .i64 l, .int .i64 m, boxV 57 b, boxV 58 c]) ∧
      w'.cell? ⟨b, 0, none⟩ = some (fnV f) ∧ w'.cell? ⟨c, 0, none⟩ = some (fnV g) ∧ w.heap.size ≤ b ∧ w.heap.size ≤ c ∧ Keep NoB w w' := by
  go_enter Tryd.func46, Tryd.ntmps46
  go_wp2
  refine bodyPost_ret (v := .agg #[.int .i64 k, .int .i64 l, .int .i64 m, boxV 57 w.heap.size, boxV 58 (w.heap.size + 1)]) (by simp [results, Tryd.results46, go_sem]) rfl
    ⟨w.heap.size, w.heap.size + 1, rfl, by simp [go_sem], by simp [go_sem], Nat.le_refl _, Nat.le_succ _, (((Keep.refl NoB w).alloc _).alloc _).alloc _⟩

/-- What operandOf answers. -/
def OpR (k : Int) (w : World) (e : Ending) (w' : World) : Prop := ∃ sh gu, e = .returned (opV k sh gu) ∧ FnAt k sh gu w' ∧ Keep NoB w w'

set_option maxRecDepth 100000 in
set_option maxHeartbeats 4000000 in
theorem operandOf_any (k : Int) (hk : 0 ≤ k ∧ k ≤ 10) (w : World) : Calls Tryd.prog 42 #[.int .i64 k] w (OpR k w) := by
  have hK := (Keep.refl NoB w).alloc (.cells #[.int .i64 0, .int .i64 0, .int .i64 0, .nilFunc, .nilFunc] 76)
  obtain rfl | rfl | rfl | rfl | rfl | rfl | rfl | rfl | rfl | rfl | rfl : k = 0 ∨ k = 1 ∨ k = 2 ∨ k = 3 ∨ k = 4 ∨ k = 5 ∨ k = 6 ∨ k = 7 ∨ k = 8 ∨ k = 9 ∨ k = 10 := by omega
  all_goals clear hk
  · go_enter Tryd.func42, Tryd.ntmps42
    go_wp2
    exact bodyPost_ret (v := opV 0 .nilFunc .nilFunc) (by simp [results, Tryd.results42, go_sem, opV, lo, hi]) rfl ⟨_, _, rfl, .inl ⟨rfl, rfl, rfl⟩, hK⟩
  case inr.inl | inr.inr.inr.inr.inl | inr.inr.inr.inr.inr.inl | inr.inr.inr.inr.inr.inr.inl | inr.inr.inr.inr.inr.inr.inr.inl | inr.inr.inr.inr.inr.inr.inr.inr.inr.inr =>
    go_enter Tryd.func42, Tryd.ntmps42
    go_wp2_with fail
    refine (digits_any _ _ _ _).mono ?_
    rintro e w1 ⟨rfl, k1⟩
    have b1 := (Blk.new w 76 #[.int .i64 0, .int .i64 0, .int .i64 0, .nilFunc, .nilFunc]).keep k1 id
    have c0 := b1.cell 0
    have c1 := b1.cell 1
    have c2 := b1.cell 2
    have c3 := b1.cell 3
    have c4 := b1.cell 4
    have f0 := fun i => b1.frozen i
    simp at c0 c1 c2 c3 c4
    go_wp2
    exact bodyPost_ret (v := opV _ (fnV 53) (fnV 55)) (by simp [results, Tryd.results42, go_sem, opV, lo, hi, c0, c1, c2, c3, c4]) rfl
      ⟨_, _, rfl, .inr (.inl ⟨rfl, rfl, rfl⟩), (((((keepN hK k1).setCell (fun h => by simp at h) _).setCell (fun h => by simp at h) _).setCell (fun h => by simp at h) _).setCell (fun h => by simp at h) _).setCell (fun h => by simp at h) _⟩
  all_goals
    go_enter Tryd.func42, Tryd.ntmps42
    go_wp2_with fail
    refine (worded_any _ _ _ _ _ _).mono ?_
    rintro e w1 ⟨b, c, rfl, cb, cc, hb, hc, k1⟩
    have nb : w.heap.size ≠ b := by simp at hb; omega
    have nc : w.heap.size ≠ c := by simp at hc; omega
    have hC : Hid (w1.cell? ⟨b, 0, none⟩ = some _ ∧ w1.cell? ⟨c, 0, none⟩ = some _) := Lib.hid ⟨cb, cc⟩
    clear cb cc hb hc
    have b1 := (Blk.new w 76 #[.int .i64 0, .int .i64 0, .int .i64 0, .nilFunc, .nilFunc]).keep k1 id
    have c0 := b1.cell 0
    have c1 := b1.cell 1
    have c2 := b1.cell 2
    have c3 := b1.cell 3
    have c4 := b1.cell 4
    have f0 := fun i => b1.frozen i
    simp at c0 c1 c2 c3 c4
    go_wp2
    exact bodyPost_ret (v := opV _ (boxV 57 b) (boxV 58 c)) (by simp [results, Tryd.results42, go_sem, opV, lo, hi, c0, c1, c2, c3, c4]) rfl
      ⟨_, _, rfl, .inr (.inr ⟨rfl, b, c, rfl, rfl, cell_far5 hC.out.1 nb, cell_far5 hC.out.2 nc⟩), (((((keepN hK k1).setCell (fun h => by simp at h) _).setCell (fun h => by simp at h) _).setCell (fun h => by simp at h) _).setCell (fun h => by simp at h) _).setCell (fun h => by simp at h) _⟩

end Go.Proofs.YtonpplpfipfnfaaDoor.O

namespace Go.Proofs.YtonpplpfipfnfaaDoor.O
open Go.RowKit

/-- A row as a value. -/
abbrev rowV (r : Row) : Value := .agg #[.string (str r.name), .int .i64 r.ka, .int .i64 r.kb, .int .i64 r.ta, .int .i64 r.tb, .int .i64 r.la, .int .i64 r.lb, .bool r.hop, .bool r.fin]
abbrev rowZ : Array Value := #[.string ⟨#[]⟩, .int .i64 0, .int .i64 0, .int .i64 0, .int .i64 0, .int .i64 0, .int .i64 0, .bool false, .bool false]
theorem blk9 {w : World} {g : Nat} {t : TypeId} {a0 a1 a2 a3 a4 a5 a6 a7 a8 : Value} (h : Blk w g t #[a0, a1, a2, a3, a4, a5, a6, a7, a8]) :
    w.cell? ⟨g, 0, none⟩ = some a0 ∧ w.cell? ⟨g, 1, none⟩ = some a1 ∧ w.cell? ⟨g, 2, none⟩ = some a2 ∧ w.cell? ⟨g, 3, none⟩ = some a3 ∧ w.cell? ⟨g, 4, none⟩ = some a4 ∧ w.cell? ⟨g, 5, none⟩ = some a5 ∧
      w.cell? ⟨g, 6, none⟩ = some a6 ∧ w.cell? ⟨g, 7, none⟩ = some a7 ∧ w.cell? ⟨g, 8, none⟩ = some a8 := ⟨h.cell 0, h.cell 1, h.cell 2, h.cell 3, h.cell 4, h.cell 5, h.cell 6, h.cell 7, h.cell 8⟩
theorem keep9 {w w1 : World} {g : Nat} (h : Keep NoB w w1) (hg : w.heap.size ≤ g) (u0 u1 u2 u3 u4 u5 u6 u7 u8 : Value) :
    Keep NoB w (((((((((w1.setCell ⟨g, 0, none⟩ u0).setCell ⟨g, 1, none⟩ u1).setCell ⟨g, 2, none⟩ u2).setCell ⟨g, 3, none⟩ u3).setCell ⟨g, 4, none⟩ u4).setCell ⟨g, 5, none⟩ u5).setCell ⟨g, 6, none⟩ u6).setCell ⟨g, 7, none⟩ u7).setCell ⟨g, 8, none⟩ u8) := by
  have hn : ∀ i, (⟨g, i, none⟩ : Addr).block < w.heap.size → NoB (⟨g, i, none⟩ : Addr).block := fun i hl => by have : g < w.heap.size := hl; omega
  exact ((((((((h.setCell (hn 0) _).setCell (hn 1) _).setCell (hn 2) _).setCell (hn 3) _).setCell (hn 4) _).setCell (hn 5) _).setCell (hn 6) _).setCell (hn 7) _).setCell (hn 8) _

set_option maxRecDepth 100000 in
set_option maxHeartbeats 4000000 in
theorem rowOf_any (op : Int) (r : Row) (w : World) (hr : Hid (rowAt op = r)) :
    Calls Tryd.prog 41 #[.int .i64 op] w fun e w' => e = .returned (.tuple #[rowV r, .bool (isOp op)]) ∧ Keep NoB w w' := by
  have hK := (Keep.refl NoB w).alloc (.cells rowZ 68)
  cases ho : isOp op
  · have hb := isOp_no ho
    have hr0 := hr.out
    rw [rowAt_no ho] at hr0
    subst hr0
    clear ho hr
    by_cases h0 : op < 0
    · clear hb
      go_enter Tryd.func41, Tryd.ntmps41
      go_wp2
      exact bodyPost_ret (v := .tuple #[rowV row0, .bool false]) (by simp [results, Tryd.results41, go_sem, row0]) rfl ⟨rfl, hK⟩
    · have h0' : decide (op < 0) = false := by simpa using h0
      have h1 : 30 ≤ op := by omega
      clear hb
      go_enter Tryd.func41, Tryd.ntmps41
      go_wp2
      exact bodyPost_ret (v := .tuple #[rowV row0, .bool false]) (by simp [results, Tryd.results41, go_sem, row0]) rfl ⟨rfl, hK⟩
  · obtain ⟨h0, h1⟩ := isOp_yes ho
    have hix : ∀ w, (Instr.index 80 (.agg tableC) (.int .i64 op)).run Tryd.prog w = .ok (rowV r) w := fun w => by
      have := run_index_row op ho w
      rw [hr.out] at this
      exact this
    clear ho hr
    have h0' : decide (op < 0) = false := by simpa using h0
    have h1' : decide (30 ≤ op) = false := by simpa using h1
    go_enter Tryd.func41, Tryd.ntmps41
    go_wp2_with fail
    refine (table_any _).mono ?_
    rintro e w1 ⟨rfl, k1⟩
    have b1 := (Blk.new w 68 rowZ).keep k1 id
    have f0 := fun i => b1.frozen i
    obtain ⟨c0, c1, c2, c3, c4, c5, c6, c7, c8⟩ := blk9 b1
    have hz := b1.lt
    go_wp2
    exact bodyPost_ret (v := .tuple #[rowV r, .bool true]) (by simp [results, Tryd.results41, go_sem, c0, c1, c2, c3, c4, c5, c6, c7, c8]) rfl ⟨rfl, keep9 (keepN hK k1) (Nat.le_refl _) _ _ _ _ _ _ _ _ _⟩

set_option maxHeartbeats 1000000 in
theorem has_any (k n : Int) (v : Value) (w : World) (hv : ∃ sh gu, v = opV k sh gu) :
    Calls Tryd.prog 43 #[v, .int .i64 n] w fun e w' => e = .returned (.bool (inK k n)) ∧ Keep NoB w w' := by
  obtain ⟨sh, gu, rfl⟩ := hv
  unfold opV
  by_cases h1 : lo k ≤ n
  · by_cases h2 : n ≤ hi k
    · have HX : Hid (inK k n = true) := decide_eq_true ⟨h1, h2⟩
      go_enter Tryd.func43, Tryd.ntmps43
      go_wp2
      go_ret
      exact ⟨by rw [HX.out]; rfl, (Keep.refl NoB w).alloc _⟩
    · have HX : Hid (inK k n = false) := decide_eq_false fun h => h2 h.2
      have h2' : decide (n ≤ hi k) = false := by simpa using h2
      clear h2
      go_enter Tryd.func43, Tryd.ntmps43
      go_wp2
      go_ret
      exact ⟨by rw [HX.out]; rfl, (Keep.refl NoB w).alloc _⟩
  · have HX : Hid (inK k n = false) := decide_eq_false fun h => h1 h.1
    have h1' : decide (lo k ≤ n) = false := by simpa using h1
    clear h1
    go_enter Tryd.func43, Tryd.ntmps43
    go_wp2
    go_ret
    exact ⟨by rw [HX.out]; rfl, (Keep.refl NoB w).alloc _⟩

end Go.Proofs.YtonpplpfipfnfaaDoor.O

namespace Go.Proofs.YtonpplpfipfnfaaDoor.O
open Go.RowKit

/-- An instruction as a value. -/
abbrev instV (op a b : Int) : Value := .agg #[.int .i64 op, .int .i64 a, .int .i64 b]
/-- The row of an instruction, if that may be. -/
def rowR (op a b : Int) : Row := if okI op a b = true then rowAt op else row0
theorem rowR_ok {op a b : Int} (h : okI op a b = true) : rowR op a b = rowAt op := by unfold rowR; rw [if_pos h]
theorem rowR_no {op a b : Int} (h : okI op a b = false) : rowR op a b = row0 := by unfold rowR; rw [if_neg (by rw [h]; decide)]
theorem kinds_ok (op : Int) : 0 ≤ (rowAt op).ka ∧ (rowAt op).ka ≤ 10 ∧ 0 ≤ (rowAt op).kb ∧ (rowAt op).kb ≤ 10 := by
  have := rowAt_all (p := fun r => decide (0 ≤ r.ka ∧ r.ka ≤ 10 ∧ 0 ≤ r.kb ∧ r.kb ≤ 10)) (by decide) (by decide) op
  simpa using this

theorem has_gen (k n : Int) (v : Value) (t : Bool) (w : World) (ht : inK k n = t) (hv : ∃ sh gu, v = opV k sh gu) :
    Calls Tryd.prog 43 #[v, .int .i64 n] w fun e w' => e = .returned (.bool t) ∧ Keep NoB w w' := by
  subst ht; exact has_any k n v w hv
theorem op_gen (k : Int) (hk : 0 ≤ k ∧ k ≤ 10) (w : World) :
    Calls Tryd.prog 42 #[.int .i64 k] w fun e w' => ∃ u, e = .returned u ∧ (∃ sh gu, u = opV k sh gu) ∧ Keep NoB w w' :=
  (operandOf_any k hk w).mono fun _ _ ⟨sh, gu, he, _, hk⟩ => ⟨_, he, ⟨sh, gu, rfl⟩, hk⟩
abbrev cells9 (q : Row) : Array Value := #[.string (str q.name), .int .i64 q.ka, .int .i64 q.kb, .int .i64 q.ta, .int .i64 q.tb, .int .i64 q.la, .int .i64 q.lb, .bool q.hop, .bool q.fin]

/-- What rowFor answers. -/
def ForR (q : Row) (t : Bool) (w : World) (e : Ending) (w' : World) : Prop := e = .returned (.tuple #[rowV q, .bool t]) ∧ Keep NoB w w'

set_option maxRecDepth 100000 in
set_option maxHeartbeats 1000000 in
theorem rowFor_a (op a b : Int) (q : Row) (w : World) (HQ : Hid (rowAt op = q)) (HI : Hid (isOp op = false)) :
    Calls Tryd.prog 37 #[instV op a b] w (ForR row0 false w) := by
  go_enter Tryd.func37, Tryd.ntmps37
  go_wp2_with fail
  refine (rowOf_any op q _ HQ).mono ?_
  rw [HI.out]
  rintro e w1 ⟨rfl, k1⟩
  have bx := ((Blk.new w 24 #[.int .i64 op, .int .i64 a, .int .i64 b]).alloc (.cells rowZ 68)).keep k1 id
  have br := (Blk.new (w.alloc (.cells #[.int .i64 op, .int .i64 a, .int .i64 b] 24)) 68 rowZ).keep k1 id
  rw [World.size_alloc] at br
  have hK := keepN (((Keep.refl NoB w).alloc _).alloc _) k1
  have hz := br.lt
  go_wp2_with fail
  have b2 := Blk.new w1 68 #[.string (str q.name), .int .i64 q.ka, .int .i64 q.kb, .int .i64 q.ta, .int .i64 q.tb, .int .i64 q.la, .int .i64 q.lb, .bool q.hop, .bool q.fin]
  have bx2 := bx.alloc (.cells #[.string (str q.name), .int .i64 q.ka, .int .i64 q.kb, .int .i64 q.ta, .int .i64 q.tb, .int .i64 q.la, .int .i64 q.lb, .bool q.hop, .bool q.fin] 68)
  have br2 := br.alloc (.cells #[.string (str q.name), .int .i64 q.ka, .int .i64 q.kb, .int .i64 q.ta, .int .i64 q.tb, .int .i64 q.la, .int .i64 q.lb, .bool q.hop, .bool q.fin] 68)
  have hK2 := hK.alloc (.cells #[.string (str q.name), .int .i64 q.ka, .int .i64 q.kb, .int .i64 q.ta, .int .i64 q.tb, .int .i64 q.la, .int .i64 q.lb, .bool q.hop, .bool q.fin] 68)
  obtain ⟨w2, hw2⟩ : ∃ w2, w1.alloc (.cells #[.string (str q.name), .int .i64 q.ka, .int .i64 q.kb, .int .i64 q.ta, .int .i64 q.tb, .int .i64 q.la, .int .i64 q.lb, .bool q.hop, .bool q.fin] 68) = w2 := ⟨_, rfl⟩
  rw [hw2] at b2 bx2 br2 hK2
  have HW := Lib.hid hw2
  rw [hw2]
  clear hw2 bx br hK k1
  · refine wp_region_sh ((0, false) :: (1, false) :: (2, false) :: (3, false) :: (4, false) :: (5, false) :: (7, false) :: (8, false) :: (6, true) :: (9, false) :: (10, false) :: (11, false) :: (12, false) :: (13, false) :: (14, false) :: (15, false) :: (17, false) :: (18, false) :: (16, true) :: (19, false) :: (20, false) :: (21, false) :: []) (fun w' => Keep NoB w2 w') (by kernel_rfl) (by kernel_rfl) (by rfl) (by kernel_rfl) (stable_keep w2) (Keep.refl NoB w2).drew ?_
    refine shM_step rfl rfl rfl (by rfl) (by rfl) ?_
    apply Exists.intro
    refine ⟨fun n K hK => ?_, ?_, ?_⟩
    · go_big_quiet_op
      exact hK _ rfl
    · kernel_rfl
    refine shM_step rfl rfl rfl (by rfl) (by rfl) ?_
    apply Exists.intro
    refine ⟨fun n K hK => ?_, ?_, ?_⟩
    · go_big_quiet_op
      exact hK _ rfl
    · kernel_rfl
    refine shM_step rfl rfl rfl (by rfl) (by rfl) ?_
    apply Exists.intro
    refine ⟨fun n K hK => ?_, ?_, ?_⟩
    · go_big_quiet_op
      exact hK _ rfl
    · kernel_rfl
    refine shM_skip rfl (by kernel_rfl) (by kernel_rfl) ?_
    refine shM_skip rfl (by kernel_rfl) (by kernel_rfl) ?_
    refine shM_skip rfl (by kernel_rfl) (by kernel_rfl) ?_
    refine shM_skip rfl (by kernel_rfl) (by kernel_rfl) ?_
    refine shM_skip rfl (by kernel_rfl) (by kernel_rfl) ?_
    refine shM_skip rfl (by kernel_rfl) (by kernel_rfl) ?_
    refine shM_skip rfl (by kernel_rfl) (by kernel_rfl) ?_
    refine shM_skip rfl (by kernel_rfl) (by kernel_rfl) ?_
    refine shM_step rfl rfl rfl (by rfl) (by rfl) ?_
    apply Exists.intro
    refine ⟨fun n K hK => ?_, ?_, ?_⟩
    · go_big_quiet_op
      exact hK _ rfl
    · kernel_rfl
    refine shM_step rfl rfl rfl (by rfl) (by rfl) ?_
    apply Exists.intro
    refine ⟨fun n K hK => ?_, ?_, ?_⟩
    · go_big_quiet_op
      exact hK _ rfl
    · kernel_rfl
    refine shM_skip rfl (by kernel_rfl) (by kernel_rfl) ?_
    refine shM_skip rfl (by kernel_rfl) (by kernel_rfl) ?_
    refine shM_skip rfl (by kernel_rfl) (by kernel_rfl) ?_
    refine shM_skip rfl (by kernel_rfl) (by kernel_rfl) ?_
    refine shM_skip rfl (by kernel_rfl) (by kernel_rfl) ?_
    refine shM_skip rfl (by kernel_rfl) (by kernel_rfl) ?_
    refine shM_skip rfl (by kernel_rfl) (by kernel_rfl) ?_
    refine shM_skip rfl (by kernel_rfl) (by kernel_rfl) ?_
    refine shM_step rfl rfl rfl (by rfl) (by rfl) ?_
    apply Exists.intro
    refine ⟨fun n K hK => ?_, ?_, ?_⟩
    · go_big_quiet_op
      exact hK _ rfl
    · kernel_rfl
    refine shM_nil (fun n => ?_)
    have k3 := n.has
    generalize n.w = w3 at k3 ⊢
    have b3 := b2.keep k3 id
    have br3 := br2.keep k3 id
    have hK3 := keepN hK2 k3
    have f0 := fun i => br3.frozen i
    obtain ⟨c0, c1, c2, c3, c4, c5, c6, c7, c8⟩ := blk9 br3
    have hz3 := br3.lt
    clear k3 b2 br2 hK2 bx2
    go_wp2
    exact bodyPost_ret (v := .tuple #[rowV row0, .bool false]) (by simp [results, Tryd.results37, go_sem, c0, c1, c2, c3, c4, c5, c6, c7, c8, row0]) rfl ⟨rfl, keep9 hK3 (Nat.le_succ _) _ _ _ _ _ _ _ _ _⟩

set_option maxRecDepth 100000 in
set_option maxHeartbeats 1000000 in
theorem rowFor_b (op a b : Int) (q : Row) (w : World) (HQ : Hid (rowAt op = q)) (HI : Hid (isOp op = true)) (HA : Hid (inK q.ka a = false)) (hka : 0 ≤ q.ka ∧ q.ka ≤ 10) :
    Calls Tryd.prog 37 #[instV op a b] w (ForR row0 false w) := by
  go_enter Tryd.func37, Tryd.ntmps37
  go_wp2_with fail
  refine (rowOf_any op q _ HQ).mono ?_
  rw [HI.out]
  rintro e w1 ⟨rfl, k1⟩
  have bx := ((Blk.new w 24 #[.int .i64 op, .int .i64 a, .int .i64 b]).alloc (.cells rowZ 68)).keep k1 id
  have br := (Blk.new (w.alloc (.cells #[.int .i64 op, .int .i64 a, .int .i64 b] 24)) 68 rowZ).keep k1 id
  rw [World.size_alloc] at br
  have hK := keepN (((Keep.refl NoB w).alloc _).alloc _) k1
  have hz := br.lt
  go_wp2_with fail
  have b2 := Blk.new w1 68 #[.string (str q.name), .int .i64 q.ka, .int .i64 q.kb, .int .i64 q.ta, .int .i64 q.tb, .int .i64 q.la, .int .i64 q.lb, .bool q.hop, .bool q.fin]
  have bx2 := bx.alloc (.cells #[.string (str q.name), .int .i64 q.ka, .int .i64 q.kb, .int .i64 q.ta, .int .i64 q.tb, .int .i64 q.la, .int .i64 q.lb, .bool q.hop, .bool q.fin] 68)
  have br2 := br.alloc (.cells #[.string (str q.name), .int .i64 q.ka, .int .i64 q.kb, .int .i64 q.ta, .int .i64 q.tb, .int .i64 q.la, .int .i64 q.lb, .bool q.hop, .bool q.fin] 68)
  have hK2 := hK.alloc (.cells #[.string (str q.name), .int .i64 q.ka, .int .i64 q.kb, .int .i64 q.ta, .int .i64 q.tb, .int .i64 q.la, .int .i64 q.lb, .bool q.hop, .bool q.fin] 68)
  obtain ⟨w2, hw2⟩ : ∃ w2, w1.alloc (.cells #[.string (str q.name), .int .i64 q.ka, .int .i64 q.kb, .int .i64 q.ta, .int .i64 q.tb, .int .i64 q.la, .int .i64 q.lb, .bool q.hop, .bool q.fin] 68) = w2 := ⟨_, rfl⟩
  rw [hw2] at b2 bx2 br2 hK2
  have HW := Lib.hid hw2
  rw [hw2]
  clear hw2 bx br hK k1
  · refine wp_region_sh ((0, false) :: (1, false) :: (2, false) :: (3, false) :: (4, false) :: (5, false) :: (7, false) :: (8, false) :: (6, true) :: (9, false) :: (10, false) :: (11, false) :: (12, false) :: (13, false) :: (14, false) :: (15, false) :: (17, false) :: (18, false) :: (16, true) :: (19, false) :: (20, false) :: (21, false) :: []) (fun w' => Keep NoB w2 w') (by kernel_rfl) (by kernel_rfl) (by rfl) (by kernel_rfl) (stable_keep w2) (Keep.refl NoB w2).drew ?_
    refine shM_step rfl rfl rfl (by rfl) (by rfl) ?_
    apply Exists.intro
    refine ⟨fun n K hK => ?_, ?_, ?_⟩
    · go_big_quiet_op
      exact hK _ rfl
    · kernel_rfl
    refine shM_step rfl rfl rfl (by rfl) (by rfl) ?_
    apply Exists.intro
    refine ⟨fun n K hK => ?_, ?_, ?_⟩
    · go_big_quiet_op
      exact hK _ rfl
    · kernel_rfl
    refine shM_step rfl rfl rfl (by rfl) (by rfl) ?_
    apply Exists.intro
    refine ⟨fun n K hK => ?_, ?_, ?_⟩
    · go_big_quiet_op
      exact hK _ rfl
    · kernel_rfl
    refine shM_step rfl rfl rfl (by rfl) (by rfl) ?_
    apply Exists.intro
    refine ⟨fun n K hK => ?_, ?_, ?_⟩
    · go_big_quiet_op
      exact hK _ rfl
    · kernel_rfl
    refine shM_step rfl rfl rfl (by rfl) (by rfl) ?_
    apply Exists.intro
    refine ⟨fun n K hK => ?_, ?_, ?_⟩
    · go_big_quiet_op
      exact hK _ rfl
    · kernel_rfl
    refine shM_step rfl rfl rfl (by rfl) (by rfl) ?_
    apply Exists.intro
    refine ⟨fun n K hK => ?_, ?_, ?_⟩
    · have q1 : ∀ m : KW n.w, m.w.cell? ⟨w1.heap.size, 1, none⟩ = some (.int .i64 q.ka) := fun m => (b2.keep (keepN n.has m.keep) id).cell 1
      go_big_quiet_op
      exact hK _ rfl
    · kernel_rfl
    refine shM_step rfl rfl rfl (by rfl) (by rfl) ?_
    apply Exists.intro
    refine ⟨fun n K hK => ?_, ?_, ?_⟩
    · go_big_quiet_op
      exact hK _ rfl
    · kernel_rfl
    refine shM_step rfl rfl rfl (by rfl) (by rfl) ?_
    apply Exists.intro
    refine ⟨fun n K hK => ?_, ?_, ?_⟩
    · have x1 : ∀ m : KW n.w, m.w.cell? ⟨w.heap.size, 1, none⟩ = some (.int .i64 a) := fun m => (bx2.keep (keepN n.has m.keep) id).cell 1
      go_big_quiet_op
      exact hK _ rfl
    · kernel_rfl
    refine shM_gen rfl rfl (by kernel_rfl) (fun v _ => ∃ sh gu, v = opV q.ka sh gu) (fun v w w' h _ => h) (fun n => ?_) (fun v1 => ?_)
    · unfold yieldsK
      go_simp
      exact op_gen q.ka hka _
    simp only [Act.put, List.setIfInBounds_toArray, List.set_cons_zero, List.set_cons_succ]
    refine shM_step rfl rfl rfl (by rfl) (by rfl) ?_
    apply Exists.intro
    refine ⟨fun n K hK => ?_, ?_, ?_⟩
    · go_big_quiet_op
      apply Exists.intro
      refine ⟨fun m => ?_, ?_⟩
      · go_at_call 43
        exact kept_of (has_gen q.ka a v1 false _ HA.out n.has.2)
      · exact hK _ rfl
    · kernel_rfl
    refine shM_step rfl rfl rfl (by rfl) (by rfl) ?_
    apply Exists.intro
    refine ⟨fun n K hK => ?_, ?_, ?_⟩
    · go_big_quiet_op
      exact hK _ rfl
    · kernel_rfl
    refine shM_step rfl rfl rfl (by rfl) (by rfl) ?_
    apply Exists.intro
    refine ⟨fun n K hK => ?_, ?_, ?_⟩
    · go_big_quiet_op
      exact hK _ rfl
    · kernel_rfl
    refine shM_step rfl rfl rfl (by rfl) (by rfl) ?_
    apply Exists.intro
    refine ⟨fun n K hK => ?_, ?_, ?_⟩
    · go_big_quiet_op
      exact hK _ rfl
    · kernel_rfl
    refine shM_skip rfl (by kernel_rfl) (by kernel_rfl) ?_
    refine shM_skip rfl (by kernel_rfl) (by kernel_rfl) ?_
    refine shM_skip rfl (by kernel_rfl) (by kernel_rfl) ?_
    refine shM_skip rfl (by kernel_rfl) (by kernel_rfl) ?_
    refine shM_skip rfl (by kernel_rfl) (by kernel_rfl) ?_
    refine shM_skip rfl (by kernel_rfl) (by kernel_rfl) ?_
    refine shM_skip rfl (by kernel_rfl) (by kernel_rfl) ?_
    refine shM_skip rfl (by kernel_rfl) (by kernel_rfl) ?_
    refine shM_step rfl rfl rfl (by rfl) (by rfl) ?_
    apply Exists.intro
    refine ⟨fun n K hK => ?_, ?_, ?_⟩
    · go_big_quiet_op
      exact hK _ rfl
    · kernel_rfl
    refine shM_nil (fun n => ?_)
    have k3 := n.has.1
    generalize n.w = w3 at k3 ⊢
    have b3 := b2.keep k3 id
    have br3 := br2.keep k3 id
    have hK3 := keepN hK2 k3
    have f0 := fun i => br3.frozen i
    obtain ⟨c0, c1, c2, c3, c4, c5, c6, c7, c8⟩ := blk9 br3
    have hz3 := br3.lt
    clear k3 b2 br2 hK2 bx2
    go_wp2
    exact bodyPost_ret (v := .tuple #[rowV row0, .bool false]) (by simp [results, Tryd.results37, go_sem, c0, c1, c2, c3, c4, c5, c6, c7, c8, row0]) rfl ⟨rfl, keep9 hK3 (Nat.le_succ _) _ _ _ _ _ _ _ _ _⟩

set_option maxRecDepth 100000 in
set_option maxHeartbeats 1000000 in
theorem rowFor_c (op a b : Int) (q : Row) (w : World) (HQ : Hid (rowAt op = q)) (HI : Hid (isOp op = true)) (HA : Hid (inK q.ka a = true)) (HB : Hid (inK q.kb b = false)) (hka : 0 ≤ q.ka ∧ q.ka ≤ 10) (hkb : 0 ≤ q.kb ∧ q.kb ≤ 10) :
    Calls Tryd.prog 37 #[instV op a b] w (ForR row0 false w) := by
  go_enter Tryd.func37, Tryd.ntmps37
  go_wp2_with fail
  refine (rowOf_any op q _ HQ).mono ?_
  rw [HI.out]
  rintro e w1 ⟨rfl, k1⟩
  have bx := ((Blk.new w 24 #[.int .i64 op, .int .i64 a, .int .i64 b]).alloc (.cells rowZ 68)).keep k1 id
  have br := (Blk.new (w.alloc (.cells #[.int .i64 op, .int .i64 a, .int .i64 b] 24)) 68 rowZ).keep k1 id
  rw [World.size_alloc] at br
  have hK := keepN (((Keep.refl NoB w).alloc _).alloc _) k1
  have hz := br.lt
  go_wp2_with fail
  have b2 := Blk.new w1 68 #[.string (str q.name), .int .i64 q.ka, .int .i64 q.kb, .int .i64 q.ta, .int .i64 q.tb, .int .i64 q.la, .int .i64 q.lb, .bool q.hop, .bool q.fin]
  have bx2 := bx.alloc (.cells #[.string (str q.name), .int .i64 q.ka, .int .i64 q.kb, .int .i64 q.ta, .int .i64 q.tb, .int .i64 q.la, .int .i64 q.lb, .bool q.hop, .bool q.fin] 68)
  have br2 := br.alloc (.cells #[.string (str q.name), .int .i64 q.ka, .int .i64 q.kb, .int .i64 q.ta, .int .i64 q.tb, .int .i64 q.la, .int .i64 q.lb, .bool q.hop, .bool q.fin] 68)
  have hK2 := hK.alloc (.cells #[.string (str q.name), .int .i64 q.ka, .int .i64 q.kb, .int .i64 q.ta, .int .i64 q.tb, .int .i64 q.la, .int .i64 q.lb, .bool q.hop, .bool q.fin] 68)
  obtain ⟨w2, hw2⟩ : ∃ w2, w1.alloc (.cells #[.string (str q.name), .int .i64 q.ka, .int .i64 q.kb, .int .i64 q.ta, .int .i64 q.tb, .int .i64 q.la, .int .i64 q.lb, .bool q.hop, .bool q.fin] 68) = w2 := ⟨_, rfl⟩
  rw [hw2] at b2 bx2 br2 hK2
  have HW := Lib.hid hw2
  rw [hw2]
  clear hw2 bx br hK k1
  · refine wp_region_sh ((0, false) :: (1, false) :: (2, false) :: (3, false) :: (4, false) :: (5, false) :: (7, false) :: (8, false) :: (6, true) :: (9, false) :: (10, false) :: (11, false) :: (12, false) :: (13, false) :: (14, false) :: (15, false) :: (17, false) :: (18, false) :: (16, true) :: (19, false) :: (20, false) :: (21, false) :: []) (fun w' => Keep NoB w2 w') (by kernel_rfl) (by kernel_rfl) (by rfl) (by kernel_rfl) (stable_keep w2) (Keep.refl NoB w2).drew ?_
    refine shM_step rfl rfl rfl (by rfl) (by rfl) ?_
    apply Exists.intro
    refine ⟨fun n K hK => ?_, ?_, ?_⟩
    · go_big_quiet_op
      exact hK _ rfl
    · kernel_rfl
    refine shM_step rfl rfl rfl (by rfl) (by rfl) ?_
    apply Exists.intro
    refine ⟨fun n K hK => ?_, ?_, ?_⟩
    · go_big_quiet_op
      exact hK _ rfl
    · kernel_rfl
    refine shM_step rfl rfl rfl (by rfl) (by rfl) ?_
    apply Exists.intro
    refine ⟨fun n K hK => ?_, ?_, ?_⟩
    · go_big_quiet_op
      exact hK _ rfl
    · kernel_rfl
    refine shM_step rfl rfl rfl (by rfl) (by rfl) ?_
    apply Exists.intro
    refine ⟨fun n K hK => ?_, ?_, ?_⟩
    · go_big_quiet_op
      exact hK _ rfl
    · kernel_rfl
    refine shM_step rfl rfl rfl (by rfl) (by rfl) ?_
    apply Exists.intro
    refine ⟨fun n K hK => ?_, ?_, ?_⟩
    · go_big_quiet_op
      exact hK _ rfl
    · kernel_rfl
    refine shM_step rfl rfl rfl (by rfl) (by rfl) ?_
    apply Exists.intro
    refine ⟨fun n K hK => ?_, ?_, ?_⟩
    · have q1 : ∀ m : KW n.w, m.w.cell? ⟨w1.heap.size, 1, none⟩ = some (.int .i64 q.ka) := fun m => (b2.keep (keepN n.has m.keep) id).cell 1
      go_big_quiet_op
      exact hK _ rfl
    · kernel_rfl
    refine shM_step rfl rfl rfl (by rfl) (by rfl) ?_
    apply Exists.intro
    refine ⟨fun n K hK => ?_, ?_, ?_⟩
    · go_big_quiet_op
      exact hK _ rfl
    · kernel_rfl
    refine shM_step rfl rfl rfl (by rfl) (by rfl) ?_
    apply Exists.intro
    refine ⟨fun n K hK => ?_, ?_, ?_⟩
    · have x1 : ∀ m : KW n.w, m.w.cell? ⟨w.heap.size, 1, none⟩ = some (.int .i64 a) := fun m => (bx2.keep (keepN n.has m.keep) id).cell 1
      go_big_quiet_op
      exact hK _ rfl
    · kernel_rfl
    refine shM_gen rfl rfl (by kernel_rfl) (fun v _ => ∃ sh gu, v = opV q.ka sh gu) (fun v w w' h _ => h) (fun n => ?_) (fun v1 => ?_)
    · unfold yieldsK
      go_simp
      exact op_gen q.ka hka _
    simp only [Act.put, List.setIfInBounds_toArray, List.set_cons_zero, List.set_cons_succ]
    refine shM_step rfl rfl rfl (by rfl) (by rfl) ?_
    apply Exists.intro
    refine ⟨fun n K hK => ?_, ?_, ?_⟩
    · go_big_quiet_op
      apply Exists.intro
      refine ⟨fun m => ?_, ?_⟩
      · go_at_call 43
        exact kept_of (has_gen q.ka a v1 true _ HA.out n.has.2)
      · exact hK _ rfl
    · kernel_rfl
    refine shM_step rfl rfl rfl (by rfl) (by rfl) ?_
    apply Exists.intro
    refine ⟨fun n K hK => ?_, ?_, ?_⟩
    · go_big_quiet_op
      exact hK _ rfl
    · kernel_rfl
    refine shM_step rfl rfl rfl (by rfl) (by rfl) ?_
    apply Exists.intro
    refine ⟨fun n K hK => ?_, ?_, ?_⟩
    · go_big_quiet_op
      exact hK _ rfl
    · kernel_rfl
    refine shM_step rfl rfl rfl (by rfl) (by rfl) ?_
    apply Exists.intro
    refine ⟨fun n K hK => ?_, ?_, ?_⟩
    · go_big_quiet_op
      exact hK _ rfl
    · kernel_rfl
    refine shM_step rfl rfl rfl (by rfl) (by rfl) ?_
    apply Exists.intro
    refine ⟨fun n K hK => ?_, ?_, ?_⟩
    · go_big_quiet_op
      exact hK _ rfl
    · kernel_rfl
    refine shM_step rfl rfl rfl (by rfl) (by rfl) ?_
    apply Exists.intro
    refine ⟨fun n K hK => ?_, ?_, ?_⟩
    · go_big_quiet_op
      exact hK _ rfl
    · kernel_rfl
    refine shM_step rfl rfl rfl (by rfl) (by rfl) ?_
    apply Exists.intro
    refine ⟨fun n K hK => ?_, ?_, ?_⟩
    · have q1 : ∀ m : KW n.w, m.w.cell? ⟨w1.heap.size, 2, none⟩ = some (.int .i64 q.kb) := fun m => (b2.keep (keepN n.has.1 m.keep) id).cell 2
      go_big_quiet_op
      exact hK _ rfl
    · kernel_rfl
    refine shM_step rfl rfl rfl (by rfl) (by rfl) ?_
    apply Exists.intro
    refine ⟨fun n K hK => ?_, ?_, ?_⟩
    · go_big_quiet_op
      exact hK _ rfl
    · kernel_rfl
    refine shM_step rfl rfl rfl (by rfl) (by rfl) ?_
    apply Exists.intro
    refine ⟨fun n K hK => ?_, ?_, ?_⟩
    · have x1 : ∀ m : KW n.w, m.w.cell? ⟨w.heap.size, 2, none⟩ = some (.int .i64 b) := fun m => (bx2.keep (keepN n.has.1 m.keep) id).cell 2
      go_big_quiet_op
      exact hK _ rfl
    · kernel_rfl
    refine shM_gen rfl rfl (by kernel_rfl) (fun v _ => ∃ sh gu, v = opV q.kb sh gu) (fun v w w' h _ => h) (fun n => ?_) (fun v2 => ?_)
    · unfold yieldsK
      go_simp
      exact op_gen q.kb hkb _
    simp only [Act.put, List.setIfInBounds_toArray, List.set_cons_zero, List.set_cons_succ]
    refine shM_step rfl rfl rfl (by rfl) (by rfl) ?_
    apply Exists.intro
    refine ⟨fun n K hK => ?_, ?_, ?_⟩
    · go_big_quiet_op
      apply Exists.intro
      refine ⟨fun m => ?_, ?_⟩
      · go_at_call 43
        exact kept_of (has_gen q.kb b v2 false _ HB.out n.has.2)
      · exact hK _ rfl
    · kernel_rfl
    refine shM_step rfl rfl rfl (by rfl) (by rfl) ?_
    apply Exists.intro
    refine ⟨fun n K hK => ?_, ?_, ?_⟩
    · go_big_quiet_op
      exact hK _ rfl
    · kernel_rfl
    refine shM_step rfl rfl rfl (by rfl) (by rfl) ?_
    apply Exists.intro
    refine ⟨fun n K hK => ?_, ?_, ?_⟩
    · go_big_quiet_op
      exact hK _ rfl
    · kernel_rfl
    refine shM_nil (fun n => ?_)
    have k3 := n.has.1.1
    generalize n.w = w3 at k3 ⊢
    have b3 := b2.keep k3 id
    have br3 := br2.keep k3 id
    have hK3 := keepN hK2 k3
    have f0 := fun i => br3.frozen i
    obtain ⟨c0, c1, c2, c3, c4, c5, c6, c7, c8⟩ := blk9 br3
    have hz3 := br3.lt
    clear k3 b2 br2 hK2 bx2
    go_wp2
    exact bodyPost_ret (v := .tuple #[rowV row0, .bool false]) (by simp [results, Tryd.results37, go_sem, c0, c1, c2, c3, c4, c5, c6, c7, c8, row0]) rfl ⟨rfl, keep9 hK3 (Nat.le_succ _) _ _ _ _ _ _ _ _ _⟩

set_option maxRecDepth 100000 in
set_option maxHeartbeats 1000000 in
theorem rowFor_d (op a b : Int) (q : Row) (w : World) (HQ : Hid (rowAt op = q)) (HI : Hid (isOp op = true)) (HA : Hid (inK q.ka a = true)) (HB : Hid (inK q.kb b = true)) (hka : 0 ≤ q.ka ∧ q.ka ≤ 10) (hkb : 0 ≤ q.kb ∧ q.kb ≤ 10) :
    Calls Tryd.prog 37 #[instV op a b] w (ForR q true w) := by
  go_enter Tryd.func37, Tryd.ntmps37
  go_wp2_with fail
  refine (rowOf_any op q _ HQ).mono ?_
  rw [HI.out]
  rintro e w1 ⟨rfl, k1⟩
  have bx := ((Blk.new w 24 #[.int .i64 op, .int .i64 a, .int .i64 b]).alloc (.cells rowZ 68)).keep k1 id
  have br := (Blk.new (w.alloc (.cells #[.int .i64 op, .int .i64 a, .int .i64 b] 24)) 68 rowZ).keep k1 id
  rw [World.size_alloc] at br
  have hK := keepN (((Keep.refl NoB w).alloc _).alloc _) k1
  have hz := br.lt
  go_wp2_with fail
  have b2 := Blk.new w1 68 #[.string (str q.name), .int .i64 q.ka, .int .i64 q.kb, .int .i64 q.ta, .int .i64 q.tb, .int .i64 q.la, .int .i64 q.lb, .bool q.hop, .bool q.fin]
  have bx2 := bx.alloc (.cells #[.string (str q.name), .int .i64 q.ka, .int .i64 q.kb, .int .i64 q.ta, .int .i64 q.tb, .int .i64 q.la, .int .i64 q.lb, .bool q.hop, .bool q.fin] 68)
  have br2 := br.alloc (.cells #[.string (str q.name), .int .i64 q.ka, .int .i64 q.kb, .int .i64 q.ta, .int .i64 q.tb, .int .i64 q.la, .int .i64 q.lb, .bool q.hop, .bool q.fin] 68)
  have hK2 := hK.alloc (.cells #[.string (str q.name), .int .i64 q.ka, .int .i64 q.kb, .int .i64 q.ta, .int .i64 q.tb, .int .i64 q.la, .int .i64 q.lb, .bool q.hop, .bool q.fin] 68)
  obtain ⟨w2, hw2⟩ : ∃ w2, w1.alloc (.cells #[.string (str q.name), .int .i64 q.ka, .int .i64 q.kb, .int .i64 q.ta, .int .i64 q.tb, .int .i64 q.la, .int .i64 q.lb, .bool q.hop, .bool q.fin] 68) = w2 := ⟨_, rfl⟩
  rw [hw2] at b2 bx2 br2 hK2
  have HW := Lib.hid hw2
  rw [hw2]
  clear hw2 bx br hK k1
  · refine wp_region_sh ((0, false) :: (1, false) :: (2, false) :: (3, false) :: (4, false) :: (5, false) :: (7, false) :: (8, false) :: (6, true) :: (9, false) :: (10, false) :: (11, false) :: (12, false) :: (13, false) :: (14, false) :: (15, false) :: (17, false) :: (18, false) :: (16, true) :: (19, false) :: (20, false) :: (21, false) :: []) (fun w' => Keep NoB w2 w') (by kernel_rfl) (by kernel_rfl) (by rfl) (by kernel_rfl) (stable_keep w2) (Keep.refl NoB w2).drew ?_
    refine shM_step rfl rfl rfl (by rfl) (by rfl) ?_
    apply Exists.intro
    refine ⟨fun n K hK => ?_, ?_, ?_⟩
    · go_big_quiet_op
      exact hK _ rfl
    · kernel_rfl
    refine shM_step rfl rfl rfl (by rfl) (by rfl) ?_
    apply Exists.intro
    refine ⟨fun n K hK => ?_, ?_, ?_⟩
    · go_big_quiet_op
      exact hK _ rfl
    · kernel_rfl
    refine shM_step rfl rfl rfl (by rfl) (by rfl) ?_
    apply Exists.intro
    refine ⟨fun n K hK => ?_, ?_, ?_⟩
    · go_big_quiet_op
      exact hK _ rfl
    · kernel_rfl
    refine shM_step rfl rfl rfl (by rfl) (by rfl) ?_
    apply Exists.intro
    refine ⟨fun n K hK => ?_, ?_, ?_⟩
    · go_big_quiet_op
      exact hK _ rfl
    · kernel_rfl
    refine shM_step rfl rfl rfl (by rfl) (by rfl) ?_
    apply Exists.intro
    refine ⟨fun n K hK => ?_, ?_, ?_⟩
    · go_big_quiet_op
      exact hK _ rfl
    · kernel_rfl
    refine shM_step rfl rfl rfl (by rfl) (by rfl) ?_
    apply Exists.intro
    refine ⟨fun n K hK => ?_, ?_, ?_⟩
    · have q1 : ∀ m : KW n.w, m.w.cell? ⟨w1.heap.size, 1, none⟩ = some (.int .i64 q.ka) := fun m => (b2.keep (keepN n.has m.keep) id).cell 1
      go_big_quiet_op
      exact hK _ rfl
    · kernel_rfl
    refine shM_step rfl rfl rfl (by rfl) (by rfl) ?_
    apply Exists.intro
    refine ⟨fun n K hK => ?_, ?_, ?_⟩
    · go_big_quiet_op
      exact hK _ rfl
    · kernel_rfl
    refine shM_step rfl rfl rfl (by rfl) (by rfl) ?_
    apply Exists.intro
    refine ⟨fun n K hK => ?_, ?_, ?_⟩
    · have x1 : ∀ m : KW n.w, m.w.cell? ⟨w.heap.size, 1, none⟩ = some (.int .i64 a) := fun m => (bx2.keep (keepN n.has m.keep) id).cell 1
      go_big_quiet_op
      exact hK _ rfl
    · kernel_rfl
    refine shM_gen rfl rfl (by kernel_rfl) (fun v _ => ∃ sh gu, v = opV q.ka sh gu) (fun v w w' h _ => h) (fun n => ?_) (fun v1 => ?_)
    · unfold yieldsK
      go_simp
      exact op_gen q.ka hka _
    simp only [Act.put, List.setIfInBounds_toArray, List.set_cons_zero, List.set_cons_succ]
    refine shM_step rfl rfl rfl (by rfl) (by rfl) ?_
    apply Exists.intro
    refine ⟨fun n K hK => ?_, ?_, ?_⟩
    · go_big_quiet_op
      apply Exists.intro
      refine ⟨fun m => ?_, ?_⟩
      · go_at_call 43
        exact kept_of (has_gen q.ka a v1 true _ HA.out n.has.2)
      · exact hK _ rfl
    · kernel_rfl
    refine shM_step rfl rfl rfl (by rfl) (by rfl) ?_
    apply Exists.intro
    refine ⟨fun n K hK => ?_, ?_, ?_⟩
    · go_big_quiet_op
      exact hK _ rfl
    · kernel_rfl
    refine shM_step rfl rfl rfl (by rfl) (by rfl) ?_
    apply Exists.intro
    refine ⟨fun n K hK => ?_, ?_, ?_⟩
    · go_big_quiet_op
      exact hK _ rfl
    · kernel_rfl
    refine shM_step rfl rfl rfl (by rfl) (by rfl) ?_
    apply Exists.intro
    refine ⟨fun n K hK => ?_, ?_, ?_⟩
    · go_big_quiet_op
      exact hK _ rfl
    · kernel_rfl
    refine shM_step rfl rfl rfl (by rfl) (by rfl) ?_
    apply Exists.intro
    refine ⟨fun n K hK => ?_, ?_, ?_⟩
    · go_big_quiet_op
      exact hK _ rfl
    · kernel_rfl
    refine shM_step rfl rfl rfl (by rfl) (by rfl) ?_
    apply Exists.intro
    refine ⟨fun n K hK => ?_, ?_, ?_⟩
    · go_big_quiet_op
      exact hK _ rfl
    · kernel_rfl
    refine shM_step rfl rfl rfl (by rfl) (by rfl) ?_
    apply Exists.intro
    refine ⟨fun n K hK => ?_, ?_, ?_⟩
    · have q1 : ∀ m : KW n.w, m.w.cell? ⟨w1.heap.size, 2, none⟩ = some (.int .i64 q.kb) := fun m => (b2.keep (keepN n.has.1 m.keep) id).cell 2
      go_big_quiet_op
      exact hK _ rfl
    · kernel_rfl
    refine shM_step rfl rfl rfl (by rfl) (by rfl) ?_
    apply Exists.intro
    refine ⟨fun n K hK => ?_, ?_, ?_⟩
    · go_big_quiet_op
      exact hK _ rfl
    · kernel_rfl
    refine shM_step rfl rfl rfl (by rfl) (by rfl) ?_
    apply Exists.intro
    refine ⟨fun n K hK => ?_, ?_, ?_⟩
    · have x1 : ∀ m : KW n.w, m.w.cell? ⟨w.heap.size, 2, none⟩ = some (.int .i64 b) := fun m => (bx2.keep (keepN n.has.1 m.keep) id).cell 2
      go_big_quiet_op
      exact hK _ rfl
    · kernel_rfl
    refine shM_gen rfl rfl (by kernel_rfl) (fun v _ => ∃ sh gu, v = opV q.kb sh gu) (fun v w w' h _ => h) (fun n => ?_) (fun v2 => ?_)
    · unfold yieldsK
      go_simp
      exact op_gen q.kb hkb _
    simp only [Act.put, List.setIfInBounds_toArray, List.set_cons_zero, List.set_cons_succ]
    refine shM_step rfl rfl rfl (by rfl) (by rfl) ?_
    apply Exists.intro
    refine ⟨fun n K hK => ?_, ?_, ?_⟩
    · go_big_quiet_op
      apply Exists.intro
      refine ⟨fun m => ?_, ?_⟩
      · go_at_call 43
        exact kept_of (has_gen q.kb b v2 true _ HB.out n.has.2)
      · exact hK _ rfl
    · kernel_rfl
    refine shM_step rfl rfl rfl (by rfl) (by rfl) ?_
    apply Exists.intro
    refine ⟨fun n K hK => ?_, ?_, ?_⟩
    · go_big_quiet_op
      exact hK _ rfl
    · kernel_rfl
    refine shM_step rfl rfl rfl (by rfl) (by rfl) ?_
    apply Exists.intro
    refine ⟨fun n K hK => ?_, ?_, ?_⟩
    · go_big_quiet_op
      exact hK _ rfl
    · kernel_rfl
    refine shM_nil (fun n => ?_)
    have k3 := n.has.1.1
    generalize n.w = w3 at k3 ⊢
    have b3 := b2.keep k3 id
    have br3 := br2.keep k3 id
    have hK3 := keepN hK2 k3
    have f0 := fun i => br3.frozen i
    obtain ⟨c0, c1, c2, c3, c4, c5, c6, c7, c8⟩ := blk9 br3
    obtain ⟨d0, d1, d2, d3, d4, d5, d6, d7, d8⟩ := blk9 b3
    have hz3 := br3.lt
    clear k3 b2 br2 hK2 bx2
    go_wp2
    exact bodyPost_ret (v := .tuple #[rowV q, .bool true]) (by simp [results, Tryd.results37, go_sem, c0, c1, c2, c3, c4, c5, c6, c7, c8]) rfl ⟨rfl, keep9 hK3 (Nat.le_succ _) _ _ _ _ _ _ _ _ _⟩

theorem rowFor_any (op a b : Int) (r : Row) (w : World) (hr : Hid (rowR op a b = r)) : Calls Tryd.prog 37 #[instV op a b] w (ForR r (okI op a b) w) := by
  obtain ⟨h1, h2, h3, h4⟩ := kinds_ok op
  have hr := hr.out
  subst hr
  cases ho : isOp op
  · have hok : okI op a b = false := by unfold okI; rw [ho]; rfl
    rw [rowR_no hok, hok]
    exact rowFor_a op a b _ w rfl ho
  · cases ha : inK (rowAt op).ka a
    · have hok : okI op a b = false := by unfold okI; rw [ho, ha]; rfl
      rw [rowR_no hok, hok]
      exact rowFor_b op a b _ w rfl ho ha ⟨h1, h2⟩
    · cases hb : inK (rowAt op).kb b
      · have hok : okI op a b = false := by unfold okI; rw [ho, ha, hb]; rfl
        rw [rowR_no hok, hok]
        exact rowFor_c op a b _ w rfl ho ha hb ⟨h1, h2⟩ ⟨h3, h4⟩
      · have hok : okI op a b = true := by unfold okI; rw [ho, ha, hb]; rfl
        rw [rowR_ok hok, hok]
        exact rowFor_d op a b _ w rfl ho ha hb ⟨h1, h2⟩ ⟨h3, h4⟩

end Go.Proofs.YtonpplpfipfnfaaDoor.O

namespace Go.Proofs.YtonpplpfipfnfaaDoor.O
open Go.RowKit

def chk (op a b : Int) : Int := if okI op a b = true then 0 else 40
def endsI (op a b : Int) : Bool := (rowR op a b).fin
def goesI (op a b : Int) : Bool := decide ((rowR op a b).ka = 10)
def goesN (op a b : Int) : Int := if goesI op a b = true then a else 0
theorem pr2 {a a' : Int} {b b' : Bool} (h1 : a = a') (h2 : b = b') : Ending.returned (.tuple #[.int .i64 a, .bool b]) = .returned (.tuple #[.int .i64 a', .bool b']) := by rw [h1, h2]

set_option maxHeartbeats 1000000 in
theorem check_any (op a b : Int) (w : World) :
    Calls Tryd.prog 32 #[instV op a b] w fun e w' => e = .returned (.int .i64 (chk op a b)) ∧ Keep NoB w w' := by
  have hK := (Keep.refl NoB w).alloc (.cells #[.int .i64 op, .int .i64 a, .int .i64 b] 24)
  obtain ⟨r, hr⟩ : ∃ r, Hid (rowR op a b = r) := ⟨_, rfl⟩
  have HR := Lib.hid (fun w => rowFor_any op a b r w hr)
  cases hok : okI op a b
  · have HX : Hid (chk op a b = 40) := by show _ = _; unfold chk; rw [if_neg (by rw [hok]; decide)]
    rw [hok] at HR
    clear hok hr
    go_enter Tryd.func32, Tryd.ntmps32
    go_wp2_with fail
    refine (HR.out _).mono ?_
    rintro e w1 ⟨rfl, k1⟩
    go_wp2
    go_ret
    exact ⟨by rw [HX.out]; rfl, (keepN hK k1).alloc _⟩
  · have HX : Hid (chk op a b = 0) := by show _ = _; unfold chk; rw [if_pos hok]
    rw [hok] at HR
    clear hok hr
    go_enter Tryd.func32, Tryd.ntmps32
    go_wp2_with fail
    refine (HR.out _).mono ?_
    rintro e w1 ⟨rfl, k1⟩
    go_wp2
    go_ret
    exact ⟨by rw [HX.out]; rfl, (keepN hK k1).alloc _⟩

set_option maxHeartbeats 1000000 in
theorem ends_any (op a b : Int) (w : World) :
    Calls Tryd.prog 31 #[instV op a b] w fun e w' => e = .returned (.bool (endsI op a b)) ∧ Keep NoB w w' := by
  have hK := (Keep.refl NoB w).alloc (.cells #[.int .i64 op, .int .i64 a, .int .i64 b] 24)
  obtain ⟨r, hr⟩ : ∃ r, Hid (rowR op a b = r) := ⟨_, rfl⟩
  have HR := Lib.hid (fun w => rowFor_any op a b r w hr)
  have HX : Hid (endsI op a b = r.fin) := by show _ = _; unfold endsI; rw [hr.out]
  clear hr
  go_enter Tryd.func31, Tryd.ntmps31
  go_wp2_with fail
  refine (HR.out _).mono ?_
  rintro e w1 ⟨rfl, k1⟩
  go_wp2
  go_ret
  exact ⟨by rw [HX.out]; rfl, (keepN hK k1).alloc _⟩

set_option maxHeartbeats 1000000 in
theorem goes_any (op a b : Int) (w : World) :
    Calls Tryd.prog 30 #[instV op a b] w fun e w' => e = .returned (.tuple #[.int .i64 (goesN op a b), .bool (goesI op a b)]) ∧ Keep NoB w w' := by
  have hB := Blk.new w 24 #[.int .i64 op, .int .i64 a, .int .i64 b]
  have hK := (Keep.refl NoB w).alloc (.cells #[.int .i64 op, .int .i64 a, .int .i64 b] 24)
  obtain ⟨r, hr⟩ : ∃ r, Hid (rowR op a b = r) := ⟨_, rfl⟩
  have HR := Lib.hid (fun w => rowFor_any op a b r w hr)
  by_cases hg : r.ka = 10
  · have h1 : goesI op a b = true := decide_eq_true (by rw [hr.out]; exact hg)
    have HX : Hid (goesN op a b = a ∧ goesI op a b = true) := ⟨by unfold goesN; rw [if_pos h1], h1⟩
    have hq : (r.ka != 10) = false := by rw [bne_eq_false_iff_eq]; exact hg
    clear hg h1 hr
    go_enter Tryd.func30, Tryd.ntmps30
    go_wp2_with fail
    refine (HR.out _).mono ?_
    rintro e w1 ⟨rfl, k1⟩
    have b1 := hB.keep k1 id
    have c1 : w1.cell? ⟨w.heap.size, 1, none⟩ = some (.int .i64 a) := b1.cell 1
    have hz := b1.lt
    have c2 : ∀ o, (w1.alloc o).cell? ⟨w.heap.size, 1, none⟩ = some (.int .i64 a) := fun o => (World.cell?_alloc_lt _ _ _ hz).trans c1
    go_wp2
    go_ret2
    exact ⟨pr2 HX.out.1.symm HX.out.2.symm, (keepN hK k1).alloc _⟩
  · have h1 : goesI op a b = false := decide_eq_false (by rw [hr.out]; exact hg)
    have HX : Hid (goesN op a b = 0 ∧ goesI op a b = false) := ⟨by unfold goesN; rw [if_neg (by rw [h1]; decide)], h1⟩
    have hq : (r.ka != 10) = true := by rw [bne_iff_ne]; exact hg
    clear hg h1 hr
    go_enter Tryd.func30, Tryd.ntmps30
    go_wp2_with fail
    refine (HR.out _).mono ?_
    rintro e w1 ⟨rfl, k1⟩
    go_wp2
    go_ret2
    exact ⟨pr2 HX.out.1.symm HX.out.2.symm, (keepN hK k1).alloc _⟩

end Go.Proofs.YtonpplpfipfnfaaDoor.O

namespace Go.Proofs.YtonpplpfipfnfaaDoor.C
open Go.RowKit O

/-- An instruction: its op, and its operands. -/
abbrev I3 := Int × Int × Int
/-- Instructions as cells. -/
def iis (l : List I3) : List Value := l.flatMap fun x => [.int .i64 x.1, .int .i64 x.2.1, .int .i64 x.2.2]
theorem iis_nil : iis [] = [] := rfl
theorem iis_cons (x : I3) (l : List I3) : iis (x :: l) = [.int .i64 x.1, .int .i64 x.2.1, .int .i64 x.2.2] ++ iis l := by unfold iis; rw [List.flatMap_cons]
theorem iis_append (l r : List I3) : iis (l ++ r) = iis l ++ iis r := by unfold iis; rw [List.flatMap_append]
theorem iis_one (x : I3) : iis [x] = [.int .i64 x.1, .int .i64 x.2.1, .int .i64 x.2.2] := rfl
theorem iis_length (l : List I3) : (iis l).length = l.length * 3 := by
  induction l with
  | nil => rfl
  | cons v l ih => rw [iis_cons, List.length_append, ih]; simp; omega
theorem iis_at : ∀ (l : List I3) (i : Nat) (h : i < l.length), (iis l)[i * 3]? = some (.int .i64 l[i].1) ∧ (iis l)[i * 3 + 1]? = some (.int .i64 l[i].2.1) ∧ (iis l)[i * 3 + 2]? = some (.int .i64 l[i].2.2)
  | v :: l, 0, _ => by rw [iis_cons]; exact ⟨rfl, rfl, rfl⟩
  | v :: l, i + 1, h => by
    have := iis_at l i (by simpa using h)
    rw [iis_cons, show (i + 1) * 3 = i * 3 + 3 by omega]
    exact ⟨by simpa using this.1, by simpa using this.2.1, by simpa using this.2.2⟩
theorem iis_cells (l : List I3) : ∀ u ∈ iis l, u.oneCell' = true := by
  intro u hu
  obtain ⟨b, _, hb⟩ := List.mem_flatMap.1 hu
  rcases List.mem_cons.1 hb with rfl | hb
  · rfl
  · rcases List.mem_cons.1 hb with rfl | hb
    · rfl
    · rw [List.mem_singleton.1 hb]; rfl
theorem iis_take (l : List I3) (k : Nat) : (iis l).take (k * 3) = iis (l.take k) := by
  induction l generalizing k with
  | nil => simp [iis]
  | cons x l ih =>
    cases k with
    | zero => simp [iis]
    | succ k => rw [iis_cons, show (k + 1) * 3 = [Value.int .i64 x.1, .int .i64 x.2.1, .int .i64 x.2.2].length + k * 3 by simp; omega, List.take_length_add_append, ih, List.take_succ_cons, iis_cons]
theorem iis_drop (l : List I3) (k : Nat) : (iis l).drop (k * 3) = iis (l.drop k) := by
  induction l generalizing k with
  | nil => simp [iis]
  | cons x l ih =>
    cases k with
    | zero => simp
    | succ k => rw [iis_cons, show (k + 1) * 3 = [Value.int .i64 x.1, .int .i64 x.2.1, .int .i64 x.2.2].length + k * 3 by simp; omega, List.drop_length_add_append, ih, List.drop_succ_cons]
theorem rdJ_at {w : World} {A : Option Addr} {l : List I3} (h : Rd w A (iis l)) (h0 : 0 < l.length) : ∃ g off, A = some ⟨g, off, none⟩ ∧
    ∀ (i : Nat) (hi : i < l.length), w.cell? ⟨g, off + i * 3, none⟩ = some (.int .i64 l[i].1) ∧ w.cell? ⟨g, off + i * 3 + 1, none⟩ = some (.int .i64 l[i].2.1) ∧ w.cell? ⟨g, off + i * 3 + 2, none⟩ = some (.int .i64 l[i].2.2) := by
  obtain ⟨g, off, e, hc⟩ := h (by rw [iis_length]; omega)
  refine ⟨g, off, e, fun i hi => ?_⟩
  obtain ⟨h1, h2, h3⟩ := iis_at l i hi
  exact ⟨hc _ _ h1, hc _ _ h2, hc _ _ h3⟩

/-- May it be; does it end; does it go, and where to? -/
def ok1 (x : I3) : Bool := okI x.1 x.2.1 x.2.2
def eB (x : I3) : Bool := endsI x.1 x.2.1 x.2.2
def gB (x : I3) : Bool := goesI x.1 x.2.1 x.2.2
def gN (x : I3) : Int := goesN x.1 x.2.1 x.2.2
theorem gB_ka {x : I3} (h : gB x = true) : ok1 x = true ∧ (O.rowAt x.1).ka = 10 := by
  have h := of_decide_eq_true h
  cases hk : okI x.1 x.2.1 x.2.2
  · rw [rowR_no hk] at h; exact absurd h (by decide)
  · rw [rowR_ok hk] at h; exact ⟨hk, h⟩
theorem ka_gB {x : I3} (h : ok1 x = true) (hk : (O.rowAt x.1).ka = 10) : gB x = true := by
  unfold gB goesI; rw [rowR_ok h, hk]; rfl
theorem gB_in {x : I3} (h : gB x = true) : 0 ≤ x.2.1 ∧ x.2.1 ≤ 511 := by
  obtain ⟨h1, h2⟩ := gB_ka h
  have h3 := (ok_op h1).2.1
  rw [h2] at h3
  exact of_decide_eq_true h3
theorem gN_yes {x : I3} (h : gB x = true) : gN x = x.2.1 := if_pos h
theorem gN_no {x : I3} (h : gB x = false) : gN x = 0 := if_neg (by unfold gB at h; rw [h]; decide)
theorem gN_in (x : I3) : 0 ≤ gN x ∧ gN x ≤ 511 := by
  cases h : gB x
  · rw [gN_no h]; decide
  · rw [gN_yes h]; exact gB_in h
/-- One that goes may go anywhere. -/
theorem gB_put {x : I3} (h : gB x = true) {a : Int} (h0 : 0 ≤ a) (h1 : a ≤ 511) : gB (x.1, a, x.2.2) = true := by
  obtain ⟨hk, he⟩ := gB_ka h
  obtain ⟨p1, p2, p3⟩ := ok_op hk
  refine ka_gB (x := (x.1, a, x.2.2)) ?_ he
  show okI x.1 a x.2.2 = true
  unfold okI
  rw [p1, p3, he]
  simp [inK, lo, hi, h0, h1]

/-- Is a list a body? -/
def itemB (n : Nat) (x : I3) : Bool := ok1 x && decide (gN x < (n : Int))
def lastB (l : List I3) : Bool := match l.getLast? with | some x => eB x | none => false
def okB (l : List I3) : Bool := decide (l.length ≤ 512) && lastB l && l.all (itemB l.length)
def chkB (l : List I3) : Int := if okB l = true then 0 else 50
theorem chkB_ok {l : List I3} (h : okB l = true) : chkB l = 0 := if_pos h
theorem chkB_no {l : List I3} (h : okB l = false) : chkB l = 50 := if_neg (by rw [h]; decide)
theorem okB_parts {l : List I3} (h : okB l = true) : 1 ≤ l.length ∧ l.length ≤ 512 ∧ lastB l = true ∧ l.all (itemB l.length) = true := by
  unfold okB at h
  simp only [Bool.and_eq_true, decide_eq_true_eq] at h
  refine ⟨?_, h.1.1, h.1.2, h.2⟩
  rcases l with _ | ⟨x, l⟩
  · exact absurd h.1.2 (by decide)
  · simp
theorem okB_mk {l : List I3} (h1 : l.length ≤ 512) (h2 : lastB l = true) (h3 : l.all (itemB l.length) = true) : okB l = true := by
  unfold okB; rw [decide_eq_true h1, h2, h3]; rfl
theorem okB_nil : okB [] = false := rfl
theorem okB_long {l : List I3} (h : ¬ l.length ≤ 512) : okB l = false := by unfold okB; rw [decide_eq_false h]; rfl
theorem okB_last {l : List I3} (h : lastB l = false) : okB l = false := by unfold okB; rw [h]; simp
theorem okB_item {l : List I3} (h : l.all (itemB l.length) = false) : okB l = false := by unfold okB; rw [h]; simp
theorem lastB_at {l : List I3} (h : 0 < l.length) : lastB l = eB (l[l.length - 1]'(by omega)) := by
  unfold lastB
  rw [List.getLast?_eq_getElem?, List.getElem?_eq_getElem (by omega)]
theorem item_parts {n : Nat} {x : I3} (h : itemB n x = true) : ok1 x = true ∧ gN x < (n : Int) := by
  unfold itemB at h
  simp only [Bool.and_eq_true, decide_eq_true_eq] at h
  exact h
theorem item_no1 {n : Nat} {x : I3} (h : ok1 x = false) : itemB n x = false := by unfold itemB; rw [h]; rfl
theorem item_no2 {n : Nat} {x : I3} (h : ¬ gN x < (n : Int)) : itemB n x = false := by unfold itemB; rw [decide_eq_false h]; simp
theorem item_yes {n : Nat} {x : I3} (h1 : ok1 x = true) (h2 : gN x < (n : Int)) : itemB n x = true := by unfold itemB; rw [h1, decide_eq_true h2]; rfl
theorem all_no {n : Nat} {l : List I3} {k : Nat} (hk : k < l.length) (h : itemB n l[k] = false) : l.all (itemB n) = false := by
  rw [List.all_eq_false]; exact ⟨_, List.getElem_mem hk, by rw [h]; decide⟩
theorem okB_at {l : List I3} (h : okB l = true) {k : Nat} (hk : k < l.length) : itemB l.length l[k] = true := List.all_eq_true.1 (okB_parts h).2.2.2 _ (List.getElem_mem hk)

/-- A body's bytes. -/
def byt (l : List I3) : List UInt8 := l.flatMap fun x => bytesI x.1 x.2.1 x.2.2
theorem byt_snoc (l : List I3) (x : I3) : byt (l ++ [x]) = byt l ++ bytesI x.1 x.2.1 x.2.2 := by unfold byt; simp
def bytesB (l : List I3) : List UInt8 := V.encL l.length ++ byt l
def encB (l : List I3) : List UInt8 := if okB l = true then bytesB l else []
theorem encI_ok {x : I3} (h : ok1 x = true) : O.encI x.1 x.2.1 x.2.2 = bytesI x.1 x.2.1 x.2.2 := if_pos h

/-- How many have an op. -/
def cntB (l : List I3) (op : Int) : Nat := l.countP fun x => x.1 == op
theorem cntB_snoc (l : List I3) (x : I3) (op : Int) : cntB (l ++ [x]) op = cntB l op + if x.1 == op then 1 else 0 := by
  unfold cntB; rw [List.countP_append, List.countP_singleton]

/-- One whose place is behind another one goes so much farther. -/
def gone (at_ : Int) (by_ : Int) (x : I3) : I3 := if gB x = true ∧ at_ < gN x then (x.1, x.2.1 + by_, x.2.2) else x
def insL (l : List I3) (k : Nat) (x : I3) : List I3 := (l.take k).map (gone k 1) ++ x :: (l.drop k).map (gone k 1)
def delL (l : List I3) (k : Nat) : List I3 := (l.take k).map (gone k (-1)) ++ (l.drop (k + 1)).map (gone k (-1))
theorem insL_length (l : List I3) (k : Nat) (x : I3) : (insL l k x).length = l.length + 1 := by
  unfold insL; simp; omega
theorem delL_length {l : List I3} {k : Nat} (h : k < l.length) : (delL l k).length = l.length - 1 := by
  unfold delL; simp; omega

/-- Is a place of a body a head? -/
def at0 (l : List I3) (i : Nat) : I3 := l.getD i (0, 0, 0)
theorem at0_of {l : List I3} {i : Nat} (h : i < l.length) : at0 l i = l[i] := by unfold at0; simp [List.getD, h]
def headB (l : List I3) (i : Nat) : Bool := decide (i = 0) || eB (at0 l (i - 1)) || gB (at0 l (i - 1)) || l.any fun x => gB x && decide (gN x = (i : Int))
def headsL (l : List I3) : List Nat := (List.range l.length).filter (headB l)
/-- The place behind a stretch's last one. -/
def nextH (l : List I3) (h : Nat) : Nat := ((List.range' (h + 1) (l.length - (h + 1))).find? (headB l)).getD l.length

end Go.Proofs.YtonpplpfipfnfaaDoor.C
