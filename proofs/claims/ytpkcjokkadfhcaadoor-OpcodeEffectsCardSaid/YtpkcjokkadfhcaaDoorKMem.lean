/-
  Words for memory that walks share: what a step keeps (Keep), a slice that reads as a list (Rd), one that the call owns (Own), and append. No conditions.
-/
import Derived.Test.YtpkcjokkadfhcaaDoorProg
import Derived.WalkKit
import Derived.Lib.Hide
import Derived.WalkSpells
import Derived.WalkLawsBesides
import Derived.Maps.AppendAt
import Derived.Deep.Draws
import Derived.Deep.AppendLies
import Derived.Deep.QuietTactic
import Derived.BigQuiet
import Derived.Deep.RegionHeld3
import Derived.Deep.RegionLaw
import Derived.OwnWalk
namespace Go.Proofs.YtpkcjokkadfhcaaDoor
open Go.RowKit

theorem ret_bool {a b : Bool} (h : a = b) : Ending.returned (.bool a) = .returned (.bool b) := by rw [h]
theorem ret_int {k : IntKind} {a b : Int} (h : a = b) : Ending.returned (.int k a) = .returned (.int k b) := by rw [h]

/-- What lay when the step began, and is none of O, lies as it lay. -/
structure Keep (O : Nat → Prop) (w w' : World) : Prop where
  os : w'.os = w.os
  tape : w'.tape = w.tape
  output : w'.output = w.output
  size : w.heap.size ≤ w'.heap.size
  block : ∀ k, k < w.heap.size → ¬ O k → w'.heap[k]? = w.heap[k]?

/-- No block at all. -/
def NoB : Nat → Prop := fun _ => False
/-- Blocks that were not yet there. -/
def Fresh (w : World) : Nat → Prop := fun k => w.heap.size ≤ k

section
variable {O O' : Nat → Prop} {w w1 w2 : World}
theorem Keep.refl (O : Nat → Prop) (w : World) : Keep O w w := ⟨rfl, rfl, rfl, Nat.le_refl _, fun _ _ _ => rfl⟩
theorem Keep.trans (h : Keep O w w1) (h' : Keep O' w1 w2) (hO : ∀ k, O' k → k < w.heap.size → O k) : Keep O w w2 :=
  ⟨h'.os.trans h.os, h'.tape.trans h.tape, h'.output.trans h.output, Nat.le_trans h.size h'.size,
    fun k hk hn => (h'.block k (Nat.lt_of_lt_of_le hk h.size) (fun ho => hn (hO k ho hk))).trans (h.block k hk hn)⟩
theorem Keep.mono (h : Keep O w w1) (hO : ∀ k, O k → k < w.heap.size → O' k) : Keep O' w w1 :=
  ⟨h.os, h.tape, h.output, h.size, fun k hk hn => h.block k hk (fun ho => hn (hO k ho hk))⟩
theorem Keep.drew (h : Keep O w w1) : Keep O w w1.drew := ⟨h.os, h.tape, h.output, h.size, h.block⟩
theorem Keep.drewN (h : Keep O w w1) (n : Nat) : Keep O w (w1.drewN n) := ⟨h.os, h.tape, h.output, h.size, h.block⟩
theorem Keep.alloc (h : Keep O w w1) (o : Obj) : Keep O w (w1.alloc o) :=
  h.trans (O' := NoB) ⟨rfl, rfl, rfl, by simp, fun k hk _ => Below.heap_alloc _ _ _ hk⟩ (fun _ hf => hf.elim)
theorem Keep.setCell (h : Keep O w w1) {p : Addr} (hp : p.block < w.heap.size → O p.block) (u : Value) : Keep O w (w1.setCell p u) :=
  h.trans (O' := fun k => k = p.block) ⟨rfl, rfl, rfl, by simp [World.setCell], fun k _ hn => Below.heap_setCell _ _ _ _ hn⟩ (fun k e hk => by rw [e] at hk ⊢; exact hp hk)
theorem Keep.grown {row : Option Nat} (h : Keep O w w1) (hg : w1.grownBy w2 row) (hr : ∀ g, row = some g → g < w.heap.size → O g) : Keep O w w2 :=
  h.trans (O' := fun k => some k = row) ⟨hg.os, hg.tape, hg.output, hg.size, fun k hk hn => hg.block k hk hn⟩ (fun k e hk => hr k e.symm hk)
theorem Keep.below (h : Keep O w w1) (hO : ∀ k, O k → w.heap.size ≤ k) : Below w.heap.size w w1 :=
  ⟨h.os, h.tape, h.output, h.size, fun k hk => h.block k hk (fun ho => by have := hO k ho; omega)⟩
theorem Keep.of_below (h : Below w.heap.size w w1) : Keep O w w1 := ⟨h.os, h.tape, h.output, h.size, fun k hk _ => h.block k hk⟩
theorem Keep.cell (h : Keep O w w1) {p : Addr} {v : Value} (hc : w.cell? p = some v) (hp : ¬ O p.block) : w1.cell? p = some v :=
  (World.cell?_of_block (h.block _ (World.block_lt_of_cell? w p hc) hp)).trans hc
theorem keepN (h : Keep NoB w w1) (h' : Keep NoB w1 w2) : Keep NoB w w2 := h.trans h' (fun _ hf _ => hf.elim)
theorem Keep.toBelow (h : Keep NoB w w1) : Below w.heap.size w w1 := h.below (fun _ hf => hf.elim)
end

/-- A slice's address, from which the cells xs stand. -/
def Rd (w : World) (A : Option Addr) (xs : List Value) : Prop :=
  0 < xs.length → ∃ g off, A = some ⟨g, off, none⟩ ∧ ∀ j u, xs[j]? = some u → w.cell? ⟨g, off + j, none⟩ = some u
theorem Rd.none_ (w : World) (A : Option Addr) : Rd w A [] := fun h => by simp at h
theorem Rd.keep {O : Nat → Prop} {w w' : World} {A : Option Addr} {xs : List Value} (h : Rd w A xs) (hk : Keep O w w') (hA : ∀ ad, A = some ad → ¬ O ad.block) : Rd w' A xs := fun h0 => by
  obtain ⟨g, off, e, hc⟩ := h h0
  exact ⟨g, off, e, fun j u hu => hk.cell (hc j u hu) (by have := hA _ e; exact this)⟩
theorem Rd.keepN {w w' : World} {A : Option Addr} {xs : List Value} (h : Rd w A xs) (hk : Keep NoB w w') : Rd w' A xs := h.keep hk (fun _ _ => id)

/-- Numbers, and values, as cells. -/
abbrev ivs (l : List Int) : List Value := l.map (.int .i64)
def vvs (l : List (Int × Int)) : List Value := l.flatMap fun v => [.int .i64 v.1, .int .i64 v.2]
theorem ivs_one (l : List Int) : ∀ u ∈ ivs l, u.oneCell' = true := by
  intro u hu
  obtain ⟨b, _, rfl⟩ := List.mem_map.1 hu
  rfl
theorem vvs_one (l : List (Int × Int)) : ∀ u ∈ vvs l, u.oneCell' = true := by
  intro u hu
  obtain ⟨b, _, hb⟩ := List.mem_flatMap.1 hu
  rcases List.mem_cons.1 hb with rfl | hb
  · rfl
  · rw [List.mem_singleton.1 hb]; rfl
theorem vvs_cons (v : Int × Int) (l : List (Int × Int)) : vvs (v :: l) = [.int .i64 v.1, .int .i64 v.2] ++ vvs l := by unfold vvs; rw [List.flatMap_cons]
theorem vvs_append (l r : List (Int × Int)) : vvs (l ++ r) = vvs l ++ vvs r := by simp [vvs]
theorem vvs_length (l : List (Int × Int)) : (vvs l).length = l.length * 2 := by
  induction l with
  | nil => rfl
  | cons v l ih => rw [vvs_cons, List.length_append, ih]; simp; omega
theorem vvs_at : ∀ (l : List (Int × Int)) (i : Nat) (h : i < l.length), (vvs l)[i * 2]? = some (.int .i64 l[i].1) ∧ (vvs l)[i * 2 + 1]? = some (.int .i64 l[i].2)
  | v :: l, 0, _ => by rw [vvs_cons]; exact ⟨rfl, rfl⟩
  | v :: l, i + 1, h => by
    have := vvs_at l i (by simpa using h)
    rw [vvs_cons, show (i + 1) * 2 = i * 2 + 2 by omega]
    exact ⟨by simpa using this.1, by simpa using this.2⟩

theorem rdI_at {w : World} {A : Option Addr} {l : List Int} (h : Rd w A (ivs l)) (h0 : 0 < l.length) : ∃ g off, A = some ⟨g, off, none⟩ ∧ ∀ (i : Nat) (hi : i < l.length), w.cell? ⟨g, off + i, none⟩ = some (.int .i64 l[i]) := by
  obtain ⟨g, off, e, hc⟩ := h (by simpa using h0)
  exact ⟨g, off, e, fun i hi => hc i _ (by simp [hi])⟩
theorem rdV_at {w : World} {A : Option Addr} {l : List (Int × Int)} (h : Rd w A (vvs l)) (h0 : 0 < l.length) : ∃ g off, A = some ⟨g, off, none⟩ ∧
    ∀ (i : Nat) (hi : i < l.length), w.cell? ⟨g, off + i * 2, none⟩ = some (.int .i64 l[i].1) ∧ w.cell? ⟨g, off + i * 2 + 1, none⟩ = some (.int .i64 l[i].2) := by
  obtain ⟨g, off, e, hc⟩ := h (by rw [vvs_length]; omega)
  refine ⟨g, off, e, fun i hi => ?_⟩
  obtain ⟨h1, h2⟩ := vvs_at l i hi
  exact ⟨hc _ _ h1, hc _ _ h2⟩

/-- A slice that the call owns: so many elements, so many cells each, in a block of O. -/
def Own (w : World) (E size : Nat) (O : Nat → Prop) (v : Value) (n : Nat) (xs : List Value) : Prop :=
  w.ownsRow 0 E size v n xs ∧ ∀ g, v.ownBlock = some g → O g
section
variable {w w' : World} {E size n : Nat} {O O' : Nat → Prop} {v : Value} {xs : List Value}
theorem Own.nil (w : World) (E size : Nat) (O : Nat → Prop) : Own w E size O (.slice none 0 0) 0 [] := ⟨World.ownsRow_nil _ _ _ _, by simp [Value.ownBlock]⟩
theorem Own.mono (h : Own w E size O v n xs) (hO : ∀ k, O k → k < w.heap.size → O' k) : Own w E size O' v n xs := ⟨h.1, fun g e => hO g (h.2 g e) (h.1.lt g e).2⟩
theorem ownsRow_keep {base : Nat} (h : w.ownsRow base E size v n xs) (hk : Keep O w w') (hn : ∀ g, v.ownBlock = some g → ¬ O g) : w'.ownsRow base E size v n xs := by
  refine ⟨h.1, ?_⟩
  rcases h.2 with h2 | ⟨g, cap, cur, rfl, hb, hh, r⟩
  · exact .inl h2
  · exact .inr ⟨g, cap, cur, rfl, hb, (hk.block g (Array.getElem?_eq_some_iff.1 hh).1 (hn g rfl)).trans hh, r⟩
theorem Own.keep (h : Own w E size O v n xs) (hk : Keep O' w w') (hn : ∀ k, O k → ¬ O' k) : Own w' E size O v n xs := ⟨ownsRow_keep h.1 hk (fun g e => hn g (h.2 g e)), h.2⟩
theorem Own.keepN (h : Own w E size O v n xs) (hk : Keep NoB w w') : Own w' E size O v n xs := h.keep hk (fun _ _ => id)
/-- The slice written out; it reads as its cells. -/
theorem Own.form (h : Own w E size O v n xs) : ∃ A c, v = .slice A n c ∧ n ≤ c ∧ c ≤ maxLen ∧ Rd w A xs ∧ (∀ ad, A = some ad → O ad.block ∧ ad = ⟨ad.block, 0, none⟩) := by
  rcases h.1.2 with ⟨rfl, hn⟩ | ⟨g, cap, cur, rfl, _, hh, hc, hm, _⟩
  · have hx : xs = [] := List.length_eq_zero_iff.1 (by rw [h.1.1, hn, Nat.zero_mul])
    subst hx
    exact ⟨none, 0, by rw [hn], Nat.le_of_eq hn, Nat.zero_le _, Rd.none_ _ _, by simp⟩
  · refine ⟨_, cap, rfl, hc, hm, fun _ => ⟨g, 0, rfl, fun j u hu => ?_⟩, ?_⟩
    · have := h.1.cells (g := g) rfl j u hu
      have ea : (⟨g, 0, none⟩ : Addr).add j = ⟨g, 0 + j, none⟩ := by unfold Addr.add; by_cases hj : j = 0 <;> simp [hj]
      rwa [ea] at this
    · intro ad e
      cases e
      exact ⟨h.2 g rfl, rfl⟩
/-- A row of new blocks, as a contract of the shelf, or of make, hands it out. -/
theorem Own.of_row {base : Nat} (h : w.ownsRow base E size v n xs) (hb : ∀ k, base ≤ k → O k) : Own w E size O v n xs := by
  refine ⟨⟨h.1, ?_⟩, fun g e => hb g (h.lt g e).1⟩
  rcases h.2 with h2 | ⟨g, cap, cur, h1, _, h2⟩
  · exact .inl h2
  · exact .inr ⟨g, cap, cur, h1, Nat.zero_le _, h2⟩
end

theorem own_form {w : World} {E size base n : Nat} {v : Value} {xs : List Value} (h : w.ownsRow base E size v n xs) : ∃ A c, v = .slice A n c := by
  rcases h.2 with ⟨rfl, rfl⟩ | ⟨g, cap, cur, rfl, _⟩
  · exact ⟨_, _, rfl⟩
  · exact ⟨_, _, rfl⟩

/-- append of cells that are read onto a row that is owned. -/
theorem run_append_rd (w : World) (S E size bytes : Nat) (i0 : TypeInfo) (z : Value) (hS : Tryd.prog.underlying S = some (.slice E)) (hi : Tryd.prog.info? E = some i0) (hz0 : i0.zero = some z) (hz1 : i0.size = size) (hz2 : i0.bytes = bytes) (hzs : z.cells.size = size) (hsz : 0 < size)
    (v : Value) (n : Nat) (xs : List Value) (A : Option Addr) (m c : Nat) (ys : List Value) (ty : TypeId)
    (hown : w.ownsRow 0 E size v n xs) (hr : Rd w A ys) (hl : ys.length = m * size) (h1 : ∀ u ∈ ys, u.oneCell' = true) (h63 : n + m ≤ maxLen) (hb : (n + m) * bytes ≤ 140737488355328) :
    ∃ v' w', (Builtin.append_ #[S, S] ty #[v, .slice A m c]).run Tryd.prog w = .ok v' w' ∧ w'.ownsRow 0 E size v' (n + m) (xs ++ ys) ∧ w.grownBy w' v.ownBlock ∧
      (v'.ownBlock = v.ownBlock ∨ v'.ownBlock = some w.heap.size) := by
  have hm0 : m = 0 → ys = [] := fun e => List.length_eq_zero_iff.1 (by rw [hl, e, Nat.zero_mul])
  rcases A with _ | ad
  · have hy : ys = [] := by
      rcases Nat.eq_zero_or_pos ys.length with h0 | h0
      · exact List.length_eq_zero_iff.1 h0
      · obtain ⟨g, off, e, _⟩ := hr h0; cases e
    subst hy
    have hm : m = 0 := by
      rcases Nat.eq_zero_or_pos m with h | h
      · exact h
      · have := Nat.mul_pos h hsz; simp at hl; omega
    subst hm
    refine ⟨v, w, ?_, by simpa using hown, World.grownBy.refl w _, .inl rfl⟩
    rcases hown.2 with ⟨rfl, h0⟩ | ⟨g, cap, cur, rfl, _, _, hnc, _⟩
    · simp [Builtin.append_, run_underlying hS, sizeOf, typeInfo, hi, Builtin.lenOf, Builtin.firstCells]
    · simp [Builtin.append_, run_underlying hS, sizeOf, typeInfo, hi, Builtin.lenOf, Builtin.firstCells, hnc, storeCells]
  · have hcells : ∀ j u, ys[j]? = some u → w.cell? (ad.add j) = some u := by
      intro j u hu
      rcases Nat.eq_zero_or_pos ys.length with h0 | h0
      · have : ys = [] := List.length_eq_zero_iff.1 h0
        subst this; simp at hu
      · obtain ⟨g, off, e, hc⟩ := hr h0
        cases e
        have ea : (⟨g, off, none⟩ : Addr).add j = ⟨g, off + j, none⟩ := by unfold Addr.add; by_cases hj : j = 0 <;> simp [hj]
        rw [ea]; exact hc j u hu
    obtain ⟨v', w', hrun, h2, h3, _, h5⟩ := run_append_own_at (P := Tryd.prog) w 0 S ty E i0 z size bytes hS hi hz0 hz1 hz2 hzs hsz v n xs hown ad m c ys hl hcells h1 h63 hb (Nat.zero_le _)
    exact ⟨v', w', hrun, h2, h3, h5⟩

theorem wp_append_rd {o : Oper} {a : Act} {K : Act → World → Prop} {Q : Exit → Act → World → Prop} (w : World) (s x : Operand) (S : TypeId)
    (ho : o.op = .call { callee := .builtin .append, args := #[s, x], argTypes := #[S, S] })
    (E size bytes : Nat) (i0 : TypeInfo) (z : Value) (hS : Tryd.prog.underlying S = some (.slice E)) (hi : Tryd.prog.info? E = some i0) (hz0 : i0.zero = some z) (hz1 : i0.size = size) (hz2 : i0.bytes = bytes) (hzs : z.cells.size = size) (hsz : 0 < size)
    (v : Value) (n : Nat) (xs : List Value) (A : Option Addr) (m c : Nat) (ys : List Value) (hs : a.eval s = v) (hown : w.ownsRow 0 E size v n xs) (hx : a.eval x = .slice A m c) (hr : Rd w A ys)
    (hl : ys.length = m * size) (h1 : ∀ u ∈ ys, u.oneCell' = true) (h63 : n + m ≤ maxLen) (hb : (n + m) * bytes ≤ 140737488355328)
    (h : ∀ A' c' w', w'.ownsRow 0 E size (.slice A' (n + m) c') (n + m) (xs ++ ys) → w.grownBy w' v.ownBlock → ((Value.slice A' (n + m) c').ownBlock = v.ownBlock ∨ (Value.slice A' (n + m) c').ownBlock = some w.heap.size) → K (a.put o.dst (.slice A' (n + m) c')) w') : o.wp Tryd.prog a w K Q := by
  obtain ⟨v', w', hrun, h2, h3, h4⟩ := run_append_rd w S E size bytes i0 z hS hi hz0 hz1 hz2 hzs hsz v n xs A m c ys o.type hown hr hl h1 h63 hb
  obtain ⟨A', c', rfl⟩ := own_form h2
  unfold Oper.wp execOp
  simp only [ho, resolve, invoke, builtin, Sem.run_bind, Sem.run_pure, Result.andThen_ok, List.map_toArray, List.map_cons, List.map_nil, hs, hx, hrun]
  exact h A' c' w' h2 h3 h4

theorem wpList_append_rd {ops : Array Oper} {rest : List Oper} {o : Oper} {a : Act} {Q : Exit → Act → World → Prop} (w : World) (hgd : o.guard = none) (s x : Operand) (S : TypeId)
    (ho : o.op = .call { callee := .builtin .append, args := #[s, x], argTypes := #[S, S] })
    (E size bytes : Nat) (i0 : TypeInfo) (z : Value) (hS : Tryd.prog.underlying S = some (.slice E)) (hi : Tryd.prog.info? E = some i0) (hz0 : i0.zero = some z) (hz1 : i0.size = size) (hz2 : i0.bytes = bytes) (hzs : z.cells.size = size) (hsz : 0 < size)
    (v : Value) (n : Nat) (xs : List Value) (A : Option Addr) (m c : Nat) (ys : List Value) (hs : a.eval s = v) (hown : w.ownsRow 0 E size v n xs) (hx : a.eval x = .slice A m c) (hr : Rd w A ys)
    (hl : ys.length = m * size) (h1 : ∀ u ∈ ys, u.oneCell' = true) (h63 : n + m ≤ maxLen) (hb : (n + m) * bytes ≤ 140737488355328)
    (h : ∀ A' c' w', w'.ownsRow 0 E size (.slice A' (n + m) c') (n + m) (xs ++ ys) → w.grownBy w' v.ownBlock → ((Value.slice A' (n + m) c').ownBlock = v.ownBlock ∨ (Value.slice A' (n + m) c').ownBlock = some w.heap.size) → wpList Tryd.prog ops Q rest (a.put o.dst (.slice A' (n + m) c')) w') :
    wpList Tryd.prog ops Q (o :: rest) a w :=
  wpList_plain hgd fun _ hK => wp_append_rd w s x S ho E size bytes i0 z hS hi hz0 hz1 hz2 hzs hsz v n xs A m c ys hs hown hx hr hl h1 h63 hb fun A' c' w' h2 h3 h4 => hK _ _ (h A' c' w' h2 h3 h4)


theorem int_info : (Tryd.prog.info? 3).map (fun i => (i.zero, i.size, i.bytes)) = some (some (.int .i64 0), 1, 8) := by kernel_rfl
/-- Block g is just the cells cs of type t, none of them frozen. -/
def Blk (w : World) (g : Nat) (t : TypeId) (cs : Array Value) : Prop := w.heap[g]? = some (.cells cs t (0, 0))
section
variable {w w' : World} {g : Nat} {t : TypeId} {cs : Array Value}
theorem Blk.lt (h : Blk w g t cs) : g < w.heap.size := (Array.getElem?_eq_some_iff.1 h).1
theorem Blk.cell (h : Blk w g t cs) (i : Nat) : w.cell? ⟨g, i, none⟩ = cs[i]? := cell_of_row w g i cs t (0, 0) h
theorem Blk.frozen (h : Blk w g t cs) (i : Nat) : w.frozen? ⟨g, i, none⟩ = false := by unfold Blk at h; simp [World.frozen?, h]
theorem Blk.new (w : World) (t : TypeId) (cs : Array Value) : Blk (w.alloc (.cells cs t)) w.heap.size t cs := heap_alloc_new w _
theorem Blk.alloc (h : Blk w g t cs) (o : Obj) : Blk (w.alloc o) g t cs := (Below.heap_alloc w o g h.lt).trans h
theorem Blk.put (h : Blk w g t cs) (i : Nat) (u : Value) : Blk (w.setCell ⟨g, i, none⟩ u) g t (cs.setIfInBounds i u) := by
  unfold Blk at h ⊢; simp [World.setCell, Array.getElem?_modify, h]
theorem Blk.far (h : Blk w g t cs) {p : Addr} (hp : g ≠ p.block) (u : Value) : Blk (w.setCell p u) g t cs := (Below.heap_setCell w p u g hp).trans h
theorem Blk.grown {row : Option Nat} (h : Blk w g t cs) (hb : w.grownBy w' row) (hg : some g ≠ row) : Blk w' g t cs := (hb.block g h.lt hg).trans h
theorem Blk.ne {g' : Nat} {t' : TypeId} {cs' : Array Value} (h : Blk w g t cs) (h' : Blk w g' t' cs') (hne : t ≠ t') : g ≠ g' := by
  rintro rfl
  have e := (show w.heap[g]? = _ from h).symm.trans h'
  simp at e
  exact hne e.2
theorem Blk.keep {O : Nat → Prop} (h : Blk w g t cs) (hk : Keep O w w') (hg : ¬ O g) : Blk w' g t cs := (hk.block g h.lt hg).trans h
end

end Go.Proofs.YtpkcjokkadfhcaaDoor
