/-
  Words for memory that the walks of vary share: what a step keeps (Keep), a slice of bytes that reads as a list (Rd), one that the call owns (OwnB), and append of the one onto the other. No conditions.
-/
import Derived.Test.YtpkcjokkadfhcaaDoorVEnc
import Derived.Test.YtpkcjokkadfhcaaDoorKMem
import Derived.Maps.AppendAt
import Derived.Deep.Draws
import Derived.Deep.AppendLies
import Derived.Deep.QuietTactic
import Derived.BigQuiet
import Derived.Deep.RegionHeld3
import Derived.Deep.RegionLaw
namespace Go.Proofs.YtpkcjokkadfhcaaDoor.V
open Go.RowKit

/-- A slice's address, from which the bytes l stand. -/
def Rd (w : World) (A : Option Addr) (l : List UInt8) : Prop :=
  0 < l.length → ∃ ad, A = some ad ∧ ∀ j u, (bvs l)[j]? = some u → w.cell? (ad.add j) = some u
theorem block_add (a : Addr) (n : Nat) : (a.add n).block = a.block := by unfold Addr.add; split <;> rfl
theorem add_add (a : Addr) (i j : Nat) : (a.add i).add j = a.add (i + j) := by
  unfold Addr.add
  by_cases hi : i = 0 <;> by_cases hj : j = 0 <;> simp [hi, hj, Nat.add_assoc]
theorem Rd.none_ (w : World) (A : Option Addr) : Rd w A [] := fun h => by simp at h
theorem Rd.keep {O : Nat → Prop} {w w' : World} {A : Option Addr} {l : List UInt8} (h : Rd w A l) (hk : Keep O w w') (hA : ∀ ad, A = some ad → 0 < l.length → ¬ O ad.block) : Rd w' A l := fun h0 => by
  obtain ⟨ad, e, hc⟩ := h h0
  exact ⟨ad, e, fun j u hu => hk.cell (hc j u hu) (by rw [block_add]; exact hA ad e h0)⟩
theorem Rd.lt {w : World} {A : Option Addr} {l : List UInt8} (h : Rd w A l) {ad : Addr} (e : A = some ad) (h0 : 0 < l.length) : ad.block < w.heap.size := by
  obtain ⟨ad', e', hc⟩ := h h0
  rw [e] at e'; cases e'
  have := World.block_lt_of_cell? w _ (hc 0 (bv l[0]) (by simp [h0]))
  rwa [block_add] at this

/-- The slice v of bytes l is the call's own, in a block of O. -/
def OwnB (w : World) (O : Nat → Prop) (v : Value) (l : List UInt8) : Prop :=
  w.ownsRow 0 5 1 v l.length (bvs l) ∧ ∀ g, v.ownBlock = some g → O g
section
variable {w w' : World} {O O' : Nat → Prop} {v : Value} {l : List UInt8}
theorem OwnB.nil (w : World) (O : Nat → Prop) : OwnB w O (.slice none 0 0) [] := ⟨World.ownsRow_nil _ _ _ _, by simp [Value.ownBlock]⟩
theorem OwnB.mono (h : OwnB w O v l) (hO : ∀ k, O k → k < w.heap.size → O' k) : OwnB w O' v l := ⟨h.1, fun g e => hO g (h.2 g e) (h.1.lt g e).2⟩
theorem ownsRow_keep {base n : Nat} {xs : List Value} (h : w.ownsRow base 5 1 v n xs) (hk : Keep O w w') (hn : ∀ g, v.ownBlock = some g → ¬ O g) : w'.ownsRow base 5 1 v n xs := by
  refine ⟨h.1, ?_⟩
  rcases h.2 with h2 | ⟨g, cap, cur, rfl, hb, hh, r⟩
  · exact .inl h2
  · exact .inr ⟨g, cap, cur, rfl, hb, (hk.block g (Array.getElem?_eq_some_iff.1 hh).1 (hn g rfl)).trans hh, r⟩
theorem OwnB.keep (h : OwnB w O v l) (hk : Keep O' w w') (hn : ∀ k, O k → ¬ O' k) : OwnB w' O v l := ⟨ownsRow_keep h.1 hk (fun g e => hn g (h.2 g e)), h.2⟩
theorem OwnB.form (h : OwnB w O v l) : ∃ A c, v = .slice A l.length c ∧ l.length ≤ c ∧ Rd w A l ∧ (∀ ad, A = some ad → O ad.block ∧ ad = ⟨ad.block, 0, none⟩) ∧ c ≤ maxLen := by
  rcases h.1.2 with ⟨rfl, hn⟩ | ⟨g, cap, cur, rfl, _, hh, hc, hm, _⟩
  · have : l = [] := List.length_eq_zero_iff.1 hn
    subst this
    exact ⟨none, 0, rfl, Nat.le_refl _, Rd.none_ _ _, by simp, by simp⟩
  · refine ⟨_, cap, rfl, hc, fun _ => ⟨_, rfl, h.1.cells (g := g) rfl⟩, ?_, hm⟩
    intro ad e
    cases e
    exact ⟨h.2 g rfl, rfl⟩
theorem OwnB.not_blk {g : Nat} {t : TypeId} {cs : Array Value} (h : OwnB w O v l) (hb : Blk w g t cs) (ht : t ≠ 5) : v.ownBlock ≠ some g := by
  rcases h.1.2 with ⟨rfl, _⟩ | ⟨g', cap, cur, rfl, _, hh, _⟩
  · simp [Value.ownBlock]
  · intro e
    obtain rfl : g' = g := by simpa [Value.ownBlock] using e
    exact Blk.ne hb (t' := 5) hh ht rfl
end

theorem bvs_one (l : List UInt8) : ∀ u ∈ bvs l, u.oneCell' = true := by
  intro u hu
  obtain ⟨b, _, rfl⟩ := List.mem_map.1 hu
  rfl

/-- append of bytes that are read onto bytes that are owned. -/
theorem run_append_rd (w : World) (v : Value) (xs l : List UInt8) (A : Option Addr) (c : Nat) (ty : TypeId)
    (hown : w.ownsRow 0 5 1 v xs.length (bvs xs)) (hr : Rd w A l) (hb : xs.length + l.length ≤ 140737488355328) :
    ∃ v' w', (Builtin.append_ #[49, 49] ty #[v, .slice A l.length c]).run Tryd.prog w = .ok v' w' ∧ w'.ownsRow 0 5 1 v' (xs ++ l).length (bvs (xs ++ l)) ∧ w.grownBy w' v.ownBlock ∧
      (v'.ownBlock = v.ownBlock ∨ v'.ownBlock = some w.heap.size) ∧ (v = .slice none 0 0 → 0 < l.length → v'.ownBlock = some w.heap.size) := by
  obtain ⟨i0, hi, hz0, hz1, hz2⟩ := info_parts u8_info
  rcases A with _ | ad
  · have hl : l = [] := by
      rcases Nat.eq_zero_or_pos l.length with h0 | h0
      · exact List.length_eq_zero_iff.1 h0
      · obtain ⟨ad, e, _⟩ := hr h0; cases e
    subst hl
    refine ⟨v, w, ?_, by simpa using hown, World.grownBy.refl w _, .inl rfl, fun _ h => by simp at h⟩
    rcases hown.2 with ⟨rfl, h0⟩ | ⟨g, cap, cur, rfl, _, _, hnc, _⟩
    · simp [Builtin.append_, run_underlying Tryd.underlying49, sizeOf, typeInfo, hi, Builtin.lenOf, Builtin.firstCells]
    · simp [Builtin.append_, run_underlying Tryd.underlying49, sizeOf, typeInfo, hi, Builtin.lenOf, Builtin.firstCells, hnc, storeCells]
  · have hcells : ∀ j u, (bvs l)[j]? = some u → w.cell? (ad.add j) = some u := by
      intro j u hu
      rcases Nat.eq_zero_or_pos l.length with h0 | h0
      · have : l = [] := List.length_eq_zero_iff.1 h0
        subst this; simp at hu
      · obtain ⟨ad', e, hc⟩ := hr h0
        cases e; exact hc j u hu
    obtain ⟨v', w', hrun, h2, h3, h4, h5⟩ := run_append_own_at (P := Tryd.prog) w 0 49 ty 5 i0 (.int .u8 0) 1 1 Tryd.underlying49 hi hz0 hz1 hz2 rfl (by decide) v xs.length (bvs xs) hown ad l.length c (bvs l) (by simp) hcells (bvs_one l) (by unfold maxLen; omega) (by omega) (Nat.zero_le _)
    refine ⟨v', w', hrun, by simpa using h2, h3, h5, fun e h0 => ?_⟩
    subst e
    rcases h5 with h5 | h5
    · exfalso
      have : v' ≠ .slice none 0 0 := fun e => by have := (h4.1 e).2; omega
      rcases h2.2 with ⟨e, _⟩ | ⟨g, cap, cur, e, _⟩
      · exact this e
      · rw [e] at h5; simp [Value.ownBlock] at h5
    · exact h5

theorem wp_append_rd {o : Oper} {a : Act} {K : Act → World → Prop} {Q : Exit → Act → World → Prop} (w : World) (s x : Operand)
    (ho : o.op = .call { callee := .builtin .append, args := #[s, x], argTypes := #[49, 49] })
    (v : Value) (xs l : List UInt8) (A : Option Addr) (c : Nat) (hs : a.eval s = v) (hown : w.ownsRow 0 5 1 v xs.length (bvs xs)) (hx : a.eval x = .slice A l.length c) (hr : Rd w A l)
    (hb : xs.length + l.length ≤ 140737488355328)
    (h : ∀ v' w', w'.ownsRow 0 5 1 v' (xs ++ l).length (bvs (xs ++ l)) → w.grownBy w' v.ownBlock → (v'.ownBlock = v.ownBlock ∨ v'.ownBlock = some w.heap.size) → K (a.put o.dst v') w') : o.wp Tryd.prog a w K Q := by
  obtain ⟨v', w', hrun, h2, h3, h4, _⟩ := run_append_rd w v xs l A c o.type hown hr hb
  unfold Oper.wp execOp
  simp only [ho, resolve, invoke, builtin, Sem.run_bind, Sem.run_pure, Result.andThen_ok, List.map_toArray, List.map_cons, List.map_nil, hs, hx, hrun]
  exact h v' w' h2 h3 h4

theorem wpList_append_rd {ops : Array Oper} {rest : List Oper} {o : Oper} {a : Act} {Q : Exit → Act → World → Prop} (w : World) (hgd : o.guard = none) (s x : Operand)
    (ho : o.op = .call { callee := .builtin .append, args := #[s, x], argTypes := #[49, 49] })
    (v : Value) (xs l : List UInt8) (A : Option Addr) (c : Nat) (hs : a.eval s = v) (hown : w.ownsRow 0 5 1 v xs.length (bvs xs)) (hx : a.eval x = .slice A l.length c) (hr : Rd w A l)
    (hb : xs.length + l.length ≤ 140737488355328)
    (h : ∀ v' w', w'.ownsRow 0 5 1 v' (xs ++ l).length (bvs (xs ++ l)) → w.grownBy w' v.ownBlock → (v'.ownBlock = v.ownBlock ∨ v'.ownBlock = some w.heap.size) → wpList Tryd.prog ops Q rest (a.put o.dst v') w') :
    wpList Tryd.prog ops Q (o :: rest) a w :=
  wpList_plain hgd fun _ hK => wp_append_rd w s x ho v xs l A c hs hown hx hr hb fun v' w' h2 h3 h4 => hK _ _ (h v' w' h2 h3 h4)

theorem own_form {w : World} {base n : Nat} {v : Value} {xs : List Value} (h : w.ownsRow base 5 1 v n xs) : ∃ A c, v = .slice A n c := by
  rcases h.2 with ⟨rfl, rfl⟩ | ⟨g, cap, cur, rfl, _⟩
  · exact ⟨_, _, rfl⟩
  · exact ⟨_, _, rfl⟩

/-- The same as one step of a region that draws its order; the new slice is written out. -/
theorem step_append_rd {ops : Array Oper} {o : Oper} {a : Act} {K : Act → World → Prop} {Q : Exit → Act → World → Prop} {E : Prop} (w : World) (hgd : o.guard = none) (s x : Operand)
    (ho : o.op = .call { callee := .builtin .append, args := #[s, x], argTypes := #[49, 49] })
    (v : Value) (xs l : List UInt8) (A : Option Addr) (c : Nat) (hs : a.eval s = v) (hown : w.ownsRow 0 5 1 v xs.length (bvs xs)) (hx : a.eval x = .slice A l.length c) (hr : Rd w A l)
    (hb : xs.length + l.length ≤ 140737488355328)
    (h : ∀ A' c' w', w'.ownsRow 0 5 1 (.slice A' (xs ++ l).length c') (xs ++ l).length (bvs (xs ++ l)) → w.grownBy w' v.ownBlock → ((Value.slice A' (xs ++ l).length c').ownBlock = v.ownBlock ∨ (Value.slice A' (xs ++ l).length c').ownBlock = some w.heap.size) → K (a.put o.dst (.slice A' (xs ++ l).length c')) w') :
    if Region.wanted o (yielded ops a.tmps) = true then Oper.wp Tryd.prog o a w K Q else E := by
  have hw : Region.wanted o (yielded ops a.tmps) = true := by simp [Region.wanted, hgd]
  rw [if_pos hw]
  refine wp_append_rd w s x ho v xs l A c hs hown hx hr hb fun v' w' h2 h3 h4 => ?_
  obtain ⟨A', c', rfl⟩ := own_form h2
  exact h A' c' w' h2 h3 h4

end Go.Proofs.YtpkcjokkadfhcaaDoor.V
