/-
  A map from numbers to functions that a call makes, fills and asks; a function may hold one captured variable, in a cell of its own. No conditions.
-/
import Derived.Test.YtoljghgmpilecaaDoorKMem
import Derived.Maps.Own
import Derived.Maps.OwnOps
import Derived.Maps.OwnSet
import Derived.Maps.Views
import Derived.Maps.Keyed
namespace Go.Proofs.YtoljghgmpilecaaDoor
open Go.RowKit Go.Maps

def fnD (f : Nat) : DataW Unit := .lit (.int .i64 (f : Int))
def boxD (f n : Nat) : DataW Unit := .agg [.lit (.int .i64 (f : Int)), .lit (.int .i64 (n : Int))]
/-- A function with one captured variable, which lies in block n. -/
def boxF (f n : Nat) : Value := .func (.func f) #[] #[.pointer (some ⟨n, 0, none⟩)]

/-- A plain function's number; one with a captured variable: its number and the variable's block; nil reads as nil. -/
def funElem : Value → Option (DataW Unit × List MemPlace)
  | .func (.func f) a b =>
    if a.size = 0 then
      (match b.toList with
        | [] => some (fnD f, [])
        | [.pointer (some ⟨n, 0, none⟩)] => some (boxD f n, [])
        | _ => none)
    else none
  | .nilFunc => some (.nil, [])
  | _ => none
theorem funElem_mk (f : Nat) : funElem (.func (.func f) #[] #[]) = some (fnD f, []) := by simp [funElem]
theorem funElem_box (f n : Nat) : funElem (boxF f n) = some (boxD f n, []) := by simp [funElem, boxF]
theorem funElem_inv {v : Value} {f : Nat} {ps : List MemPlace} (h : funElem v = some (fnD f, ps)) : v = .func (.func f) #[] #[] := by
  unfold funElem at h
  split at h
  · rename_i g a b
    split at h
    · rename_i hs
      obtain rfl := Array.size_eq_zero_iff.1 hs
      split at h
      · rename_i hb
        injection h with h
        injection h with h _
        unfold fnD at h
        injection h with h
        injection h with _ h
        have hg : g = f := by exact_mod_cast h
        have hb' : b = #[] := Array.toList_inj.1 hb
        rw [hg, hb']
      · injection h with h
        injection h with h _
        cases h
      · cases h
    · cases h
  · injection h with h
    injection h with h _
    cases h
  · cases h
theorem funElem_inv_box {v : Value} {f n : Nat} {ps : List MemPlace} (h : funElem v = some (boxD f n, ps)) : v = boxF f n := by
  unfold funElem at h
  split at h
  · rename_i g a b
    split at h
    · rename_i hs
      obtain rfl := Array.size_eq_zero_iff.1 hs
      split at h
      · injection h with h
        injection h with h _
        cases h
      · rename_i m hb
        injection h with h
        injection h with h _
        unfold boxD at h
        injection h with h
        injection h with h1 h2
        injection h1 with h1
        injection h1 with _ h1
        injection h2 with h2 _
        injection h2 with h2
        injection h2 with _ h2
        have hg : g = f := by exact_mod_cast h1
        have hm : m = n := by exact_mod_cast h2
        have hb' : b = #[.pointer (some ⟨m, 0, none⟩)] := Array.toList_inj.1 hb
        rw [hg, hb', hm]; rfl
      · cases h
    · cases h
  · injection h with h
    injection h with h _
    cases h
  · cases h

/-- The cells of captured variables: block and what lies there. -/
def Boxes (b : Nat) (cs : List (Nat × Value)) (w : World) : Prop := ∀ c ∈ cs, c.1 ≠ b ∧ w.cell? ⟨c.1, 0, none⟩ = some c.2

/-- The map that is being filled, in block b, new since w0, and the cells of what its functions captured. -/
def FMap (P : Program) (k : TypeId) (w0 : World) (b n : Nat) (D : DataW Unit) (cs : List (Nat × Value)) (w : World) : Prop := w.ownsMap P k funElem b n D ∧ Keep NoB w0 w ∧ w0.heap.size ≤ b ∧ Boxes b cs w
theorem fmap_new (P : Program) (k : TypeId) (w0 w : World) (hk : Keep NoB w0 w) : FMap P k w0 w.heap.size 0 (.map []) [] (w.alloc (.map #[] 0)) :=
  ⟨World.ownsMap_made w P k funElem, hk.alloc _, hk.size, fun _ h => by cases h⟩

theorem wpList_insert_fun {P : Program} (w0 w : World) {ops : Array Oper} {rest : List Oper} {o : Oper} {a : Act} {Q : Exit → Act → World → Prop}
    (hg : o.guard = none) (m x v : Operand) (t : TypeId) (hop : o.op = Op.insert t m x v)
    (k e : TypeId) (K : Keyed P k) (ht : P.underlying t = some (.map k e)) (b n : Nat) (D : DataW Unit) (cs : List (Nat × Value))
    (hm : a.eval m = .map (some b)) (hown : FMap P k w0 b n D cs w) (hn : n < maxLen) (key val : Value) (kl : Lit) (hx : a.eval x = key) (hv : a.eval v = val) (hkey : keyOf P k key = some kl)
    (d : DataW Unit) (ps : List MemPlace) (hval : funElem val = some (d, ps))
    (hK : ∀ w', FMap P k w0 b (n + 1) (D.put kl d) cs w' → wpList P ops Q rest (a.put o.dst undef) w') :
    wpList P ops Q (o :: rest) a w := by
  refine wpList_plain hg fun K' hK' => ?_
  obtain ⟨h1, h2, h3, h4⟩ := hown
  obtain ⟨w', hrun, r1, r2⟩ := h1.update K ht hn hkey hval
  unfold Oper.wp
  simp [execOp, hop, hm, hx, hv, hrun, Result.andThen]
  refine hK' _ _ (hK w' ⟨r1, h2.grown r2 (fun g e hlt => by cases e; omega), h3, fun c hc => ⟨(h4 c hc).1, ?_⟩⟩)
  have hc' := (h4 c hc).2
  exact (World.cell?_of_block (r2.block _ (World.block_lt_of_cell? w _ hc') (fun e => (h4 c hc).1 (by injection e)))).trans hc'

/-- A step that keeps all that lies, and makes a cell. -/
theorem FMap.boxed {P : Program} {k : TypeId} {w0 w w' : World} {b n : Nat} {D : DataW Unit} {cs : List (Nat × Value)} (h : FMap P k w0 b n D cs w) (hk : Keep NoB w w') {m : Nat} {v : Value}
    (hm : w.heap.size ≤ m) (hc : w'.cell? ⟨m, 0, none⟩ = some v) : FMap P k w0 b n D ((m, v) :: cs) w' := by
  obtain ⟨h1, h2, h3, h4⟩ := h
  have hb := h1.lt
  obtain ⟨es, clock, e1, F, hs, hD⟩ := h1
  refine ⟨⟨es, clock, (hk.block b hb (fun hf => hf.elim)).trans e1, F, hs, hD⟩, keepN h2 hk, h3, fun c hc' => ?_⟩
  rcases List.mem_cons.1 hc' with rfl | hc'
  · exact ⟨by have := hm; simp only; omega, hc⟩
  · exact ⟨(h4 c hc').1, hk.cell (h4 c hc').2 (fun hf => hf.elim)⟩

end Go.Proofs.YtoljghgmpilecaaDoor
