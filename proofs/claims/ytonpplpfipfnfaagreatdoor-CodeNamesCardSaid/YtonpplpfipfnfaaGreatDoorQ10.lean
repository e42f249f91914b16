/-
  The iterator of the places that an instruction makes heads. Conditions: the instruction, and its place, lie in memory.
  A map from numbers to numbers that a call makes: what each key has. No program, no conditions.
  What headsMet of layer code answers: a map in which each place has as often as it is noted. Conditions: the list lies in memory, and is a body.
  What Heads of layer code answers: a body's heads, rising. Conditions: the list lies in memory.
  What the laws' own alive answers: true. Conditions: the listed package-level variables hold what their initialisers lay.
  CodeBack's walk: a body is read from its bytes, whatever stands behind them, as it was; what is read of any bytes has just these. Conditions: the listed package-level variables hold what their initialisers lay; numbers fit an int64; list and bytes lie in memory.
  CodeCounts' walk: of all ops together there are as many as instructions that may be; a body has one that ends at least. Conditions: the listed package-level variables hold what their initialisers lay; the list lies in memory.
-/
import Derived.Maps.Keyed
import Derived.Maps.Own
import Derived.Maps.OwnIn
import Derived.Maps.OwnOps
import Derived.Maps.OwnSet
import Derived.Maps.Views
import Derived.WalkArith
import Derived.Test.YtonpplpfipfnfaaGreatDoorQ3
import Derived.Test.YtonpplpfipfnfaaGreatDoorQ6
import Derived.Test.YtonpplpfipfnfaaGreatDoorQ4
import Derived.Test.YtonpplpfipfnfaaGreatDoorQ2
import Derived.Test.YtonpplpfipfnfaaGreatDoorQ9
import Derived.Test.YtonpplpfipfnfaaGreatDoorQ8
namespace Go.Proofs.YtonpplpfipfnfaaGreatDoor.C
open Go.RowKit Go.Shelf O
attribute [local go_sem] Oper.semAt_some

/-- A place that is told. -/
abbrev HdN := { h : Int // 0 ≤ h ∧ h ≤ 512 }
abbrev hdE (x : HdN) : Array Value := #[.int .i64 x.1]
/-- All that is told of an instruction. -/
def fullL (x : I3) (k : Nat) : List Int := (if gB x = true then [gN x] else []) ++ (if (gB x || eB x) = true then [((k + 1 : Nat) : Int)] else [])
/-- What is cells lies as it lay. -/
def CellsK (W W' : World) : Prop := W.heap.size ≤ W'.heap.size ∧ ∀ (k : Nat) (o : Obj), W.heap[k]? = some o → o.isCells = true → W'.heap[k]? = some o
theorem CellsK.trans {A B C : World} (h : CellsK A B) (h' : CellsK B C) : CellsK A C := ⟨Nat.le_trans h.1 h'.1, fun k o hk ho => h'.2 k o (h.2 k o hk ho) ho⟩
theorem CellsK.of_keep {A B : World} (h : Keep NoB A B) : CellsK A B := ⟨h.size, fun k _ hk _ => (h.block k (Array.getElem?_eq_some_iff.1 hk).1 id).trans hk⟩
theorem CellsK.putObj (W : World) (l : Nat) (o o' : Obj) (hl : W.heap[l]? = some o) (ho : o.isCells = false) : CellsK W (W.putObj l o') :=
  ⟨by simp [World.putObj], fun k o2 hk h2 => by
    have hne : k ≠ l := by rintro rfl; rw [hl] at hk; cases hk; rw [ho] at h2; cases h2
    exact (World.putObj_heap_other hne).trans hk⟩
theorem CellsK.blk {A B : World} {g : Nat} {t : TypeId} {cs : Array Value} (h : CellsK A B) (hb : Blk A g t cs) : Blk B g t cs := h.2 _ _ hb rfl

theorem full_go {x : I3} {k : Nat} (h : gB x = true) : fullL x k = [gN x, ((k + 1 : Nat) : Int)] := by unfold fullL; rw [h]; simp
theorem full_end {x : I3} {k : Nat} (h : gB x = false) (h2 : eB x = true) : fullL x k = [((k + 1 : Nat) : Int)] := by unfold fullL; rw [h, h2]; simp
theorem full_no {x : I3} {k : Nat} (h : gB x = false) (h2 : eB x = false) : fullL x k = [] := by unfold fullL; rw [h, h2]; simp

set_option maxRecDepth 100000 in
set_option maxHeartbeats 4000000 in
theorem made1_in (m l : Nat) (hm : 1 ≤ m) (bx bk : Nat) (op a b : Int) (k : Nat) (hk5 : k < 512) (J Jx : List HdN → World → Prop) (hJk : ∀ pre W W', J pre W → Keep NoB W W' → J pre W')
    (hY : ∀ pre x W, J pre W → pre.length < 2 → YieldAt Fence.wide (m - 1) Tryz.prog l (hdE x) W fun e W' =>
      (e = .returned (.bool true) ∧ J (pre ++ [x]) W' ∧ CellsK W W') ∨ (e = .returned (.bool false) ∧ Jx (pre ++ [x]) W'))
    (W : World) (hx : Blk W bx 46 #[.int .i64 op, .int .i64 a, .int .i64 b]) (hk : Blk W bk 3 #[.int .i64 k]) (h0 : J [] W) :
    CallsIn Fence.wide m Tryz.prog 96 #[.func (.yield l) #[] #[], .pointer (some ⟨bx, 0, none⟩), .pointer (some ⟨bk, 0, none⟩)] W fun e W' => (∃ v, e = .returned v) ∧
      ((∃ ys : List HdN, ys.map (·.1) = fullL (op, a, b) k ∧ J ys W') ∨ (∃ pre : List HdN, (∃ post, pre.map (·.1) ++ post = fullL (op, a, b) k) ∧ Jx pre W')) := by
  obtain ⟨c0, c1, c2⟩ := blk3 hx
  have ck := hk.cell 0
  simp at ck
  have hlast : (0 : Int) ≤ (k : Int) + 1 ∧ (k : Int) + 1 ≤ 512 := by omega
  cases hg : goesI op a b
  · have HG := Lib.hid (fun w => goes_gen op a b 0 false w (gN_no (x := (op, a, b)) hg) hg)
    cases he : endsI op a b
    · have HE := Lib.hid (fun w => ends_gen op a b false w he)
      have HF := Lib.hid (full_no (x := (op, a, b)) (k := k) hg he)
      clear hg he hY
      refine callsIn_of_wp Tryz.func96 rfl trivial ?_ rfl
      simp only [Tryz.ntmps96, List.size_toArray, List.length_cons, List.length_nil, Nat.reduceAdd, Nat.reduceSub, Array.replicate_succ, Array.replicate_zero, List.push_toArray, List.append_toArray, List.nil_append, List.cons_append]
      gi_wp2_with (refine ⟨trivial, ?_⟩; (try refine ⟨fun _ => hm, ?_⟩); gi_at_call 27; refine (callsIn_wide.2 (HG.out _)).mono ?_; rintro e w1 ⟨rfl, k1⟩)
      have hJ1 := hJk _ _ _ h0 k1
      obtain ⟨d0, d1, d2⟩ := blk3 (hx.keep k1 id)
      clear HG c0 c1 c2
      refine ⟨fun _ h => (by cases h), ?_⟩
      gi_wp2_with (refine ⟨trivial, ?_⟩; (try refine ⟨fun _ => hm, ?_⟩); gi_at_call 28; refine (callsIn_wide.2 (HE.out _)).mono ?_; rintro e w2 ⟨rfl, k2⟩)
      have hJ2 := hJk _ _ _ hJ1 k2
      go_end0
      exact ⟨⟨_, rfl⟩, .inl ⟨[], HF.out.symm, hJ2⟩⟩
    · have HE := Lib.hid (fun w => ends_gen op a b true w he)
      have HF := Lib.hid (full_end (x := (op, a, b)) (k := k) hg he)
      clear hg he
      refine callsIn_of_wp Tryz.func96 rfl trivial ?_ rfl
      simp only [Tryz.ntmps96, List.size_toArray, List.length_cons, List.length_nil, Nat.reduceAdd, Nat.reduceSub, Array.replicate_succ, Array.replicate_zero, List.push_toArray, List.append_toArray, List.nil_append, List.cons_append]
      gi_wp2_with (refine ⟨trivial, ?_⟩; (try refine ⟨fun _ => hm, ?_⟩); gi_at_call 27; refine (callsIn_wide.2 (HG.out _)).mono ?_; rintro e w1 ⟨rfl, k1⟩)
      have hJ1 := hJk _ _ _ h0 k1
      obtain ⟨d0, d1, d2⟩ := blk3 (hx.keep k1 id)
      have hk1 := hk.keep k1 id
      clear HG c0 c1 c2 ck
      refine ⟨fun _ h => (by cases h), ?_⟩
      gi_wp2_with (refine ⟨trivial, ?_⟩; (try refine ⟨fun _ => hm, ?_⟩); gi_at_call 28; refine (callsIn_wide.2 (HE.out _)).mono ?_; rintro e w2 ⟨rfl, k2⟩; have hJ2 := hJk _ _ _ hJ1 k2; have ck : w2.cell? ⟨bk, 0, none⟩ = some (.int .i64 k) := (hk1.keep k2 id).cell 0; obtain ⟨fn, tmps, assign, body, hy, hR⟩ := hY [] ⟨(k : Int) + 1, hlast⟩ w2 hJ2 (by simp); dsimp only [hdE] at hy)
      refine hR.mono ?_
      rintro e W3 (⟨rfl, hJ3, _⟩ | ⟨rfl, hJx3⟩)
      · gi_wp2
        go_end0
        exact ⟨⟨_, rfl⟩, .inl ⟨[⟨(k : Int) + 1, hlast⟩], HF.out.symm, hJ3⟩⟩
      · gi_wp2
        go_end0
        exact ⟨⟨_, rfl⟩, .inr ⟨[⟨(k : Int) + 1, hlast⟩], ⟨[], HF.out.symm⟩, hJx3⟩⟩
  · obtain ⟨to, hto⟩ : ∃ to, goesN op a b = to := ⟨_, rfl⟩
    have HG := Lib.hid (fun w => goes_gen op a b to true w hto hg)
    have hb : 0 ≤ to ∧ to ≤ 512 := by have := gN_in (op, a, b); rw [← hto]; exact ⟨this.1, Int.le_trans this.2 (by decide)⟩
    have HF := Lib.hid (full_go (x := (op, a, b)) (k := k) hg)
    rw [show gN (op, a, b) = to from hto] at HF
    clear hg hto
    refine callsIn_of_wp Tryz.func96 rfl trivial ?_ rfl
    simp only [Tryz.ntmps96, List.size_toArray, List.length_cons, List.length_nil, Nat.reduceAdd, Nat.reduceSub, Array.replicate_succ, Array.replicate_zero, List.push_toArray, List.append_toArray, List.nil_append, List.cons_append]
    gi_wp2_with (refine ⟨trivial, ?_⟩; (try refine ⟨fun _ => hm, ?_⟩); gi_at_call 27; refine (callsIn_wide.2 (HG.out _)).mono ?_; rintro e w1 ⟨rfl, k1⟩; have hJ1 := hJk _ _ _ h0 k1; obtain ⟨fn, tmps, assign, body, hy, hR⟩ := hY [] ⟨to, hb⟩ w1 hJ1 (by simp); dsimp only [hdE] at hy)
    have hk1 := hk.keep k1 id
    clear HG c0 c1 c2 ck
    refine hR.mono ?_
    rintro e W3 (⟨rfl, hJ3, hC⟩ | ⟨rfl, hJx3⟩)
    · have ck : W3.cell? ⟨bk, 0, none⟩ = some (.int .i64 k) := (hC.blk hk1).cell 0
      obtain ⟨fn2, tmps2, assign2, body2, hy2, hR2⟩ := hY _ ⟨(k : Int) + 1, hlast⟩ W3 hJ3 (by simp)
      dsimp only [hdE] at hy2
      clear hy hR
      gi_wp2
      refine ⟨trivial, ?_⟩
      gi_wp2
      refine hR2.mono ?_
      rintro e W4 (⟨rfl, hJ4, _⟩ | ⟨rfl, hJx4⟩)
      · gi_wp2
        go_end0
        exact ⟨⟨_, rfl⟩, .inl ⟨[⟨to, hb⟩, ⟨(k : Int) + 1, hlast⟩], HF.out.symm, hJ4⟩⟩
      · gi_wp2
        go_end0
        exact ⟨⟨_, rfl⟩, .inr ⟨[⟨to, hb⟩, ⟨(k : Int) + 1, hlast⟩], ⟨[], HF.out.symm⟩, hJx4⟩⟩
    · gi_wp2
      refine bodyPost_ret (results_none rfl _ _ _) rfl ?_
      exact ⟨⟨_, rfl⟩, .inr ⟨[⟨to, hb⟩], ⟨[((k + 1 : Nat) : Int)], HF.out.symm⟩, hJx3⟩⟩

end Go.Proofs.YtonpplpfipfnfaaGreatDoor.C

namespace Go.Proofs.YtonpplpfipfnfaaGreatDoor
open Go.RowKit Go.Maps

/-- Block b is a map of at most n keys; each number has what f says. -/
def IMap (P : Program) (k e : TypeId) (b n : Nat) (f : Int → Nat) (w : World) : Prop :=
  ∃ D : DataW Unit, w.ownsMap P k (plainElem P e) b n D ∧ IsMap D ∧ ∀ h : Int, D.atKey (.int .i64 h) (.lit (.int .i64 0)) = .lit (.int .i64 (f h : Int))
section
variable {P : Program} {k e t : TypeId} {b n : Nat} {f : Int → Nat} {w w' : World}
theorem IMap.new (P : Program) (k e : TypeId) (w : World) : IMap P k e w.heap.size 0 (fun _ => 0) (w.alloc (.map #[] 0)) :=
  ⟨.map [], World.ownsMap_made w P k _, isMap_empty, fun _ => rfl⟩
theorem IMap.lt (h : IMap P k e b n f w) : b < w.heap.size := by obtain ⟨_, h, _⟩ := h; exact h.lt
theorem IMap.obj (h : IMap P k e b n f w) : ∃ es c, w.heap[b]? = some (.map es c) := by
  obtain ⟨_, ⟨es, c, hb, _⟩, _⟩ := h
  exact ⟨es, c, hb⟩
theorem IMap.grown {row : Option Nat} (h : IMap P k e b n f w) (hg : w.grownBy w' row) (hne : some b ≠ row) : IMap P k e b n f w' := by
  obtain ⟨D, h1, h2, h3⟩ := h
  exact ⟨D, h1.kept hg hne, h2, h3⟩
theorem IMap.keep {O : Nat → Prop} (h : IMap P k e b n f w) (hk : Keep O w w') (hb : ¬ O b) : IMap P k e b n f w' := by
  obtain ⟨D, ⟨es, c, h0, hr⟩, h2, h3⟩ := h
  exact ⟨D, ⟨es, c, (hk.block b (Array.getElem?_eq_some_iff.1 h0).1 hb).trans h0, hr⟩, h2, h3⟩
theorem IMap.mono {m : Nat} (h : IMap P k e b n f w) (hm : n ≤ m) : IMap P k e b m f w := by
  obtain ⟨D, h1, h2, h3⟩ := h
  exact ⟨D, h1.mono hm, h2, h3⟩
theorem IMap.congr {g : Int → Nat} (h : IMap P k e b n f w) (hg : ∀ x, g x = f x) : IMap P k e b n g w := by
  obtain ⟨D, h1, h2, h3⟩ := h
  exact ⟨D, h1, h2, fun x => by rw [hg]; exact h3 x⟩
/-- What a store of one makes of f. -/
def setF (f : Int → Nat) (x : Int) (v : Nat) : Int → Nat := fun y => if y = x then v else f y
theorem lit_inj {a b : Int} (h : (DataW.lit (.int .i64 a) : DataW Unit) = .lit (.int .i64 b)) : a = b := by injection h with h; injection h with _ h
theorem isMap_put {D : DataW Unit} {f : Int → Nat} {x : Int} {v : Nat} (hD : IsMap D) (h3 : ∀ h : Int, D.atKey (.int .i64 h) (.lit (.int .i64 0)) = .lit (.int .i64 (f h : Int))) :
    ∀ h : Int, (D.put (.int .i64 x) (.lit (.int .i64 (v : Int)))).atKey (.int .i64 h) (.lit (.int .i64 0)) = .lit (.int .i64 (setF f x v h : Int)) := by
  intro h
  unfold setF
  by_cases he : h = x
  · subst he; rw [if_pos rfl]; exact atKey_put_same hD (by unfold WideAt.IsKeyLit; trivial) _ _
  · rw [if_neg he, atKey_put_other (by intro e; injection e with _ e; exact he e)]; exact h3 h
/-- A store. -/
theorem IMap.update (h : IMap P k e b n f w) (ht : P.underlying t = some (.map k e)) (hk : P.underlying k = some (.int .i64)) (he : P.underlying e = some (.int .i64)) (hn : n < maxLen) (x : Int) (v : Nat) (hx : (Lit.int .i64 x).wf = true) (hv : (Lit.int .i64 (v : Int)).wf = true) :
    ∃ w', (Instr.mapUpdate t (.map (some b)) (.int .i64 x) (.int .i64 (v : Int))).run P w = .ok () w' ∧ IMap P k e b (n + 1) (setF f x v) w' ∧ w.grownBy w' (some b) := by
  obtain ⟨D, h1, h2, h3⟩ := h
  obtain ⟨w', hrun, r1, r2⟩ := h1.update (int_keyed hk) ht hn (keyOf_int_mk hk hx) (plainElem_int he hv)
  exact ⟨w', hrun, ⟨_, r1, h2.put _ _, isMap_put h2 h3⟩, r2⟩
/-- A look. -/
theorem IMap.look (h : IMap P k e b n f w) (ht : P.underlying t = some (.map k e)) (hk : P.underlying k = some (.int .i64)) (he : P.underlying e = some (.int .i64)) (hz : (zeroValue e).run P w = .ok (.int .i64 0) w) (x : Int) (hx : (Lit.int .i64 x).wf = true) :
    (Instr.lookup t (.map (some b)) (.int .i64 x) false).run P w = .ok (.int .i64 (f x : Int)) w := by
  obtain ⟨D, h1, h2, h3⟩ := h
  obtain ⟨c, hrun, hat, _⟩ := h1.lookup_int (int_keyed hk) ht he hz (keyOf_int_mk hk hx)
  rw [h3 x] at hat
  rw [lit_inj hat]
  exact hrun
end
end Go.Proofs.YtonpplpfipfnfaaGreatDoor

namespace Go.Proofs.YtonpplpfipfnfaaGreatDoor.C
open Go.RowKit Go.Shelf Go.Maps O
attribute [local go_sem] Oper.semAt_some

theorem cblk_own {β : Type} (B g : Nat) (t : TypeId) (cs : β → Array Value) : OwnFrom B (fun s W => Blk W g t (cs s)) := by
  intro s X Y row h hg hrow
  refine (hg.block g h.lt (fun e => ?_)).trans h
  obtain ⟨_, o, ho, hc⟩ := hrow g e.symm
  rw [show X.heap[g]? = _ from h] at ho
  cases ho; cases hc
theorem ckeep_own {β : Type} {B : Nat} {w0 : World} (O : Nat → Prop) (hB : w0.heap.size ≤ B) : OwnFrom B (fun (_ : β) W => Keep O w0 W) := by
  intro s X Y row h hg hrow
  exact h.grown hg (fun g e hl => by have := (hrow g e).1; omega)
theorem cabides_keep {α : Type} {B : Nat} {J : List α → World → Prop} (h : AbidesFrom B J) : ∀ pre W W', J pre W → Keep NoB W W' → J pre W' := fun pre W W' hj hk => h pre W W' none hj hk.grows (fun r e => by cases e)
theorem Keep_put {O : Nat → Prop} {w W : World} {D : Nat} {o : Obj} (h : Keep O w W) (hD : w.heap.size ≤ D) : Keep O w (W.putObj D o) := h.grown (grownBy_putObj' W D o) (fun g e hl => by cases e; omega)

/-- The marks that loops over functions leave: their rounds deferred nothing. -/
def markOf (D : Nat) : Deferred := { target := .collected D, args := #[] }
def Marks (w : World) (W : World) (Ds : List Nat) : Prop := Ds.Nodup ∧ ∀ D ∈ Ds, w.heap.size ≤ D ∧ W.heap[D]? = some (.deferred (some []))
theorem Marks.nil (w W : World) : Marks w W [] := ⟨List.nodup_nil, fun _ h => by simp at h⟩
theorem Marks.keep {w W W' : World} {Ds : List Nat} (h : Marks w W Ds) (hk : Keep NoB W W') : Marks w W' Ds := ⟨h.1, fun D hD => ⟨(h.2 D hD).1, (hk.block D (Array.getElem?_eq_some_iff.1 (h.2 D hD).2).1 id).trans (h.2 D hD).2⟩⟩
theorem Marks.grown {w W W' : World} {Ds : List Nat} {row : Option Nat} (h : Marks w W Ds) (hg : W.grownBy W' row) (hr : ∀ r, row = some r → r ∉ Ds) : Marks w W' Ds :=
  ⟨h.1, fun D hD => ⟨(h.2 D hD).1, (hg.block D (Array.getElem?_eq_some_iff.1 (h.2 D hD).2).1 (fun e => hr D e.symm hD)).trans (h.2 D hD).2⟩⟩
theorem Marks.lt {w W : World} {Ds : List Nat} (h : Marks w W Ds) {D : Nat} (hD : D ∈ Ds) : D < W.heap.size := (Array.getElem?_eq_some_iff.1 (h.2 D hD).2).1
theorem Marks.cons {w W : World} {Ds : List Nat} {D : Nat} (h : Marks w W Ds) (hn : D ∉ Ds) (hw : w.heap.size ≤ D) (hD : W.heap[D]? = some (.deferred (some []))) : Marks w W (D :: Ds) :=
  ⟨List.nodup_cons.2 ⟨hn, h.1⟩, fun E hE => by
    rcases List.mem_cons.1 hE with rfl | hE
    · exact ⟨hw, hD⟩
    · exact h.2 E hE⟩
theorem leaves_marks {F : Fence} {n : Nat} {P : Program} {fn : Func} {tmps : Array Value} {R : Ending → World → Prop} {w : World} (T : World → Prop) (hT : ∀ (D : Nat) W, w.heap.size ≤ D → W.heap[D]? = some (.deferred (some [])) → T W → T (W.putObj D (.deferred none)))
    (hR : ∀ W, T W → LeavesIn F n P fn tmps R [] .returning W) : ∀ (Ds : List Nat) (W : World), Marks w W Ds → T W → LeavesInM F n P fn tmps R (Ds.map markOf) .returning W
  | [], W, _, h => hR W h
  | D :: Ds, W, hm, h => by
    have hD := hm.2 D (by simp)
    have hn := List.nodup_cons.1 hm.1
    refine ⟨by simp, .inl ⟨D, _, rfl, run_takeDeferred hD.2, leaves_marks T hT hR Ds _ ⟨hn.2, fun E hE => ?_⟩ (hT D W hD.1 hD.2 h)⟩⟩
    have hE' := hm.2 E (by simp [hE])
    exact ⟨hE'.1, (World.putObj_heap_other (by rintro rfl; exact hn.1 hE)).trans hE'.2⟩

theorem madeBy_any (op a b : Int) (k : Int) (w : World) : Calls Tryz.prog 69 #[instV op a b, .int .i64 k] w fun e w' =>
    e = .returned (.func (.func 96) #[] #[.pointer (some ⟨w.heap.size, 0, none⟩), .pointer (some ⟨w.heap.size + 1, 0, none⟩)]) ∧ Blk w' w.heap.size 46 #[.int .i64 op, .int .i64 a, .int .i64 b] ∧ Blk w' (w.heap.size + 1) 3 #[.int .i64 k] ∧ Keep NoB w w' := by
  go_enter Tryz.func69, Tryz.ntmps69
  go_wp2
  go_ret
  have h2 := Blk.new (w.alloc (.cells #[.int .i64 op, .int .i64 a, .int .i64 b] 46)) 3 #[.int .i64 k]
  rw [World.size_alloc] at h2
  exact ⟨rfl, (Blk.new w _ _).alloc _, h2, ((Keep.refl NoB w).alloc _).alloc _⟩

theorem made_stops (m : Nat) (hm : 1 ≤ m) (bx bk : Nat) (op a b : Int) (k : Nat) (hk5 : k < 512) (w : World) (hx : Blk w bx 46 #[.int .i64 op, .int .i64 a, .int .i64 b]) (hk : Blk w bk 3 #[.int .i64 k]) :
    SeqStopsK Fence.wide m Tryz.prog 96 #[.pointer (some ⟨bx, 0, none⟩), .pointer (some ⟨bk, 0, none⟩)] hdE CellsK (fun ys : List HdN => ys.map (·.1) = fullL (op, a, b) k) (fun pre : List HdN => ∃ post, pre.map (·.1) ++ post = fullL (op, a, b) k) 2 w := fun l J Jx W hb hJ _ hY h0 =>
  made1_in m l hm bx bk op a b k hk5 J Jx (cabides_keep hJ) hY W (Blk.keep hx (Keep.of_below (O := NoB) hb) id) (Blk.keep hk (Keep.of_below (O := NoB) hb) id) h0

/-- What the walk keeps: the boxes, the map, the marks. -/
def MetI (w : World) (A : Option Addr) (n c bl bm b N : Nat) (f : Int → Nat) (Ds : List Nat) (W : World) : Prop :=
  (Blk W bl 22 #[.slice A n c] ∧ Blk W bm 58 #[.map (some b)]) ∧ IMap Tryz.prog 3 3 b N f W ∧ (Keep NoB w W ∧ w.heap.size ≤ b ∧ b ∉ Ds) ∧ Marks w W Ds
theorem MetI.keep {w : World} {A : Option Addr} {n c bl bm b N : Nat} {f : Int → Nat} {Ds : List Nat} {W W' : World} (h : MetI w A n c bl bm b N f Ds W) (hk : Keep NoB W W') : MetI w A n c bl bm b N f Ds W' :=
  ⟨⟨h.1.1.keep hk id, h.1.2.keep hk id⟩, h.2.1.keep hk id, ⟨keepN h.2.2.1.1 hk, h.2.2.1.2⟩, h.2.2.2.keep hk⟩
theorem metI_own {β : Type} {w : World} {A : Option Addr} {n c bl bm b B : Nat} {N : β → Nat} {f : β → Int → Nat} {Ds : List Nat} (hw : w.heap.size ≤ B) (hb : b < B) (hD : ∀ D ∈ Ds, D < B) : OwnFrom B (fun (s : β) W => MetI w A n c bl bm b (N s) (f s) Ds W) := by
  rintro s X Y row ⟨⟨h1, h2⟩, h3, ⟨h4, h5⟩, h6⟩ hg hrow
  exact ⟨⟨cblk_own (β := Unit) _ _ _ (fun _ => _) () _ _ _ h1 hg hrow, cblk_own (β := Unit) _ _ _ (fun _ => _) () _ _ _ h2 hg hrow⟩, h3.grown hg (fun e => by have := (hrow _ e.symm).1; omega),
    ⟨ckeep_own (β := Unit) _ hw () _ _ _ h4 hg hrow, h5⟩, h6.grown hg (fun r e hr => by have := (hrow r e).1; have := hD r hr; omega)⟩

theorem cellsK_grown {W W' : World} {b : Nat} (hg : W.grownBy W' (some b)) (hb : ∃ es c, W.heap[b]? = some (.map es c)) : CellsK W W' :=
  ⟨hg.size, fun k o hk ho => (hg.block k (Array.getElem?_eq_some_iff.1 hk).1 (fun e => by
    cases e
    obtain ⟨es, c, hb⟩ := hb
    rw [hb] at hk; cases hk; cases ho)).trans hk⟩

/-- One more place noted. -/
theorem setF_count (f : Int → Nat) (pre : List Int) (x : Int) (y : Int) : setF (fun h => f h + pre.count h) x (f x + pre.count x + 1) y = f y + (pre ++ [x]).count y := by
  unfold setF
  rw [List.count_append, List.count_singleton]
  by_cases h : y = x
  · subst h; simp; omega
  · have : (x == y) = false := by rw [beq_eq_false_iff_ne]; exact fun e => h e.symm
    rw [if_neg h, this]; simp

theorem made_done {n k : Nat} {x : I3} (hk : k < n) (h : ∀ y ∈ fullL x k, y ≠ (n : Int)) : madeL n x k = fullL x k := by
  unfold madeL fullL at *
  cases hg : (gB x || eB x)
  · simp
  · rw [hg] at h
    have := h ((k + 1 : Nat) : Int) (by simp)
    have hlt : k + 1 < n := by omega
    simp [hlt]
theorem made_stop {n k : Nat} {x : I3} {q post : List Int} (hit : itemB n x = true) (h : q ++ (n : Int) :: post = fullL x k) : madeL n x k = q := by
  have h2 := (item_parts hit).2
  have hlen := congrArg List.length h
  cases hg : gB x
  · cases he : eB x
    · rw [full_no hg he] at hlen; simp at hlen
    · rw [full_end hg he] at h hlen
      rcases q with _ | ⟨z, q⟩
      · simp only [List.nil_append, List.cons.injEq] at h
        have hlt : ¬ k + 1 < n := by omega
        unfold madeL
        simp [hg, hlt]
      · simp at hlen
  · rw [full_go hg] at h hlen
    rcases q with _ | ⟨z, q⟩
    · simp only [List.nil_append, List.cons.injEq] at h
      omega
    · rcases q with _ | ⟨z2, q⟩
      · simp only [List.nil_append, List.cons_append, List.cons.injEq] at h
        have hlt : ¬ k + 1 < n := by omega
        unfold madeL
        simp [hg, hlt, h.1]
      · simp at hlen
theorem full_len (x : I3) (k : Nat) : (fullL x k).length ≤ 2 := by
  unfold fullL
  rw [List.length_append]
  have h1 : (if gB x = true then [gN x] else []).length ≤ 1 := by split <;> simp
  have h2 : (if (gB x || eB x) = true then [((k + 1 : Nat) : Int)] else []).length ≤ 1 := by split <;> simp
  omega

/-- Between two rounds of the inner loop; where it is left. -/
def InI (w : World) (A : Option Addr) (n c bl bm b k : Nat) (l : List I3) (Ds : List Nat) (pre : List HdN) (W : World) : Prop :=
  MetI w A n c bl bm b (1 + 2 * k + pre.length) (fun h => metN l k h + (pre.map (·.1)).count h) Ds W ∧ ∀ y ∈ pre, y.1 ≠ (n : Int)
def InX (w : World) (A : Option Addr) (n c bl bm b k : Nat) (l : List I3) (Ds : List Nat) (cd : Code) (pre : List HdN) (W : World) : Prop :=
  cd = .exit 1 ∧ ∃ q y, pre = q ++ [y] ∧ y.1 = (n : Int) ∧ InI w A n c bl bm b k l Ds q W
theorem inI_own {w : World} {A : Option Addr} {n c bl bm b k B : Nat} {l : List I3} {Ds : List Nat} (hw : w.heap.size ≤ B) (hb : b < B) (hD : ∀ D ∈ Ds, D < B) : OwnFrom B (InI w A n c bl bm b k l Ds) := by
  rintro s X Y row ⟨h1, h2⟩ hg hrow
  exact ⟨metI_own (β := Unit) (N := fun _ => _) (f := fun _ => _) hw hb hD () X Y row h1 hg hrow, h2⟩
theorem inX_own {w : World} {A : Option Addr} {n c bl bm b k B : Nat} {l : List I3} {Ds : List Nat} (hw : w.heap.size ≤ B) (hb : b < B) (hD : ∀ D ∈ Ds, D < B) (cd : Code) : OwnFrom B (InX w A n c bl bm b k l Ds cd) := by
  rintro s X Y row ⟨h0, q, y, h1, h2, h3⟩ hg hrow
  exact ⟨h0, q, y, h1, h2, inI_own hw hb hD q X Y row h3 hg hrow⟩
/-- A round of the outer loop is done. -/
theorem met_next {w W : World} {A : Option Addr} {n c bl bm b k D : Nat} {l : List I3} {Ds : List Nat} {q : List HdN} (hl : l.length = n) (hI : InI w A n c bl bm b k l Ds q W) (hq : madeL n (at0 l k) k = q.map (·.1)) (hD : ∀ E ∈ Ds, E < D) (hwD : w.heap.size ≤ D) (hDf : W.heap[D]? = some (.deferred (some []))) :
    MetI w A n c bl bm b (1 + 2 * (k + 1)) (metN l (k + 1)) (D :: Ds) W := by
  obtain ⟨⟨h1, h2, ⟨h4, h5, h6⟩, h7⟩, _⟩ := hI
  obtain ⟨es, cc, hb⟩ := h2.obj
  have hlen : q.length ≤ 2 := by
    have h := congrArg List.length hq
    have := madeL_len n (at0 l k) k
    simp at h; omega
  refine ⟨h1, (h2.mono (by omega)).congr (fun x => ?_), ⟨h4, h5, fun h => ?_⟩, h7.cons (fun h => by have := hD _ h; omega) hwD hDf⟩
  · show metN l (k + 1) x = _
    rw [metN, hl, hq]
  · rcases List.mem_cons.1 h with e | h
    · subst e; rw [hb] at hDf; cases hDf
    · exact h6 h
theorem wf_in {h : Int} (h0 : 0 ≤ h) (h1 : h ≤ 5000) : (Lit.int .i64 h).wf = true := WalkArith.wf_i64 (by omega)
theorem met_zero (w : World) : (zeroValue 3).run Tryz.prog w = .ok (.int .i64 0) w := by kernel_rfl

/-- The activation at the loop's head. -/
def metA (A : Option Addr) (n c bl bm b k : Nat) (Ds : List Nat) (u4 u5 u6 u12 u13 u14 u15 u16 u17 u18 u19 u20 u21 u22 u23 u24 u25 u26 u27 u28 : Value) : Act :=
  { tmps := #[.slice A n c, .pointer (some ⟨bl, 0, none⟩), .map none, .pointer (some ⟨bm, 0, none⟩), u4, u5, u6, .map (some b), .map (some b), .slice A n c, .int .i64 (n : Int), .int .i64 (k : Int), u12, u13, u14, u15, u16, u17, u18, u19, u20, u21, u22, u23, u24, u25, u26, u27, u28, undef], defers := Ds.map markOf }

set_option maxRecDepth 100000 in
set_option maxHeartbeats 8000000 in
theorem met_any (A : Option Addr) (l : List I3) (n c : Nat) (w : World) (hr : Rd w A (iis l)) (hn : Hid (l.length = n)) (ho : okB l = true) :
    Calls Tryz.prog 45 #[.slice A n c] w fun e w' => ∃ b N, e = .returned (.map (some b)) ∧ IMap Tryz.prog 3 3 b N (metN l n) w' ∧ w.heap.size ≤ b ∧ Keep NoB w w' := by
  obtain ⟨h1, h5, _, hall⟩ := okB_parts ho
  rw [hn.out] at h1 h5
  have hmm := @run_makeMap Tryz.prog
  obtain ⟨w1, hins, hI1, hg1⟩ := (IMap.new Tryz.prog 3 3 (w.alloc (.cells #[.slice A n c] 22))).update (t := 58) Tryz.underlying58 Tryz.underlying3 Tryz.underlying3 (by decide) 0 1 (by decide) (by decide)
  rw [World.size_alloc] at hins hI1 hg1
  have hins : (Instr.mapUpdate 58 (.map (some (w.heap.size + 1))) (.int .i64 0) (.int .i64 1)).run Tryz.prog ((w.alloc (.cells #[.slice A n c] 22)).alloc (.map #[] 0)) = .ok () w1 := hins
  have hk1 : Keep NoB w w1 := (((Keep.refl NoB w).alloc _).alloc _).grown hg1 (fun g e h => by cases e; omega)
  have hbl : Blk w1 w.heap.size 22 #[.slice A n c] := (((Blk.new w _ _).alloc _).grown hg1 (by simp))
  have hlt1 := hI1.lt
  have cl : w1.cell? ⟨w.heap.size, 0, none⟩ = some (.slice A n c) := hbl.cell 0
  have cl2 : ∀ o, (w1.alloc o).cell? ⟨w.heap.size, 0, none⟩ = some (.slice A n c) := fun o => (hbl.alloc o).cell 0
  have hM : MetI w A n c w.heap.size w1.heap.size (w.heap.size + 1) 1 (metN l 0) [] (w1.alloc (.cells #[.map (some (w.heap.size + 1))] 58)) :=
    ⟨⟨hbl.alloc _, Blk.new w1 _ _⟩, ((hI1.mono (Nat.le_refl _)).congr (fun x => by unfold setF metN; rfl)).grown (World.grownBy_alloc _ _ none) (by simp), ⟨hk1.alloc _, by omega, by simp⟩, Marks.nil _ _⟩
  refine (callsIn_wide (n := 4)).1 ?_
  refine callsIn_of_wp_marks Tryz.func45 rfl trivial ?_ rfl
  simp only [Tryz.ntmps45, List.size_toArray, List.length_cons, List.length_nil, Nat.reduceAdd, Nat.reduceSub, Array.replicate_succ, Array.replicate_zero, List.push_toArray, List.append_toArray, List.nil_append, List.cons_append]
  gi_wp2
  refine V.wpIn_scope_wide ?_
  gi_wp2
  refine wpIn_label ?_
  gi_wp2
  obtain ⟨bl, hbl'⟩ : ∃ bl, w.heap.size = bl := ⟨_, rfl⟩
  obtain ⟨b, hb'⟩ : ∃ b, bl + 1 = b := ⟨_, rfl⟩
  rw [hbl', hb'] at hM ⊢
  have hwb : w.heap.size ≤ b := by omega
  obtain ⟨bm, hbm⟩ : ∃ bm, w1.heap.size = bm := ⟨_, rfl⟩
  rw [hbm] at hM ⊢
  generalize w1.alloc (.cells #[.map (some b)] 58) = W1 at hM ⊢
  clear hins hI1 hg1 hk1 hbl hlt1 cl cl2 hmm hbl' hb' hbm
  refine wpIn_loop (fun a' W => ∃ (k : Nat) (Ds : List Nat) (u4 u5 u6 u12 u13 u14 u15 u16 u17 u18 u19 u20 u21 u22 u23 u24 u25 u26 u27 u28 : Value), a' = metA A n c bl bm b k Ds u4 u5 u6 u12 u13 u14 u15 u16 u17 u18 u19 u20 u21 u22 u23 u24 u25 u26 u27 u28 ∧ k ≤ n ∧ MetI w A n c bl bm b (1 + 2 * k) (metN l k) Ds W) (fun a' _ => n - (intOf (a'.tmps.getD 11 undef)).toNat) ?start ?round
  case start => exact ⟨0, [], _, _, _, _, _, _, _, _, _, _, _, _, _, _, _, _, _, _, _, _, rfl, Nat.zero_le _, hM⟩
  case round =>
    rintro a' W ⟨k, Ds, u4, u5, u6, u12, u13, u14, u15, u16, u17, u18, u19, u20, u21, u22, u23, u24, u25, u26, u27, u28, rfl, hk, hM⟩
    dsimp only [metA]
    by_cases hlt : k < n
    · have hkl : k < l.length := by rw [hn.out]; exact hlt
      obtain ⟨g0, off, rfl, hc0⟩ := rdJ_at hr (by omega)
      obtain ⟨d0, d1, d2⟩ := hc0 k hkl
      have c0 := hM.2.2.1.1.cell d0 id
      have c1 := hM.2.2.1.1.cell d1 id
      have c2 := hM.2.2.1.1.cell d2 id
      have hx : Hid (at0 l k = l[k]) := at0_of hkl
      have hit := okB_at ho hkl
      rw [hn.out] at hit
      clear hc0 d0 d1 d2
      generalize l[k] = x at c0 c1 c2 hx hit
      obtain ⟨op, a, b1⟩ := x
      dsimp only at c0 c1 c2
      have hk5 : k < 512 := by omega
      have hM1 := hM.keep ((Keep.refl NoB W).alloc (.cells #[.int .i64 op, .int .i64 a, .int .i64 b1] 46))
      gi_wp2_with (refine ⟨trivial, ?_⟩; gi_at_call 69; refine (callsIn_wide.2 (madeBy_any op a b1 k _)).mono ?_; rintro e w3 ⟨rfl, hbx, hbk, k3⟩)
      have hM3 := hM1.keep k3
      clear c0 c1 c2
      simp only [World.size_alloc] at hbx hbk
      obtain ⟨bx, hbx'⟩ : ∃ bx, W.heap.size + 1 = bx := ⟨_, rfl⟩
      rw [hbx'] at hbx hbk ⊢
      clear hbx' k3 hM1 hM
      have hBD : ∀ D ∈ Ds, D < w3.heap.size := fun D hD => hM3.2.2.2.lt hD
      have hbB : b < w3.heap.size := hM3.2.1.lt
      have hwB : w.heap.size ≤ w3.heap.size := hM3.2.2.1.1.size
      refine wpIn_rangeFunc_ownH rfl (by omega) (gf := 96) (lb := #[.pointer (some ⟨bx, 0, none⟩), .pointer (some ⟨bx + 1, 0, none⟩)]) rfl trivial (enters_of Tryz.func96 (by kernel_rfl) rfl)
        (made_stops _ (by omega) bx (bx + 1) op a b1 k hk5 w3 hbx hbk) (fun h h' => CellsK.trans h h') (fun W l o o' _ hl ho _ => CellsK.putObj W l o o' hl ho) (Below.refl _ _) (fun _ => rfl)
        (InI w (some ⟨g0, off, none⟩) n c bl bm b k l Ds) (InX w (some ⟨g0, off, none⟩) n c bl bm b k l Ds) (inI_own hwB hbB hBD) (inX_own hwB hbB hBD) ⟨hM3, fun y hy => by simp at hy⟩
        (fun x a' _ => a' = { tmps := #[.slice (some ⟨g0, off, none⟩) n c, .pointer (some ⟨bl, 0, none⟩), .map none, .pointer (some ⟨bm, 0, none⟩), .int .i64 (k : Int), .pointer (some ⟨W.heap.size, 0, none⟩), .int .i64 x.1, .map (some b), .map (some b), .slice (some ⟨g0, off, none⟩) n c, .int .i64 (n : Int), .int .i64 (k : Int), .bool true, .int .i64 (k : Int), .pointer (some ⟨g0, off + k * 3, none⟩), .agg #[.int .i64 op, .int .i64 a, .int .i64 b1], .agg #[.int .i64 op, .int .i64 a, .int .i64 b1], .int .i64 (k : Int), .func (.func 96) #[] #[.pointer (some ⟨bx, 0, none⟩), .pointer (some ⟨bx + 1, 0, none⟩)], .int .i64 x.1, u20, u21, u22, u23, u24, u25, u26, u27, u28, undef], defers := [] }) ?hax ?assign ?body ?done ?stop
      case hax =>
        rintro x a' s X Y row h hg hrow
        exact h
      case assign =>
        intro l' pre x W' K hi hK
        gi_wp2
        exact hK _ _ (KeepsFrom.refl _ _) ⟨Nat.le_refl _, fun _ _ h _ => h⟩ hi rfl
      case body =>
        rintro l' pre x a' W' hl _ ⟨hMI, hall⟩ rfl hlen
        obtain ⟨⟨h2, h3⟩, h4, ⟨h6, h7, h8⟩, h9⟩ := hMI
        obtain ⟨hd, hd0, hd1⟩ := x
        have cl : W'.cell? ⟨bl, 0, none⟩ = some (.slice (some ⟨g0, off, none⟩) n c) := h2.cell 0
        have cm : W'.cell? ⟨bm, 0, none⟩ = some (.map (some b)) := h3.cell 0
        dsimp only
        by_cases he : hd = (n : Int)
        · have HX : Hid (InX w (some ⟨g0, off, none⟩) n c bl bm b k l Ds (.exit 1) (pre ++ [⟨hd, hd0, hd1⟩]) W') := ⟨rfl, pre, _, rfl, he, ⟨⟨h2, h3⟩, h4, ⟨h6, h7, h8⟩, h9⟩, hall⟩
          have hq : (hd == (n : Int)) = true := by rw [beq_iff_eq]; exact he
          clear he hall h2 h3 h4 h6 h8 h9
          gi_wp2
          exact ⟨KeepsFrom.refl _ _, HX.out⟩
        · have hq : (hd == (n : Int)) = false := by rw [beq_eq_false_iff_ne]; exact he
          obtain ⟨v, hv⟩ : ∃ v, metN l k hd + (pre.map (·.1)).count hd = v := ⟨_, rfl⟩
          have hvb : (v : Int) ≤ 2000 := by
            have m1 := metN_le l k hd
            have m2 := List.count_le_length (a := hd) (l := pre.map (·.1))
            rw [List.length_map] at m2; omega
          have hlk := h4.look (t := 58) Tryz.underlying58 Tryz.underlying3 Tryz.underlying3 (met_zero _) hd (wf_in hd0 (by omega))
          obtain ⟨w4, hup, hI4, hg4⟩ := h4.update (t := 58) Tryz.underlying58 Tryz.underlying3 Tryz.underlying3 (by unfold maxLen; omega) hd (v + 1) (wf_in hd0 (by omega)) (wf_in (by omega) (by omega))
          rw [show ((v + 1 : Nat) : Int) = (v : Int) + 1 by omega] at hup
          rw [hv] at hlk
          have hM4 : Hid (InI w (some ⟨g0, off, none⟩) n c bl bm b k l Ds (pre ++ [⟨hd, hd0, hd1⟩]) w4) := by
            have hbl : some bl ≠ some b := by intro e; have e := Option.some.inj e; obtain ⟨es, cc, hb⟩ := h4.obj; rw [← e, show W'.heap[bl]? = _ from h2] at hb; cases hb
            have hbm : some bm ≠ some b := by intro e; have e := Option.some.inj e; obtain ⟨es, cc, hb⟩ := h4.obj; rw [← e, show W'.heap[bm]? = _ from h3] at hb; cases hb
            refine ⟨⟨⟨h2.grown hg4 hbl, h3.grown hg4 hbm⟩, ?_, ⟨h6.grown hg4 (fun g e h => by cases e; omega), h7, h8⟩, h9.grown hg4 (fun r e => by cases e; exact h8)⟩, fun y hy => ?_⟩
            · refine (hI4.mono (by simp; omega)).congr (fun y => ?_)
              rw [← hv, List.map_append]
              exact (setF_count (metN l k) (pre.map (·.1)) hd y).symm
            · rcases List.mem_append.1 hy with h | h
              · exact hall y h
              · rw [List.mem_singleton.1 h]; exact he
          have hC : CellsK W' w4 := cellsK_grown hg4 h4.obj
          have hF : KeepsFrom w3.heap.size W' w4 := KeepsFrom.of_grownBy hg4 (fun j e => by cases e; exact hbB)
          clear he hall h2 h3 h4 h6 h8 h9 hI4 hg4 hv
          gi_wp2
          exact ⟨hF, hC, hM4.out⟩
      case done =>
        rintro D ys W' hD hS hI hDf
        have hmd : madeL n (at0 l k) k = ys.map (·.1) := by
          rw [hx.out, hS]
          refine made_done hlt (fun y hy => ?_)
          rw [← hS] at hy
          obtain ⟨z, hz, rfl⟩ := List.mem_map.1 hy
          exact hI.2 z hz
        have hN := met_next hn.out hI hmd (fun E hE => Nat.lt_of_lt_of_le (hBD E hE) hD) (Nat.le_trans hwB hD) hDf
        gi_wp2
        exact ⟨⟨k + 1, D :: Ds, _, _, _, _, _, _, _, _, _, _, _, _, _, _, _, _, _, _, _, _, rfl, by omega, hN⟩, by simp [intOf]; omega⟩
      case stop =>
        rintro D cd pre W' hD ⟨post, hp⟩ ⟨rfl, q, y, rfl, hy, hI⟩ hDf
        have hmd : madeL n (at0 l k) k = q.map (·.1) := by
          rw [hx.out]
          refine made_stop (post := post) hit ?_
          rw [← hp, ← hy]; simp
        have hN := met_next hn.out hI hmd (fun E hE => Nat.lt_of_lt_of_le (hBD E hE) hD) (Nat.le_trans hwB hD) hDf
        gi_wp2
        exact ⟨⟨k + 1, D :: Ds, _, _, _, _, _, _, _, _, _, _, _, _, _, _, _, _, _, _, _, _, rfl, by omega, hN⟩, by simp [intOf]; omega⟩
    · obtain rfl : k = n := by omega
      obtain ⟨⟨h2, h3⟩, h4, ⟨h6, h7, h8⟩, h9⟩ := hM
      have cm : W.cell? ⟨bm, 0, none⟩ = some (.map (some b)) := h3.cell 0
      gi_wp2
      refine leaves_marks (fun W => IMap Tryz.prog 3 3 b (1 + 2 * k) (metN l k) W ∧ Keep NoB w W) ?_ ?_ Ds W h9 ⟨h4, h6⟩
      · rintro D W' hD hDo ⟨h1, h2⟩
        obtain ⟨es, cc, hb⟩ := h1.obj
        exact ⟨h1.grown (grownBy_putObj' W' D _) (fun e => by cases e; rw [hb] at hDo; cases hDo), Keep_put h2 hD⟩
      · rintro W' ⟨h1, h2⟩
        exact ⟨_, results_tmp rfl _ _ _, b, _, rfl, h1, hwb, h2⟩

end Go.Proofs.YtonpplpfipfnfaaGreatDoor.C

namespace Go.Proofs.YtonpplpfipfnfaaGreatDoor.C
open Go.RowKit O

/-- The heads among the first places. -/
def hup (l : List I3) (k : Nat) : List Int := ((List.range k).filter (headB l)).map fun i : Nat => (i : Int)
theorem hup_succ (l : List I3) (k : Nat) : hup l (k + 1) = hup l k ++ if headB l k = true then [(k : Int)] else [] := by
  unfold hup
  rw [range_filter_snoc, List.map_append]
  cases headB l k <;> rfl
theorem hup_le (l : List I3) (k : Nat) : (hup l k).length ≤ k := by
  unfold hup
  rw [List.length_map]
  exact Nat.le_trans (List.length_filter_le _ _) (by simp)
theorem hup_all (l : List I3) : hup l l.length = hzs l := rfl
/-- What is answered. -/
def hzG (l : List I3) : List Int := if okB l = true then hzs l else []
theorem hzG_ok {l : List I3} (h : okB l = true) : hzG l = hzs l := if_pos h
theorem hzG_no {l : List I3} (h : okB l = false) : hzG l = [] := if_neg (by rw [h]; decide)

theorem blk_of_row {w1 : World} {E : TypeId} {sz g n : Nat} {zs : List Value} (hrow : w1.ownsRow 0 E sz (.slice (some ⟨g, 0, none⟩) n n) n zs) : ∃ cur, Blk w1 g E cur ∧ cur.size = n * sz := by
  obtain ⟨h3, h4⟩ := hrow
  rcases h4 with ⟨h4, _⟩ | ⟨g', cap, cur, h4, _, h6, _, _, h7, _⟩
  · cases h4
  · injection h4 with h4 _ h8
    injection h4 with h4
    injection h4 with h4 _ _
    subst h4 h8
    exact ⟨cur, h6, h7⟩
/-- A number stored behind those that stand. -/
theorem ivs_put (l : List Int) (u : Value) (r : List Value) (x : Int) : (ivs l ++ u :: r).toArray.setIfInBounds l.length (.int .i64 x) = (ivs (l ++ [x]) ++ r).toArray := by
  rw [List.setIfInBounds_toArray]
  congr 1
  rw [List.set_append_right _ _ (by simp)]
  simp [ivs]
/-- How Heads ends. -/
def HeadsR (w : World) (zs : List Int) (e : Ending) (w' : World) : Prop := ∃ A, e = .returned (.slice A zs.length zs.length) ∧ Rd w' A (ivs zs) ∧ Keep NoB w w'

set_option maxRecDepth 100000 in
set_option maxHeartbeats 4000000 in
theorem heads_any (A : Option Addr) (l : List I3) (n c : Nat) (w : World) (hr : Rd w A (iis l)) (hn : Hid (l.length = n)) (hm : n ≤ 9223372036854775807) :
    Calls Tryz.prog 20 #[.slice A n c] w (HeadsR w (hzG l)) := by
  cases ho : okB l
  · rw [hzG_no ho]
    have HC := Lib.hid (fun w hr => cchk_any A l n c w hr hn hm 50 (chkB_no ho))
    clear ho
    go_enter Tryz.func20, Tryz.ntmps20
    go_wp2_with (go_at_call 17; refine (HC.out _ hr).mono ?_; rintro e w1 ⟨rfl, k1⟩)
    go_ret
    exact ⟨none, rfl, Rd.none_ _ _, k1⟩
  · rw [hzG_ok ho]
    obtain ⟨h1, h5, _, _⟩ := okB_parts ho
    rw [hn.out] at h1 h5
    have HC := Lib.hid (fun w hr => cchk_any A l n c w hr hn hm 0 (chkB_ok ho))
    have HM := Lib.hid (fun w hr => met_any A l n c w hr hn ho)
    have hr0 := Lib.hid hr
    obtain ⟨i0, hi, hz0, hz1, hz2⟩ := info_parts int_info
    have HZ : Hid (hup l n = hzs l) := by show _ = _; rw [← hn.out]; rfl
    have HH : Hid (∀ k : Nat, k < n → decide (0 < metN l n (k : Int)) = headB l k) := fun k hk => by
      have := met_head (l := l) (i := k) (by rw [hn.out]; exact hk)
      rwa [hn.out] at this
    clear hr ho
    go_enter Tryz.func20, Tryz.ntmps20
    go_wp2_with fail
    refine (HC.out _ hr0.out).mono ?_
    rintro e w1 ⟨rfl, k1⟩
    go_wp2_with fail
    refine (HM.out _ (hr0.out.keepN k1)).mono ?_
    rintro e w2 ⟨b, N, rfl, hI, hb, k2⟩
    have gK := keepN k1 k2
    clear HC HM hr0 k1 k2
    go_wp2_with (at_make; refine wpList_make_full _ rfl _ _ 48 rfl 0 3 i0 _ 1 Tryz.underlying48 hi hz0 hz1 _ _ _ _ n rfl rfl rfl rfl (by rw [hz2]; omega) (by unfold maxLen; omega) (Nat.zero_le _) ?_; intro w3 hrow hg3)
    obtain ⟨cur, hB, hcs⟩ := blk_of_row hrow
    have hK3 : Keep NoB w w3 := gK.grown hg3 (fun g e _ => by cases e)
    have hI3 := hI.grown hg3 (by simp)
    have hw3 : w.heap.size ≤ w2.heap.size := gK.size
    obtain ⟨g, hg⟩ : ∃ g, w2.heap.size = g := ⟨_, rfl⟩
    rw [hg] at hB hw3 ⊢
    have hbg : b ≠ g := by have := hI.lt; omega
    clear hrow hg3 gK hI hg
    go_loopw [5, 17] (fun s i wr => ∃ k : Nat, k ≤ n ∧ i = .int .i64 k ∧ s = .int .i64 ((hup l k).length : Nat) ∧ (∃ rest, Blk wr g 3 (ivs (hup l k) ++ rest).toArray ∧ (hup l k).length + rest.length = n) ∧ IMap Tryz.prog 3 3 b N (metN l n) wr ∧ Keep NoB w wr) (fun _ i _ => n - (intOf i).toNat)
    case atStart => exact ⟨0, Nat.zero_le _, rfl, rfl, ⟨cur.toList, by simpa [hup] using hB, by simp [hup]; omega⟩, hI3, hK3⟩
    case round =>
      obtain ⟨k, hk, rfl, rfl, ⟨rest, hBr, hrl⟩, hIr, hK⟩ := hrel
      clear hB hcs hI3 hK3
      have hle := hup_le l k
      by_cases hlt : k < n
      · have hlk := hIr.look (t := 58) Tryz.underlying58 Tryz.underlying3 Tryz.underlying3 (met_zero _) (k : Int) (wf_in (by omega) (by omega))
        have hh := HH.out k hlt
        have hs := hup_succ l k
        generalize metN l n (k : Int) = v at hlk hh
        obtain ⟨m, hm'⟩ : ∃ m, (hup l k).length = m := ⟨_, rfl⟩
        rw [hm'] at hle hrl ⊢
        cases hhd : headB l k
        · rw [hhd] at hs hh
          have hq := of_decide_eq_false hh
          have hq2 : decide ((0 : Int) < (v : Int)) = false := by rw [decide_eq_false_iff_not]; omega
          have HS : Hid (hup l (k + 1) = hup l k) := by show _ = _; rw [hs]; simp
          have HL : Hid ((hup l (k + 1)).length = m) := by show _ = _; rw [HS.out, hm']
          have HB : Hid (∃ rest, Blk wr g 3 (ivs (hup l (k + 1)) ++ rest).toArray ∧ (hup l (k + 1)).length + rest.length = n) := ⟨rest, by rw [HS.out]; exact hBr, by rw [HL.out]; exact hrl⟩
          clear hs hh hBr hrl hhd hm'
          go_wp2
          go_roundw
          case rel => exact ⟨k + 1, by omega, by go_num, by rw [HL.out], HB.out, hIr, hK⟩
          case measure => simp [intOf]; omega
        · rw [hhd] at hs hh
          have hq := of_decide_eq_true hh
          have hq2 : decide ((0 : Int) < (v : Int)) = true := by rw [decide_eq_true_iff]; omega
          have HL : Hid ((hup l (k + 1)).length = m + 1) := by show _ = _; rw [hs, List.length_append, hm']; rfl
          obtain ⟨u, rest', rfl⟩ : ∃ u rest', rest = u :: rest' := by
            cases rest with
            | nil => simp at hrl; omega
            | cons u r => exact ⟨u, r, rfl⟩
          have hput := ivs_put (hup l k) u rest' (k : Int)
          rw [hm'] at hput
          have cc : wr.cell? ⟨g, m, none⟩ = some u := by rw [hBr.cell]; simp [← hm']
          have hf := fun i => hBr.frozen i
          have HB : Hid (∃ rest, Blk (wr.setCell ⟨g, m, none⟩ (.int .i64 (k : Int))) g 3 (ivs (hup l (k + 1)) ++ rest).toArray ∧ (hup l (k + 1)).length + rest.length = n) :=
            ⟨rest', by rw [hs]; simp only [if_true]; rw [← hput]; exact hBr.put _ _, by rw [HL.out]; simp at hrl; omega⟩
          have HI : Hid (IMap Tryz.prog 3 3 b N (metN l n) (wr.setCell ⟨g, m, none⟩ (.int .i64 (k : Int)))) := hIr.keep ((Keep.refl (fun x => x = g) wr).setCell (fun _ => rfl) _) hbg
          have HK : Hid (Keep NoB w (wr.setCell ⟨g, m, none⟩ (.int .i64 (k : Int)))) := hK.setCell (fun h => absurd h (by simp; omega)) _
          have hmn : m < n := by simp at hrl; omega
          clear hs hh hBr hrl hhd hm' hput hIr hK
          go_wp2
          go_roundw
          case rel => exact ⟨k + 1, by omega, by go_num, by rw [HL.out]; go_num, HB.out, HI.out, HK.out⟩
          case measure => simp [intOf]; omega
      · obtain rfl : k = n := by omega
        rw [HZ.out] at hBr hrl hle ⊢
        have hrd : Rd wr (some ⟨g, 0, none⟩) (ivs (hzs l)) := fun _ => ⟨g, 0, rfl, fun j u hu => by
          rw [Nat.zero_add, hBr.cell]
          simp only [List.getElem?_toArray]
          rw [List.getElem?_append_left (List.getElem?_eq_some_iff.1 hu).1]; exact hu⟩
        obtain ⟨zs, hz⟩ : ∃ zs, hzs l = zs := ⟨_, rfl⟩
        rw [hz] at hrd hle ⊢
        have HZ2 := Lib.hid hz
        clear hz
        have hle2 : (zs.length : Int) ≤ (k : Int) := by omega
        clear hBr hrl HZ HH
        go_wp2
        go_ret
        refine ⟨some ⟨g, 0, none⟩, ?_, ?_, hK⟩
        · rw [HZ2.out]; rfl
        · rw [HZ2.out]; exact hrd

end Go.Proofs.YtonpplpfipfnfaaGreatDoor.C

namespace Go.Proofs.YtonpplpfipfnfaaGreatDoor.C
open Go.RowKit O

def xRet : List I3 := [(24, 0, 0)]
theorem xRet_txs : txs xRet = [.string ⟨#[114, 101, 116]⟩] := by kernel_rfl
theorem xRet_ok : ∀ x ∈ xRet, ok1 x = true := List.all_eq_true.1 (show xRet.all ok1 = true by kernel_rfl)
def xL : List I3 := [(29, 0, 0), (13, 0, 0), (19, 4, 0), (0, 0, 0), (24, 0, 0)]
theorem xL_txs : txs xL = [.string ⟨#[105, 110]⟩, .string ⟨#[100, 114, 111, 112]⟩, .string ⟨#[106, 122, 32, 52]⟩, .string ⟨#[110, 111, 112]⟩, .string ⟨#[114, 101, 116]⟩] := by kernel_rfl
theorem xL_ok : ∀ x ∈ xL, ok1 x = true := List.all_eq_true.1 (show xL.all ok1 = true by kernel_rfl)
def xNop : List I3 := [(0, 0, 0)]
theorem xNop_txs : txs xNop = [.string ⟨#[110, 111, 112]⟩] := by kernel_rfl
theorem xNop_ok : ∀ x ∈ xNop, ok1 x = true := List.all_eq_true.1 (show xNop.all ok1 = true by kernel_rfl)
def xJ1 : List I3 := [(18, 1, 0)]
theorem xJ1_txs : txs xJ1 = [.string ⟨#[106, 109, 112, 32, 49]⟩] := by kernel_rfl
theorem xJ1_ok : ∀ x ∈ xJ1, ok1 x = true := List.all_eq_true.1 (show xJ1.all ok1 = true by kernel_rfl)
theorem all_I {l : List I3} (h : ∀ x ∈ l, ok1 x = true) : AllI l := fun x hx => ok1_I (h x hx)
/-- A call of of with texts that stand written. -/
theorem of_call (l : List I3) (n b c : Nat) (vs : Array Value) (E : TypeId) (w W : World) (hW : W = w.alloc (.cells vs E)) (hb : b = w.heap.size) (he : txs l = vs.toList) (hn : l.length = n) (hok : ∀ x ∈ l, ok1 x = true) (hm : n ≤ 1000) (hL : LaidO w) (hC : CutAt w) :
    Calls Tryz.prog 19 #[.slice (some ⟨b, 0, none⟩) n c] W fun e w' => ∃ v, e = .returned v ∧ Own w' 46 3 (Fresh w) v n (iis l) ∧ Keep NoB w w' := by
  subst hW
  have hk := (Keep.refl NoB w).alloc (.cells vs E)
  refine (texts_any l n _ c _ (W.rd_made hb he) hok hn hm (hL.keep hk) (hC.keep hk)).mono ?_
  rintro e w' ⟨v, rfl, ho, k1⟩
  exact ⟨v, rfl, ho.mono (fun k hf _ => Nat.le_trans hk.size hf), keepN hk k1⟩
theorem ret_enc : encB xRet = [1, 24] := by kernel_rfl
theorem ret_chk : chkB xRet = 0 := by kernel_rfl
theorem nop_chk : chkB xNop = 50 := by kernel_rfl
theorem j1_chk : chkB xJ1 = 50 := by kernel_rfl
def xM : List I3 := [(29, 0, 0), (13, 0, 0), (19, 5, 0), (0, 0, 0), (0, 0, 0), (24, 0, 0)]
theorem l_ins : insG xL 3 (0, 0, 0) = xM := by kernel_rfl
theorem l_insE : insE xL 3 (0, 0, 0) = 0 := by kernel_rfl
theorem l_heads : hzG xL = [0, 3, 4] := by kernel_rfl
theorem str_ret : V.str [1, 24] = ⟨#[1, 24]⟩ := by kernel_rfl

set_option maxRecDepth 100000 in
set_option maxHeartbeats 8000000 in
theorem alive_any (w : World) (hL0 : LaidO w) (hC0 : CutAt w) : Calls Tryz.prog 26 #[] w fun e w' => e = .returned (.bool true) ∧ Keep NoB w w' := by
  have hL := Lib.hid hL0
  have hC := Lib.hid hC0
  clear hL0 hC0
  have HE := Lib.hid (fun A c w hr => cencode_any A xRet 1 c w hr rfl (all_I xRet_ok) (by decide))
  rw [ret_enc, ret_chk] at HE
  have HI := Lib.hid (fun A c w hr => insert_any A xL 5 c 3 0 0 0 w hr rfl (by decide))
  rw [l_ins, l_insE] at HI
  have HH := Lib.hid (fun A c w hr => heads_any A xL 5 c w hr rfl (by decide))
  rw [l_heads] at HH
  have HN := Lib.hid (fun A c w hr => cchk_any A xNop 1 c w hr rfl (by decide) 50 nop_chk)
  have HJ := Lib.hid (fun A c w hr => cchk_any A xJ1 1 c w hr rfl (by decide) 50 j1_chk)
  have HZ := Lib.hid (fun A1 A2 c1 c2 w h1 h2 => W.ints_any A1 A2 [0, 3, 4] [0, 3, 4] 3 3 c1 c2 w h1 h2 rfl rfl (by decide) (by decide) true (by show _ = _; simp))
  have qS := list_self ⟨#[1, 24]⟩
  go_enter Tryz.func26, Tryz.ntmps26
  go_wp2_with fail
  refine (of_call xRet 1 _ _ _ _ w _ rfl rfl xRet_txs rfl xRet_ok (by decide) hL.out hC.out).mono ?_
  rintro e w1 ⟨v1, rfl, ho, gK⟩
  obtain ⟨A1, c1, rfl, r1⟩ := own_rdI ho
  clear ho
  go_wp2_with fail
  refine (HE.out _ _ _ r1).mono ?_
  rintro e w2 ⟨v2, rfl, ho, k1⟩
  replace gK := keepN gK k1
  obtain ⟨A2, c2, rfl, r2, _⟩ := own_rd ho
  clear ho k1 r1
  go_wp2_with fail
  refine (of_call xL 5 _ _ _ _ w2 _ rfl rfl xL_txs rfl xL_ok (by decide) (hL.out.keep gK) (hC.out.keep gK)).mono ?_
  rintro e w3 ⟨v3, rfl, ho, k1⟩
  replace gK := keepN gK k1
  replace r2 := rd_n r2 k1
  obtain ⟨A3, c3, rfl, r3⟩ := own_rdI ho
  clear ho k1
  go_wp2_with fail
  refine (HI.out _ _ _ r3).mono ?_
  rintro e w4 ⟨v4, rfl, ho, k1⟩
  replace gK := keepN gK k1
  replace r2 := rd_n r2 k1
  replace r3 := r3.keepN k1
  obtain ⟨A4, c4, rfl, r4⟩ := own_rdI ho
  clear ho k1
  have cv := V.conv_rd (c := c2) r2
  rw [str_ret] at cv
  simp only [List.length_cons, List.length_nil, Nat.zero_add, Nat.reduceAdd] at cv
  go_wp2_with fail
  refine (HH.out _ _ _ r3).mono ?_
  rintro e w5 ⟨A5, rfl, r5, k1⟩
  replace gK := keepN gK k1
  replace r4 := r4.keepN k1
  clear k1 r2 r3 cv
  go_wp2_with fail
  refine (HZ.out _ _ _ _ _ (r5.keepN ((Keep.refl NoB w5).alloc _)) (W.rd_made (by simp) rfl)).mono ?_
  rintro e w6 ⟨rfl, k1⟩
  replace k1 := keepN ((Keep.refl NoB w5).alloc _) k1
  replace gK := keepN gK k1
  replace r4 := r4.keepN k1
  clear k1 r5
  obtain ⟨g, off, rfl, hc⟩ := rdJ_at r4 (by decide)
  obtain ⟨_, c1', _⟩ := hc 2 (by decide)
  have e2 : (xM[2]'(by decide)).2.1 = 5 := rfl
  rw [e2] at c1'
  clear hc
  go_wp2_with fail
  refine (of_call xNop 1 _ _ _ _ w6 _ rfl rfl xNop_txs rfl xNop_ok (by decide) (hL.out.keep gK) (hC.out.keep gK)).mono ?_
  rintro e w7 ⟨v7, rfl, ho, k1⟩
  replace gK := keepN gK k1
  obtain ⟨A7, c7, rfl, r7⟩ := own_rdI ho
  clear ho k1 c1' r4
  go_wp2_with fail
  refine (HN.out _ _ _ r7).mono ?_
  rintro e w8 ⟨rfl, k1⟩
  replace gK := keepN gK k1
  clear k1 r7
  go_wp2_with fail
  refine (of_call xJ1 1 _ _ _ _ w8 _ rfl rfl xJ1_txs rfl xJ1_ok (by decide) (hL.out.keep gK) (hC.out.keep gK)).mono ?_
  rintro e w9 ⟨v9, rfl, ho, k1⟩
  replace gK := keepN gK k1
  obtain ⟨A9, c9, rfl, r9⟩ := own_rdI ho
  clear ho k1
  go_wp2_with fail
  refine (HJ.out _ _ _ r9).mono ?_
  rintro e w10 ⟨rfl, k1⟩
  replace gK := keepN gK k1
  go_wp2
  go_ret
  exact ⟨rfl, gK⟩

end Go.Proofs.YtonpplpfipfnfaaGreatDoor.C

namespace Go.Proofs.YtonpplpfipfnfaaGreatDoor.C
open Go.RowKit O

theorem bytesB_len {l : List I3} (h : okB l = true) : (bytesB l).length ≤ 13840 := by
  have h1 := V.encL_len l.length
  have h2 := byt_len l
  have h3 := (okB_parts h).2.1
  unfold bytesB
  rw [List.length_append]; omega
theorem decB_front {l : List I3} (h : okB l = true) (b : List UInt8) : decB (bytesB l ++ b) 0 = some (l, (bytesB l).length) := by
  have := decB_enc (l := bytesB l ++ b) (s := b) (p := 0) h rfl
  rw [Nat.zero_add] at this; exact this

set_option maxRecDepth 100000 in
set_option maxHeartbeats 1000000 in
theorem cback_big (A : Option Addr) (n c : Nat) (B : Option Addr) (m d : Nat) (w : World) (hL : Hid (LaidO w)) (hC : Hid (CutAt w)) (h : 600 < n ∨ 3000 < m) :
    Calls Tryz.prog 5 #[.slice A n c, .slice B m d] w fun e w' => e = .returned (.bool true) ∧ Keep NoB w w' := by
  by_cases h1 : 600 < n
  · have hq : decide ((600 : Int) < (n : Int)) = true := by rw [decide_eq_true_iff]; omega
    clear h h1
    go_enter Tryz.func5, Tryz.ntmps5
    go_wp2_with fail
    refine (alive_any _ hL.out hC.out).mono ?_
    rintro e w1 ⟨rfl, k1⟩
    go_wp2
    go_ret
    exact ⟨rfl, k1⟩
  · have hq : decide ((600 : Int) < (n : Int)) = false := by rw [decide_eq_false_iff_not]; omega
    have hq2 : decide ((3000 : Int) < (m : Int)) = true := by rw [decide_eq_true_iff]; omega
    clear h h1
    go_enter Tryz.func5, Tryz.ntmps5
    go_wp2_with fail
    refine (alive_any _ hL.out hC.out).mono ?_
    rintro e w1 ⟨rfl, k1⟩
    go_wp2
    go_ret
    exact ⟨rfl, k1⟩

set_option maxRecDepth 100000 in
set_option maxHeartbeats 8000000 in
theorem cback_ny (A : Option Addr) (l : List I3) (n c : Nat) (B : Option Addr) (b : List UInt8) (d : Nat) (w : World) (hL : Hid (LaidO w)) (hC : Hid (CutAt w)) (hr : Hid (Rd w A (iis l))) (hn : Hid (l.length = n)) (hI : Hid (AllI l)) (hb : Hid (V.Rd w B b)) (hc : b.length ≤ d) (h1 : n ≤ 600) (h2 : b.length ≤ 3000) (hok : Hid (okB l = false)) (xs : List I3) (Q : Nat) (hd : decB b 0 = some (xs, Q)) :
    Calls Tryz.prog 5 #[.slice A n c, .slice B b.length d] w fun e w' => e = .returned (.bool true) ∧ Keep NoB w w' := by
  have HL : Hid (b.length ≤ 140737488355328) := by show _ ≤ _; omega
  have HLE : Hid (b.length ≤ 3000) := h2
  have hq1 : decide ((600 : Int) < (n : Int)) = false := by rw [decide_eq_false_iff_not]; omega
  have hq2 : decide ((3000 : Int) < (b.length : Int)) = false := by rw [decide_eq_false_iff_not]; omega
  have hm : n ≤ 9223372036854775807 := by omega
  clear h2
  have HX := Lib.hid (fun w hr => cencode_any A l n c w hr hn hI hm)
  have HD1 := Lib.hid (fun w br O hO h => cdecode_any w br O b 0 hO h HL.out)
  rw [encB_no hok.out, chkB_no hok.out] at HX
  obtain ⟨e1, e2, e3⟩ := dec_yes hd
  rw [e1, e2, e3] at HD1
  obtain ⟨o1, o2, o3⟩ := decB_ok hd
  obtain ⟨mx, hmx⟩ : ∃ mx, xs.length = mx := ⟨_, rfl⟩
  have HM := Lib.hid hmx
  have hxl := (okB_parts o1).2.1
  rw [hmx] at hxl
  have HX2 := Lib.hid (fun A c w hr => cencode_any A xs mx c w hr hmx (fun y hy => ok1_I (List.all_eq_true.1 (all_ok1 o1) y hy)) (by omega))
  rw [encB_ok o1, chkB_ok o1] at HX2
  have HT : Hid (b.take Q = bytesB xs) := by
    show _ = _
    rw [List.drop_zero] at o2
    rw [Nat.zero_add] at o3
    rw [o3]
    conv => lhs; rw [o2]
    rw [List.take_left]
  have hpl : Q ≤ b.length := by
    have h1 := congrArg List.length o2
    simp at h1
    omega
  have HTL := Lib.hid (show (b.take Q).length = Q by simp; omega)
  have hpd : Q ≤ d := by omega
  obtain ⟨V2, hV2⟩ : ∃ V2, bytesB xs = V2 := ⟨_, rfl⟩
  rw [hV2] at HX2 HT
  obtain ⟨S, hS⟩ : ∃ S, V.str V2 = S := ⟨_, rfl⟩
  have HS := Lib.hid hS
  have qS := list_self S
  clear hd e1 e2 e3 o1 o2 o3 hmx hxl hV2 hS
  go_enter Tryz.func5, Tryz.ntmps5
  go_wp2_with fail
  refine (alive_any _ hL.out hC.out).mono ?_
  rintro e w1 ⟨rfl, gK⟩
  go_wp2_with fail
  refine (HX.out _ (hr.out.keepN gK)).mono ?_
  rintro e w2 ⟨vu, rfl, hu, k1⟩
  replace gK := keepN gK k1
  clear k1
  have rb := rd_n hb.out gK
  clear hu
  go_wp2_with fail
  refine (V.on_any _ B b d rb HL.out).mono ?_
  rintro e v0 ⟨br2, rfl, hR, k1⟩
  have hbr2 : w.heap.size ≤ br2 := Nat.le_trans gK.size hR.1
  replace gK := keepN gK k1
  clear k1 rb
  have hR := O.reel_new hR
  go_wp2_with fail
  refine (HD1.out _ br2 _ (fun k hk => hk.2) hR).mono ?_
  rintro e v1 ⟨vx, qx, rfl, hOx, hR, hqx, k1⟩
  replace gK := keep_br gK k1 hbr2
  clear k1
  rw [hqx (by first | rfl | trivial)] at hR
  rw [HM.out] at hOx
  obtain ⟨Ax, cx, rfl, rx⟩ := own_rdI hOx
  clear hOx hqx
  go_wp2_with fail
  refine (HX2.out _ _ _ rx).mono ?_
  rintro e v2 ⟨vv, rfl, hv, k1⟩
  obtain ⟨Av, cv, rfl, rv, _⟩ := own_rd hv
  replace gK := keepN gK k1
  replace hR := hR.keep k1 (fun _ _ => id)
  have rb := rd_n hb.out gK
  clear k1 rx hv
  go_wp2_with fail
  refine wp_region_sh ((0, false) :: (1, false) :: (2, false) :: (3, false) :: (4, false) :: (5, false) :: (6, false) :: (7, false) :: (8, false) :: (9, false) :: (10, false) :: (11, false) :: (12, false) :: (13, false) :: (14, false) :: (15, false) :: []) (fun w' => Keep NoB v2 w') (by kernel_rfl) (by kernel_rfl) (by rfl) (by kernel_rfl) (stable_keep v2) (Keep.refl NoB v2).drew ?_
  refine shM_step rfl rfl rfl (by rfl) (by rfl) ?_
  apply Exists.intro
  refine ⟨fun n K hK => ?_, ?_, ?_⟩
  · go_big_quiet_op
    exact hK _ rfl
  · kernel_rfl
  refine shM_step rfl rfl rfl (by rfl) (by rfl) ?_
  apply Exists.intro
  refine ⟨fun n K hK => ?_, ?_, ?_⟩
  · go_big_quiet_op
    exact hK _ rfl
  · kernel_rfl
  refine shM_step rfl rfl rfl (by rfl) (by rfl) ?_
  apply Exists.intro
  refine ⟨fun n K hK => ?_, ?_, ?_⟩
  · go_big_quiet_op
    exact hK _ rfl
  · kernel_rfl
  refine shM_step rfl rfl rfl (by rfl) (by rfl) ?_
  apply Exists.intro
  refine ⟨fun n K hK => ?_, ?_, ?_⟩
  · go_big_quiet_op
    exact hK _ rfl
  · kernel_rfl
  refine shM_step rfl rfl rfl (by rfl) (by rfl) ?_
  apply Exists.intro
  refine ⟨fun n K hK => ?_, ?_, ?_⟩
  · go_big_quiet_op
    exact hK _ rfl
  · kernel_rfl
  refine shM_step rfl rfl rfl (by rfl) (by rfl) ?_
  apply Exists.intro
  refine ⟨fun n K hK => ?_, ?_, ?_⟩
  · go_big_quiet_op
    exact hK _ rfl
  · kernel_rfl
  refine shM_step rfl rfl rfl (by rfl) (by rfl) ?_
  apply Exists.intro
  refine ⟨fun n K hK => ?_, ?_, ?_⟩
  · go_big_quiet_op
    exact hK _ rfl
  · kernel_rfl
  refine shM_step rfl rfl rfl (by rfl) (by rfl) ?_
  apply Exists.intro
  refine ⟨fun n K hK => ?_, ?_, ?_⟩
  · have cu_ : ∀ m : KW n.w, (convert 23 9 (.slice Av V2.length cv)).run Tryz.prog m.w = .ok (.string S) m.w := fun m => by have := V.conv_rd (c := cv) (rd_n rv (keepN n.has m.keep)); rw [HS.out] at this; exact this
    go_big_quiet_op
    exact hK _ rfl
  · kernel_rfl
  refine shM_step rfl rfl rfl (by rfl) (by rfl) ?_
  apply Exists.intro
  refine ⟨fun n K hK => ?_, ?_, ?_⟩
  · go_big_quiet_op
    exact hK _ rfl
  · kernel_rfl
  refine shM_step rfl rfl rfl (by rfl) (by rfl) ?_
  apply Exists.intro
  refine ⟨fun n K hK => ?_, ?_, ?_⟩
  · go_big_quiet_op
    exact hK _ rfl
  · kernel_rfl
  refine shM_step rfl rfl rfl (by rfl) (by rfl) ?_
  apply Exists.intro
  refine ⟨fun n K hK => ?_, ?_, ?_⟩
  · go_big_quiet_op
    apply Exists.intro
    refine ⟨fun m => ?_, ?_⟩
    · go_at_call 16
      exact kept_of (at_gen hR (keepN n.has m.keep))
    · exact hK _ rfl
  · kernel_rfl
  refine shM_step rfl rfl rfl (by rfl) (by rfl) ?_
  apply Exists.intro
  refine ⟨fun n K hK => ?_, ?_, ?_⟩
  · go_big_quiet_op
    exact hK _ rfl
  · kernel_rfl
  refine shM_step rfl rfl rfl (by rfl) (by rfl) ?_
  apply Exists.intro
  refine ⟨fun n K hK => ?_, ?_, ?_⟩
  · have cb_ : ∀ (c : Nat) (m : KW n.w), (convert 23 9 (.slice B Q c)).run Tryz.prog m.w = .ok (.string S) m.w := fun c m => by have := V.conv_rd (c := c) (rd_take (rd_n rb (keepN n.has m.keep)) Q); rw [HTL.out, HT.out, HS.out] at this; exact this
    go_big_quiet_op
    exact hK _ rfl
  · kernel_rfl
  refine shM_step rfl rfl rfl (by rfl) (by rfl) ?_
  apply Exists.intro
  refine ⟨fun n K hK => ?_, ?_, ?_⟩
  · go_big_quiet_op
    exact hK _ rfl
  · kernel_rfl
  refine shM_step rfl rfl rfl (by rfl) (by rfl) ?_
  apply Exists.intro
  refine ⟨fun n K hK => ?_, ?_, ?_⟩
  · go_big_quiet_op
    exact hK _ rfl
  · kernel_rfl
  refine shM_step rfl rfl rfl (by rfl) (by rfl) ?_
  apply Exists.intro
  refine ⟨fun n K hK => ?_, ?_, ?_⟩
  · go_big_quiet_op
    exact hK _ rfl
  · kernel_rfl
  refine shM_nil (fun n => ?_)
  have k5 := n.has
  generalize n.w = w10 at k5 ⊢
  go_wp2
  go_ret
  exact ⟨rfl, keepN gK k5⟩

set_option maxRecDepth 100000 in
set_option maxHeartbeats 8000000 in
theorem cback_nn (A : Option Addr) (l : List I3) (n c : Nat) (B : Option Addr) (b : List UInt8) (d : Nat) (w : World) (hL : Hid (LaidO w)) (hC : Hid (CutAt w)) (hr : Hid (Rd w A (iis l))) (hn : Hid (l.length = n)) (hI : Hid (AllI l)) (hb : Hid (V.Rd w B b)) (_hc : b.length ≤ d) (h1 : n ≤ 600) (h2 : b.length ≤ 3000) (hok : Hid (okB l = false)) (hd : decB b 0 = none) :
    Calls Tryz.prog 5 #[.slice A n c, .slice B b.length d] w fun e w' => e = .returned (.bool true) ∧ Keep NoB w w' := by
  have HL : Hid (b.length ≤ 140737488355328) := by show _ ≤ _; omega
  have HLE : Hid (b.length ≤ 3000) := h2
  have hq1 : decide ((600 : Int) < (n : Int)) = false := by rw [decide_eq_false_iff_not]; omega
  have hq2 : decide ((3000 : Int) < (b.length : Int)) = false := by rw [decide_eq_false_iff_not]; omega
  have hm : n ≤ 9223372036854775807 := by omega
  clear h2
  have HX := Lib.hid (fun w hr => cencode_any A l n c w hr hn hI hm)
  have HD1 := Lib.hid (fun w br O hO h => cdecode_any w br O b 0 hO h HL.out)
  rw [encB_no hok.out, chkB_no hok.out] at HX
  obtain ⟨e1, e2⟩ := dec_no hd
  rw [e1, e2] at HD1
  clear hd e1 e2
  go_enter Tryz.func5, Tryz.ntmps5
  go_wp2_with fail
  refine (alive_any _ hL.out hC.out).mono ?_
  rintro e w1 ⟨rfl, gK⟩
  go_wp2_with fail
  refine (HX.out _ (hr.out.keepN gK)).mono ?_
  rintro e w2 ⟨vu, rfl, hu, k1⟩
  replace gK := keepN gK k1
  clear k1
  have rb := rd_n hb.out gK
  clear hu
  go_wp2_with fail
  refine (V.on_any _ B b d rb HL.out).mono ?_
  rintro e v0 ⟨br2, rfl, hR, k1⟩
  have hbr2 : w.heap.size ≤ br2 := Nat.le_trans gK.size hR.1
  replace gK := keepN gK k1
  clear k1 rb
  have hR := O.reel_new hR
  go_wp2_with fail
  refine (HD1.out _ br2 _ (fun k hk => hk.2) hR).mono ?_
  rintro e v1 ⟨vx, qx, rfl, hOx, hR, hqx, k1⟩
  replace gK := keep_br gK k1 hbr2
  clear k1
  obtain ⟨Ax, cx, rfl, rx⟩ := own_rdI (m := []) hOx
  clear hOx hqx hR rx
  simp only [List.length_nil]
  go_wp2
  go_ret
  exact ⟨rfl, gK⟩

set_option maxRecDepth 100000 in
set_option maxHeartbeats 8000000 in
theorem cback_yy (A : Option Addr) (l : List I3) (n c : Nat) (B : Option Addr) (b : List UInt8) (d : Nat) (w : World) (hL : Hid (LaidO w)) (hC : Hid (CutAt w)) (hr : Hid (Rd w A (iis l))) (hn : Hid (l.length = n)) (hI : Hid (AllI l)) (hb : Hid (V.Rd w B b)) (hc : b.length ≤ d) (h1 : n ≤ 600) (h2 : b.length ≤ 3000) (hok : Hid (okB l = true)) (xs : List I3) (Q : Nat) (hd : decB b 0 = some (xs, Q)) :
    Calls Tryz.prog 5 #[.slice A n c, .slice B b.length d] w fun e w' => e = .returned (.bool true) ∧ Keep NoB w w' := by
  have HL : Hid (b.length ≤ 140737488355328) := by show _ ≤ _; omega
  have HLE : Hid (b.length ≤ 3000) := h2
  have hq1 : decide ((600 : Int) < (n : Int)) = false := by rw [decide_eq_false_iff_not]; omega
  have hq2 : decide ((3000 : Int) < (b.length : Int)) = false := by rw [decide_eq_false_iff_not]; omega
  have hm : n ≤ 9223372036854775807 := by omega
  clear h2
  have HX := Lib.hid (fun w hr => cencode_any A l n c w hr hn hI hm)
  have HD1 := Lib.hid (fun w br O hO h => cdecode_any w br O b 0 hO h HL.out)
  rw [encB_ok hok.out, chkB_ok hok.out] at HX
  have HLL := Lib.hid (fun A1 c1 w h1 h2 => lists_any A1 A l l n n c1 c w h1 h2 hn hn hm hm true (by show _ = _; simp))
  have HF := Lib.hid (fun w br O hO h hlen => cdecode_any w br O (bytesB l ++ b) 0 hO h hlen)
  rw [(dec_yes (decB_front hok.out b)).1, (dec_yes (decB_front hok.out b)).2.1, (dec_yes (decB_front hok.out b)).2.2] at HF
  have hul := bytesB_len hok.out
  obtain ⟨U, hU⟩ : ∃ U, bytesB l = U := ⟨_, rfl⟩
  rw [hU] at HX HF hul
  clear hU
  obtain ⟨e1, e2, e3⟩ := dec_yes hd
  rw [e1, e2, e3] at HD1
  obtain ⟨o1, o2, o3⟩ := decB_ok hd
  obtain ⟨mx, hmx⟩ : ∃ mx, xs.length = mx := ⟨_, rfl⟩
  have HM := Lib.hid hmx
  have hxl := (okB_parts o1).2.1
  rw [hmx] at hxl
  have HX2 := Lib.hid (fun A c w hr => cencode_any A xs mx c w hr hmx (fun y hy => ok1_I (List.all_eq_true.1 (all_ok1 o1) y hy)) (by omega))
  rw [encB_ok o1, chkB_ok o1] at HX2
  have HT : Hid (b.take Q = bytesB xs) := by
    show _ = _
    rw [List.drop_zero] at o2
    rw [Nat.zero_add] at o3
    rw [o3]
    conv => lhs; rw [o2]
    rw [List.take_left]
  have hpl : Q ≤ b.length := by
    have h1 := congrArg List.length o2
    simp at h1
    omega
  have HTL := Lib.hid (show (b.take Q).length = Q by simp; omega)
  have hpd : Q ≤ d := by omega
  obtain ⟨V2, hV2⟩ : ∃ V2, bytesB xs = V2 := ⟨_, rfl⟩
  rw [hV2] at HX2 HT
  obtain ⟨S, hS⟩ : ∃ S, V.str V2 = S := ⟨_, rfl⟩
  have HS := Lib.hid hS
  have qS := list_self S
  clear hd e1 e2 e3 o1 o2 o3 hmx hxl hV2 hS
  go_enter Tryz.func5, Tryz.ntmps5
  go_wp2_with fail
  refine (alive_any _ hL.out hC.out).mono ?_
  rintro e w1 ⟨rfl, gK⟩
  go_wp2_with fail
  refine (HX.out _ (hr.out.keepN gK)).mono ?_
  rintro e w2 ⟨vu, rfl, hu, k1⟩
  replace gK := keepN gK k1
  clear k1
  obtain ⟨Au, cu, rfl, ru, _⟩ := own_rd hu
  have hm2 := made_own w2
  have ru2 := rd_n ru ((Keep.refl NoB w2).alloc (.cells #[] 5))
  go_wp2_with (first | (at_builtin; refine V.wpList_append_rd _ rfl (.tmp 37) (.tmp 38) rfl (.slice (some ⟨w2.heap.size, 0, none⟩) 0 0) [] U Au cu rfl hm2.1 rfl ru2 (by simp; omega) ?_; intro v1 w3 hown hg hat; have hap := own_app hm2 ((Keep.refl NoB w2).alloc _) hown hg hat; rw [List.nil_append] at hap; have rb3 := rd_n hb.out (keepN gK hap.2); clear hown hg hat) | (at_builtin; refine V.wpList_append_rd _ rfl (.tmp 39) (.tmp 40) rfl v1 U b B d rfl hap.1.1 rfl rb3 (by have := HLE.out; omega) ?_; intro v2 w4 hown hg hat; have hap2 := own_app hap.1 hap.2 hown hg hat; clear hown hg hat))
  obtain ⟨A2, c2, rfl, r2, _⟩ := own_rd hap2.1
  replace gK := keepN gK hap2.2
  clear hap hap2 hm2 ru2 rb3 hu ru
  have HUL : Hid ((U ++ b).length ≤ 140737488355328) := by show _ ≤ _; have := HLE.out; rw [List.length_append]; omega
  go_wp2_with fail
  refine (V.on_any _ A2 (U ++ b) c2 r2 HUL.out).mono ?_
  rintro e w5 ⟨br, rfl, hR, k1⟩
  have hs4 := gK.size
  have hbr : w4.heap.size ≤ br := hR.1
  replace gK := keepN gK k1
  clear k1 r2
  have hR := O.reel_new hR
  go_wp2_with fail
  refine (HF.out _ br _ (fun k hk => hk.2) hR HUL.out).mono ?_
  rintro e w6 ⟨vm, q, rfl, hOm, hR, hq, k1⟩
  rw [hq (by first | rfl | trivial)] at hR
  rw [hn.out] at hOm
  obtain ⟨Am, cm, rfl, rm⟩ := own_rdI hOm
  replace gK := keep_br gK k1 (by omega)
  clear k1 hOm hq
  go_wp2_with fail
  refine (HLL.out _ _ _ rm (hr.out.keepN gK)).mono ?_
  rintro e w7 ⟨rfl, k1⟩
  replace gK := keepN gK k1
  replace hR := hR.keep k1 (fun _ _ => id)
  clear k1 rm
  go_wp2_with fail
  refine (V.at_any _ br _ _ _ hR).mono ?_
  rintro e w8 ⟨rfl, rfl⟩
  have qU : ((U.length : Int) != (U.length : Int)) = false := by simp
  have rb := rd_n hb.out gK
  clear hR
  go_wp2_with fail
  refine (V.on_any _ B b d rb HL.out).mono ?_
  rintro e v0 ⟨br2, rfl, hR, k1⟩
  have hbr2 : w.heap.size ≤ br2 := Nat.le_trans gK.size hR.1
  replace gK := keepN gK k1
  clear k1 rb
  have hR := O.reel_new hR
  go_wp2_with fail
  refine (HD1.out _ br2 _ (fun k hk => hk.2) hR).mono ?_
  rintro e v1 ⟨vx, qx, rfl, hOx, hR, hqx, k1⟩
  replace gK := keep_br gK k1 hbr2
  clear k1
  rw [hqx (by first | rfl | trivial)] at hR
  rw [HM.out] at hOx
  obtain ⟨Ax, cx, rfl, rx⟩ := own_rdI hOx
  clear hOx hqx
  go_wp2_with fail
  refine (HX2.out _ _ _ rx).mono ?_
  rintro e v2 ⟨vv, rfl, hv, k1⟩
  obtain ⟨Av, cv, rfl, rv, _⟩ := own_rd hv
  replace gK := keepN gK k1
  replace hR := hR.keep k1 (fun _ _ => id)
  have rb := rd_n hb.out gK
  clear k1 rx hv
  go_wp2_with fail
  refine wp_region_sh ((0, false) :: (1, false) :: (2, false) :: (3, false) :: (4, false) :: (5, false) :: (6, false) :: (7, false) :: (8, false) :: (9, false) :: (10, false) :: (11, false) :: (12, false) :: (13, false) :: (14, false) :: (15, false) :: []) (fun w' => Keep NoB v2 w') (by kernel_rfl) (by kernel_rfl) (by rfl) (by kernel_rfl) (stable_keep v2) (Keep.refl NoB v2).drew ?_
  refine shM_step rfl rfl rfl (by rfl) (by rfl) ?_
  apply Exists.intro
  refine ⟨fun n K hK => ?_, ?_, ?_⟩
  · go_big_quiet_op
    exact hK _ rfl
  · kernel_rfl
  refine shM_step rfl rfl rfl (by rfl) (by rfl) ?_
  apply Exists.intro
  refine ⟨fun n K hK => ?_, ?_, ?_⟩
  · go_big_quiet_op
    exact hK _ rfl
  · kernel_rfl
  refine shM_step rfl rfl rfl (by rfl) (by rfl) ?_
  apply Exists.intro
  refine ⟨fun n K hK => ?_, ?_, ?_⟩
  · go_big_quiet_op
    exact hK _ rfl
  · kernel_rfl
  refine shM_step rfl rfl rfl (by rfl) (by rfl) ?_
  apply Exists.intro
  refine ⟨fun n K hK => ?_, ?_, ?_⟩
  · go_big_quiet_op
    exact hK _ rfl
  · kernel_rfl
  refine shM_step rfl rfl rfl (by rfl) (by rfl) ?_
  apply Exists.intro
  refine ⟨fun n K hK => ?_, ?_, ?_⟩
  · go_big_quiet_op
    exact hK _ rfl
  · kernel_rfl
  refine shM_step rfl rfl rfl (by rfl) (by rfl) ?_
  apply Exists.intro
  refine ⟨fun n K hK => ?_, ?_, ?_⟩
  · go_big_quiet_op
    exact hK _ rfl
  · kernel_rfl
  refine shM_step rfl rfl rfl (by rfl) (by rfl) ?_
  apply Exists.intro
  refine ⟨fun n K hK => ?_, ?_, ?_⟩
  · go_big_quiet_op
    exact hK _ rfl
  · kernel_rfl
  refine shM_step rfl rfl rfl (by rfl) (by rfl) ?_
  apply Exists.intro
  refine ⟨fun n K hK => ?_, ?_, ?_⟩
  · have cu_ : ∀ m : KW n.w, (convert 23 9 (.slice Av V2.length cv)).run Tryz.prog m.w = .ok (.string S) m.w := fun m => by have := V.conv_rd (c := cv) (rd_n rv (keepN n.has m.keep)); rw [HS.out] at this; exact this
    go_big_quiet_op
    exact hK _ rfl
  · kernel_rfl
  refine shM_step rfl rfl rfl (by rfl) (by rfl) ?_
  apply Exists.intro
  refine ⟨fun n K hK => ?_, ?_, ?_⟩
  · go_big_quiet_op
    exact hK _ rfl
  · kernel_rfl
  refine shM_step rfl rfl rfl (by rfl) (by rfl) ?_
  apply Exists.intro
  refine ⟨fun n K hK => ?_, ?_, ?_⟩
  · go_big_quiet_op
    exact hK _ rfl
  · kernel_rfl
  refine shM_step rfl rfl rfl (by rfl) (by rfl) ?_
  apply Exists.intro
  refine ⟨fun n K hK => ?_, ?_, ?_⟩
  · go_big_quiet_op
    apply Exists.intro
    refine ⟨fun m => ?_, ?_⟩
    · go_at_call 16
      exact kept_of (at_gen hR (keepN n.has m.keep))
    · exact hK _ rfl
  · kernel_rfl
  refine shM_step rfl rfl rfl (by rfl) (by rfl) ?_
  apply Exists.intro
  refine ⟨fun n K hK => ?_, ?_, ?_⟩
  · go_big_quiet_op
    exact hK _ rfl
  · kernel_rfl
  refine shM_step rfl rfl rfl (by rfl) (by rfl) ?_
  apply Exists.intro
  refine ⟨fun n K hK => ?_, ?_, ?_⟩
  · have cb_ : ∀ (c : Nat) (m : KW n.w), (convert 23 9 (.slice B Q c)).run Tryz.prog m.w = .ok (.string S) m.w := fun c m => by have := V.conv_rd (c := c) (rd_take (rd_n rb (keepN n.has m.keep)) Q); rw [HTL.out, HT.out, HS.out] at this; exact this
    go_big_quiet_op
    exact hK _ rfl
  · kernel_rfl
  refine shM_step rfl rfl rfl (by rfl) (by rfl) ?_
  apply Exists.intro
  refine ⟨fun n K hK => ?_, ?_, ?_⟩
  · go_big_quiet_op
    exact hK _ rfl
  · kernel_rfl
  refine shM_step rfl rfl rfl (by rfl) (by rfl) ?_
  apply Exists.intro
  refine ⟨fun n K hK => ?_, ?_, ?_⟩
  · go_big_quiet_op
    exact hK _ rfl
  · kernel_rfl
  refine shM_step rfl rfl rfl (by rfl) (by rfl) ?_
  apply Exists.intro
  refine ⟨fun n K hK => ?_, ?_, ?_⟩
  · go_big_quiet_op
    exact hK _ rfl
  · kernel_rfl
  refine shM_nil (fun n => ?_)
  have k5 := n.has
  generalize n.w = w10 at k5 ⊢
  go_wp2
  go_ret
  exact ⟨rfl, keepN gK k5⟩

set_option maxRecDepth 100000 in
set_option maxHeartbeats 8000000 in
theorem cback_yn (A : Option Addr) (l : List I3) (n c : Nat) (B : Option Addr) (b : List UInt8) (d : Nat) (w : World) (hL : Hid (LaidO w)) (hC : Hid (CutAt w)) (hr : Hid (Rd w A (iis l))) (hn : Hid (l.length = n)) (hI : Hid (AllI l)) (hb : Hid (V.Rd w B b)) (_hc : b.length ≤ d) (h1 : n ≤ 600) (h2 : b.length ≤ 3000) (hok : Hid (okB l = true)) (hd : decB b 0 = none) :
    Calls Tryz.prog 5 #[.slice A n c, .slice B b.length d] w fun e w' => e = .returned (.bool true) ∧ Keep NoB w w' := by
  have HL : Hid (b.length ≤ 140737488355328) := by show _ ≤ _; omega
  have HLE : Hid (b.length ≤ 3000) := h2
  have hq1 : decide ((600 : Int) < (n : Int)) = false := by rw [decide_eq_false_iff_not]; omega
  have hq2 : decide ((3000 : Int) < (b.length : Int)) = false := by rw [decide_eq_false_iff_not]; omega
  have hm : n ≤ 9223372036854775807 := by omega
  clear h2
  have HX := Lib.hid (fun w hr => cencode_any A l n c w hr hn hI hm)
  have HD1 := Lib.hid (fun w br O hO h => cdecode_any w br O b 0 hO h HL.out)
  rw [encB_ok hok.out, chkB_ok hok.out] at HX
  have HLL := Lib.hid (fun A1 c1 w h1 h2 => lists_any A1 A l l n n c1 c w h1 h2 hn hn hm hm true (by show _ = _; simp))
  have HF := Lib.hid (fun w br O hO h hlen => cdecode_any w br O (bytesB l ++ b) 0 hO h hlen)
  rw [(dec_yes (decB_front hok.out b)).1, (dec_yes (decB_front hok.out b)).2.1, (dec_yes (decB_front hok.out b)).2.2] at HF
  have hul := bytesB_len hok.out
  obtain ⟨U, hU⟩ : ∃ U, bytesB l = U := ⟨_, rfl⟩
  rw [hU] at HX HF hul
  clear hU
  obtain ⟨e1, e2⟩ := dec_no hd
  rw [e1, e2] at HD1
  clear hd e1 e2
  go_enter Tryz.func5, Tryz.ntmps5
  go_wp2_with fail
  refine (alive_any _ hL.out hC.out).mono ?_
  rintro e w1 ⟨rfl, gK⟩
  go_wp2_with fail
  refine (HX.out _ (hr.out.keepN gK)).mono ?_
  rintro e w2 ⟨vu, rfl, hu, k1⟩
  replace gK := keepN gK k1
  clear k1
  obtain ⟨Au, cu, rfl, ru, _⟩ := own_rd hu
  have hm2 := made_own w2
  have ru2 := rd_n ru ((Keep.refl NoB w2).alloc (.cells #[] 5))
  go_wp2_with (first | (at_builtin; refine V.wpList_append_rd _ rfl (.tmp 37) (.tmp 38) rfl (.slice (some ⟨w2.heap.size, 0, none⟩) 0 0) [] U Au cu rfl hm2.1 rfl ru2 (by simp; omega) ?_; intro v1 w3 hown hg hat; have hap := own_app hm2 ((Keep.refl NoB w2).alloc _) hown hg hat; rw [List.nil_append] at hap; have rb3 := rd_n hb.out (keepN gK hap.2); clear hown hg hat) | (at_builtin; refine V.wpList_append_rd _ rfl (.tmp 39) (.tmp 40) rfl v1 U b B d rfl hap.1.1 rfl rb3 (by have := HLE.out; omega) ?_; intro v2 w4 hown hg hat; have hap2 := own_app hap.1 hap.2 hown hg hat; clear hown hg hat))
  obtain ⟨A2, c2, rfl, r2, _⟩ := own_rd hap2.1
  replace gK := keepN gK hap2.2
  clear hap hap2 hm2 ru2 rb3 hu ru
  have HUL : Hid ((U ++ b).length ≤ 140737488355328) := by show _ ≤ _; have := HLE.out; rw [List.length_append]; omega
  go_wp2_with fail
  refine (V.on_any _ A2 (U ++ b) c2 r2 HUL.out).mono ?_
  rintro e w5 ⟨br, rfl, hR, k1⟩
  have hs4 := gK.size
  have hbr : w4.heap.size ≤ br := hR.1
  replace gK := keepN gK k1
  clear k1 r2
  have hR := O.reel_new hR
  go_wp2_with fail
  refine (HF.out _ br _ (fun k hk => hk.2) hR HUL.out).mono ?_
  rintro e w6 ⟨vm, q, rfl, hOm, hR, hq, k1⟩
  rw [hq (by first | rfl | trivial)] at hR
  rw [hn.out] at hOm
  obtain ⟨Am, cm, rfl, rm⟩ := own_rdI hOm
  replace gK := keep_br gK k1 (by omega)
  clear k1 hOm hq
  go_wp2_with fail
  refine (HLL.out _ _ _ rm (hr.out.keepN gK)).mono ?_
  rintro e w7 ⟨rfl, k1⟩
  replace gK := keepN gK k1
  replace hR := hR.keep k1 (fun _ _ => id)
  clear k1 rm
  go_wp2_with fail
  refine (V.at_any _ br _ _ _ hR).mono ?_
  rintro e w8 ⟨rfl, rfl⟩
  have qU : ((U.length : Int) != (U.length : Int)) = false := by simp
  have rb := rd_n hb.out gK
  clear hR
  go_wp2_with fail
  refine (V.on_any _ B b d rb HL.out).mono ?_
  rintro e v0 ⟨br2, rfl, hR, k1⟩
  have hbr2 : w.heap.size ≤ br2 := Nat.le_trans gK.size hR.1
  replace gK := keepN gK k1
  clear k1 rb
  have hR := O.reel_new hR
  go_wp2_with fail
  refine (HD1.out _ br2 _ (fun k hk => hk.2) hR).mono ?_
  rintro e v1 ⟨vx, qx, rfl, hOx, hR, hqx, k1⟩
  replace gK := keep_br gK k1 hbr2
  clear k1
  obtain ⟨Ax, cx, rfl, rx⟩ := own_rdI (m := []) hOx
  clear hOx hqx hR rx
  simp only [List.length_nil]
  go_wp2
  go_ret
  exact ⟨rfl, gK⟩

theorem cback_all (A : Option Addr) (l : List I3) (c : Nat) (B : Option Addr) (b : List UInt8) (d : Nat) (w : World) (hL : LaidO w) (hC : CutAt w) (hr : Rd w A (iis l)) (hI : AllI l) (hb : V.Rd w B b) (hc : b.length ≤ d) :
    Calls Tryz.prog 5 #[.slice A l.length c, .slice B b.length d] w fun e w' => e = .returned (.bool true) ∧ Keep NoB w w' := by
  by_cases h : 600 < l.length ∨ 3000 < b.length
  · exact cback_big A l.length c B b.length d w hL hC h
  · cases hok : okB l
    · cases hd : decB b 0 with
      | none => exact cback_nn A l l.length c B b d w hL hC hr rfl hI hb hc (by omega) (by omega) hok hd
      | some x => exact cback_ny A l l.length c B b d w hL hC hr rfl hI hb hc (by omega) (by omega) hok x.1 x.2 hd
    · cases hd : decB b 0 with
      | none => exact cback_yn A l l.length c B b d w hL hC hr rfl hI hb hc (by omega) (by omega) hok hd
      | some x => exact cback_yy A l l.length c B b d w hL hC hr rfl hI hb hc (by omega) (by omega) hok x.1 x.2 hd

end Go.Proofs.YtonpplpfipfnfaaGreatDoor.C

namespace Go.Proofs.YtonpplpfipfnfaaGreatDoor.C
open Go.RowKit O

theorem cntB_le (l : List I3) (op : Int) : cntB l op ≤ l.length := List.countP_le_length
theorem count_as (A : Option Addr) (l : List I3) (n c : Nat) (hn : Hid (l.length = n)) (hm : n ≤ 9223372036854775807) (w : World) (hr : Rd w A (iis l)) (op : Int) (k : Nat) (hk : cntB l op = k) :
    Calls Tryz.prog 23 #[.slice A n c, .int .i64 op] w fun e w' => e = .returned (.int .i64 (k : Int)) ∧ Keep NoB w w' := count_any A l n c op w hr hn hm _ (by show _ = _; rw [hk])
def knownB (l : List I3) : Nat := l.countP fun x => isOp x.1
theorem knownB_le (l : List I3) : knownB l ≤ l.length := List.countP_le_length

set_option maxRecDepth 100000 in
set_option maxHeartbeats 1000000 in
theorem ccounts_big (A : Option Addr) (n c : Nat) (w : World) (hL : Hid (LaidO w)) (hC : Hid (CutAt w)) (h : 600 < n) :
    Calls Tryz.prog 8 #[.slice A n c] w fun e w' => e = .returned (.bool true) ∧ Keep NoB w w' := by
  have hq : decide ((600 : Int) < (n : Int)) = true := by rw [decide_eq_true_iff]; omega
  clear h
  go_enter Tryz.func8, Tryz.ntmps8
  go_wp2_with fail
  refine (alive_any _ hL.out hC.out).mono ?_
  rintro e w1 ⟨rfl, k1⟩
  go_wp2
  go_ret
  exact ⟨rfl, k1⟩

set_option maxRecDepth 100000 in
set_option maxHeartbeats 8000000 in
theorem ccounts_walk (A : Option Addr) (l : List I3) (n c : Nat) (w : World) (hL : Hid (LaidO w)) (hC : Hid (CutAt w)) (hr : Hid (Rd w A (iis l))) (hn : Hid (l.length = n)) (h : n ≤ 600) :
    Calls Tryz.prog 8 #[.slice A n c] w fun e w' => e = .returned (.bool true) ∧ Keep NoB w w' := by
  have hq : decide ((600 : Int) < (n : Int)) = false := by rw [decide_eq_false_iff_not]; omega
  have hm : n ≤ 9223372036854775807 := by omega
  have HC := Lib.hid (fun w hr op k hk => count_as A l n c hn hm w hr op k hk)
  go_enter Tryz.func8, Tryz.ntmps8
  go_wp2_with fail
  refine (alive_any _ hL.out hC.out).mono ?_
  rintro e w1 ⟨rfl, k1⟩
  go_wp2
  go_loopw [4, 6] (fun a i wr => ∃ k s : Nat, k ≤ 30 ∧ sumB l k = s ∧ a = .int .i64 (s : Int) ∧ i = .int .i64 (k : Int) ∧ Keep NoB w wr) (fun _ i _ => 30 - (intOf i).toNat)
  case atStart => exact ⟨0, 0, Nat.zero_le _, sum_zero l, rfl, rfl, k1⟩
  case round =>
    clear k1
    obtain ⟨k, s, hk, hs, rfl, rfl, hK⟩ := hrel
    have hsl := sum_le l k
    rw [hs, hn.out] at hsl
    by_cases hlt : k < 30
    · obtain ⟨m, hmc⟩ : ∃ m, cntB l (k : Int) = m := ⟨_, rfl⟩
      have hml := cntB_le l (k : Int)
      rw [hmc, hn.out] at hml
      have HR := Lib.hid (HC.out wr (hr.out.keepN hK) k m hmc)
      have hS : Hid (sumB l (k + 1) = s + m) := by show _ = _; rw [sum_succ, hs, hmc]
      clear hmc hs
      go_wp2_with fail
      refine HR.out.mono ?_
      rintro e w2 ⟨rfl, k2⟩
      go_wp2
      go_roundw
      case rel => exact ⟨k + 1, s + m, by omega, hS.out, by go_num, by go_num, keepN hK k2⟩
      case measure => simp [intOf]; omega
    · have hk30 : k = 30 := by omega
      have hKn : Hid (knownB l = s) := by show _ = _; rw [← hs, hk30]; rfl
      clear hs hk30
      go_wp2
      go_loopw [5, 30] (fun a i wr => ∃ k s : Nat, k ≤ n ∧ knownB (l.take k) = s ∧ a = .int .i64 (s : Int) ∧ i = .int .i64 (k : Int) ∧ Keep NoB w wr) (fun _ i _ => n - (intOf i).toNat)
      case atStart => exact ⟨0, 0, Nat.zero_le _, rfl, rfl, rfl, hK⟩
      case round =>
        clear hK
        obtain ⟨j, t, hj, ht, rfl, rfl, hK⟩ := hrel
        have htl := knownB_le (l.take j)
        rw [ht, List.length_take] at htl
        by_cases hlj : j < n
        · have hjl : j < l.length := by rw [hn.out]; exact hlj
          obtain ⟨g, off, rfl, hc⟩ := rdJ_at (hr.out.keepN hK) (by omega)
          obtain ⟨c0, c1, c2⟩ := hc j hjl
          have hT := List.take_succ_eq_append_getElem hjl
          clear hc
          generalize l[j] = x at c0 c1 c2 hT
          obtain ⟨op, a, b⟩ := x
          dsimp only at c0 c1 c2
          have hS : Hid (knownB (l.take (j + 1)) = t + if isOp op = true then 1 else 0) := by show _ = _; rw [hT, ← ht]; exact known_snoc _ _
          have HN := Lib.hid (fun w => O.name_any op w)
          have hqn := name_nil op
          have k2 := hK.alloc (.cells #[.int .i64 op, .int .i64 a, .int .i64 b] 46)
          generalize str (O.rowAt op).name = S at HN hqn
          clear hT ht
          cases ho : isOp op
          · rw [ho] at hS hqn
            clear ho
            go_wp2_with fail
            refine (HN.out _).mono ?_
            rintro e w3 ⟨rfl, k3⟩
            go_wp2
            go_roundw
            case rel => exact ⟨j + 1, t, by omega, by rw [hS.out]; rfl, rfl, by go_num, keepN k2 k3⟩
            case measure => simp [intOf]; omega
          · rw [ho] at hS hqn
            clear ho
            go_wp2_with fail
            refine (HN.out _).mono ?_
            rintro e w3 ⟨rfl, k3⟩
            go_wp2
            go_roundw
            case rel => exact ⟨j + 1, t + 1, by omega, by rw [hS.out]; rfl, by go_num, by go_num, keepN k2 k3⟩
            case measure => simp [intOf]; omega
        · obtain rfl : j = n := by omega
          rw [List.take_of_length_le (by rw [hn.out]; exact Nat.le_refl _), hKn.out] at ht
          subst ht
          obtain ⟨e1, h1⟩ : ∃ m, cntB l 24 = m := ⟨_, rfl⟩
          obtain ⟨e2, h2⟩ : ∃ m, cntB l 18 = m := ⟨_, rfl⟩
          obtain ⟨e3, h3⟩ : ∃ m, cntB l 25 = m := ⟨_, rfl⟩
          obtain ⟨e4, h4⟩ : ∃ m, cntB l 27 = m := ⟨_, rfl⟩
          have l1 := cntB_le l 24
          have l2 := cntB_le l 18
          have l3 := cntB_le l 25
          have l4 := cntB_le l 27
          rw [h1, hn.out] at l1
          rw [h2, hn.out] at l2
          rw [h3, hn.out] at l3
          rw [h4, hn.out] at l4
          have qs : ((s : Int) == (s : Int)) = true := by simp
          have H1 := Lib.hid (fun w hr => HC.out w hr 24 e1 h1)
          have H2 := Lib.hid (fun w hr => HC.out w hr 18 e2 h2)
          have H3 := Lib.hid (fun w hr => HC.out w hr 25 e3 h3)
          have H4 := Lib.hid (fun w hr => HC.out w hr 27 e4 h4)
          cases ho : okB l
          · have HK := Lib.hid (fun w hr => cchk_any A l j c w hr hn hm 50 (chkB_no ho))
            clear h1 h2 h3 h4 ho
            go_wp2_with fail
            refine (H1.out _ (hr.out.keepN hK)).mono ?_
            rintro e v1 ⟨rfl, k1⟩
            replace hK := keepN hK k1
            go_wp2_with fail
            refine (H2.out _ (hr.out.keepN hK)).mono ?_
            rintro e v2 ⟨rfl, k1⟩
            replace hK := keepN hK k1
            go_wp2_with fail
            refine (H3.out _ (hr.out.keepN hK)).mono ?_
            rintro e v3 ⟨rfl, k1⟩
            replace hK := keepN hK k1
            go_wp2_with fail
            refine (H4.out _ (hr.out.keepN hK)).mono ?_
            rintro e v4 ⟨rfl, k1⟩
            replace hK := keepN hK k1
            go_wp2_with fail
            refine (HK.out _ (hr.out.keepN hK)).mono ?_
            rintro e v5 ⟨rfl, k1⟩
            replace hK := keepN hK k1
            go_wp2
            go_ret
            exact ⟨rfl, hK⟩
          · have HK := Lib.hid (fun w hr => cchk_any A l j c w hr hn hm 0 (chkB_ok ho))
            have he := ends_any_of ho
            have hk2 : knownB l = l.length := known_all ho
            rw [h1, h2, h3, h4] at he
            rw [hKn.out, hn.out] at hk2
            subst hk2
            clear h1 h2 h3 h4 ho
            go_wp2_with fail
            refine (H1.out _ (hr.out.keepN hK)).mono ?_
            rintro e v1 ⟨rfl, k1⟩
            replace hK := keepN hK k1
            go_wp2_with fail
            refine (H2.out _ (hr.out.keepN hK)).mono ?_
            rintro e v2 ⟨rfl, k1⟩
            replace hK := keepN hK k1
            go_wp2_with fail
            refine (H3.out _ (hr.out.keepN hK)).mono ?_
            rintro e v3 ⟨rfl, k1⟩
            replace hK := keepN hK k1
            go_wp2_with fail
            refine (H4.out _ (hr.out.keepN hK)).mono ?_
            rintro e v4 ⟨rfl, k1⟩
            replace hK := keepN hK k1
            go_wp2_with fail
            refine (HK.out _ (hr.out.keepN hK)).mono ?_
            rintro e v5 ⟨rfl, k1⟩
            replace hK := keepN hK k1
            go_wp2
            go_ret
            exact ⟨rfl, hK⟩

theorem ccounts_all (A : Option Addr) (l : List I3) (c : Nat) (w : World) (hL : LaidO w) (hC : CutAt w) (hr : Rd w A (iis l)) :
    Calls Tryz.prog 8 #[.slice A l.length c] w fun e w' => e = .returned (.bool true) ∧ Keep NoB w w' := by
  by_cases h : 600 < l.length
  · exact ccounts_big A l.length c w hL hC h
  · exact ccounts_walk A l l.length c w hL hC hr rfl (by omega)

end Go.Proofs.YtonpplpfipfnfaaGreatDoor.C
