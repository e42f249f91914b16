/-
  Part 18 of the proofs of LNamesRow, LOneRow: what is laid, and what the functions that the law runs answer. Conditions: each theorem names its own.
-/
import Derived.Test.YtgnooffedmeenaaGreatDoorQC16
namespace Go.Proofs.YtgnooffedmeenaaGreatDoor.F
open Go.ChangeShapes Go.WideShapes Go.ChangeAt Go.RowKit Go.Deep W

section
variable {H : Type} {enc : TypeId × Value → H} {W0 : World} {base : Nat} {spare : Nat → Bool} {held : Bool} {fuel : Nat} {cs : List Value} {x : DataW H × List MemPlace}
theorem read_ints (h : DataW.trod enc Tryz.prog W0 base spare held fuel 32 cs = some x) : ∃ A l c, cs = [.slice A l.length c] ∧ Rd W0 A (ivs l) ∧ l.length ≤ c ∧ c ≤ maxLen := by
 rcases open_ints Tryz.underlying32 Tryz.underlying3 (by kernel_rfl) h with ⟨hcs, _⟩ | ⟨a, len, cap, zs, hcs, _, hl, hm, hz, _, hcell, _⟩
 ·exact ⟨none, [], 0, hcs, Rd.none_ _ _, Nat.le_refl _, Nat.zero_le _⟩
 ·have hzl : len ≤ zs.length := by rw [hz]; split <;> omega
  have hlen : (zs.take len).length = len := by rw [List.length_take]; omega
  refine ⟨some a, zs.take len, cap, by rw [hlen]; exact hcs, fun h0 => ?_, by rw [hlen]; exact hl, hm⟩
  have h0' : 0 < len := by rw [List.length_map, hlen] at h0; exact h0
  have ea := C.addr_of_cell (hcell 0 (by omega))
  have ea' : a = ⟨a.block, a.off, none⟩ := by simpa [Addr.add] using ea
  refine ⟨a.block, a.off, by rw [← ea'], fun j u hu => ?_⟩
  obtain ⟨hj, hju⟩ := List.getElem?_eq_some_iff.1 hu
  have hj' : j < len := by simp at hj; omega
  have hc := hcell j (by omega)
  rw [ea', C.add_of] at hc
  rw [hc]
  simp at hju
  rw [← hju]
  simp [List.getD, List.getElem?_eq_getElem (show j < zs.length by omega)]
end
section
variable {H : Type} {enc : TypeId × Value → H} {w : World} {base b0 : Nat} {spare : Nat → Bool} {held : Bool} {r : Reach} {v : Value} {d : DataW H} {p : List MemPlace}
end

end Go.Proofs.YtgnooffedmeenaaGreatDoor.F

namespace Go.Proofs.YtgnooffedmeenaaGreatDoor.I
open Go.ChangeShapes Go.WideShapes Go.ChangeAt Go.RowKit Go.Deep W

section
variable {H : Type} {enc : TypeId × Value → H} {W0 : World} {base : Nat} {spare : Nat → Bool} {held : Bool} {fuel : Nat} {cs : List Value} {x : DataW H × List MemPlace}
def Wt (t : TypeId) (d : DataW H) : Prop := ∀ k ∈ d.weights Tryz.prog t, k ≤ reachBytes
theorem wt_slice {t E : TypeId} {xs ys : List (DataW H)} (ht : Tryz.prog.underlying t = some (.slice E)) (hw : Wt t (.slice xs ys)) : (∀ d ∈ xs, Wt E d) ∧ (xs.length + ys.length) * Tryz.prog.bytesOf E ≤ reachBytes := by
 have all : ∀ (l : List (DataW H)) (d : DataW H), d ∈ l → ∀ k ∈ d.weights Tryz.prog E, k ∈ DataW.weightsAll Tryz.prog E l := by
  intro l
  induction l with
  | nil => intro d hd; cases hd
  | cons a l ih =>
   intro d hd k hk
   rw [DataW.weightsAll, List.mem_append]
   rcases List.mem_cons.1 hd with rfl | hd
   ·exact .inl hk
   ·exact .inr (ih d hd k hk)
 refine ⟨fun d hd k hk => hw k ?_, hw _ ?_⟩
 ·simp only [DataW.weights, ht, List.mem_cons, List.mem_append]
  exact .inr (.inl (all xs d hd k hk))
 ·simp only [DataW.weights, ht, List.mem_cons, true_or]
theorem wt_struct {t : TypeId} {fl : Array Field} {xs : List (DataW H)} (ht : Tryz.prog.underlying t = some (.struct fl)) (hw : Wt t (.agg xs)) {j : Nat} {f : Field} {d : DataW H} (hf : fl.toList[j]? = some f) (hd : xs[j]? = some d) : Wt f.type d := fun k hk => hw k (by
 simp only [DataW.weights, ht]
 exact DataW.weights_mem_each (j := j) (by simpa using congrArg (Option.map (·.type)) hf) hd k hk)
theorem wt_len {t E : TypeId} {A : Option Addr} {n c : Nat} (ht : Tryz.prog.underlying t = some (.slice E)) (hb : Nat.ble 1 (Tryz.prog.bytesOf E) = true) (h : DataW.trod enc Tryz.prog W0 base spare held fuel t [.slice A n c] = some x) (hw : Wt t x.1) : n ≤ 140737488355328 := by
 have hr : reachBytes ≤ 140737488355328 := by decide
 rcases open_slice ht h with ⟨hcs, _⟩ | ⟨a, len, cap, m, k, D, Pl, hcs, _, hl, hm, hmm, hx, _⟩
 ·simp only [List.cons.injEq, Value.slice.injEq, and_true] at hcs; omega
 ·simp only [List.cons.injEq, Value.slice.injEq, and_true] at hcs
  obtain ⟨_, rfl, _⟩ := hcs
  subst hx
  have h2 := (wt_slice ht hw).2
  simp only [List.length_map, List.length_range] at h2
  have h3 : n * 1 ≤ (n + (m - n)) * Tryz.prog.bytesOf E := Nat.mul_le_mul (Nat.le_add_right _ _) (Nat.le_of_ble_eq_true hb)
  omega
theorem read_shape (h : DataW.trod enc Tryz.prog W0 base spare held fuel 68 cs = some x) : ∃ e : SE, cs = [e.1.val] ∧ ShAt W0 e.1 e.2 ∧ e.1.n ≤ maxLen := by
 rcases open_ints Tryz.underlying68 Tryz.underlying3 (by kernel_rfl) h with ⟨hcs, _⟩ | ⟨a, len, cap, zs, hcs, _, hl, hm, hz, _, hcell, _⟩
 ·exact ⟨(⟨none, 0, 0⟩, []), hcs, ⟨Rd.none_ _ _, rfl⟩, Nat.zero_le _⟩
 ·have hzl : len ≤ zs.length := by rw [hz]; split <;> omega
  have hlen : (zs.take len).length = len := by rw [List.length_take]; omega
  refine ⟨(⟨some a, len, cap⟩, zs.take len), hcs, ⟨fun h0 => ?_, hlen⟩, Nat.le_trans hl hm⟩
  have h0' : 0 < len := by rw [List.length_map, hlen] at h0; exact h0
  have ea := C.addr_of_cell (hcell 0 (by omega))
  have ea' : a = ⟨a.block, a.off, none⟩ := by simpa [Addr.add] using ea
  refine ⟨a.block, a.off, by dsimp only; rw [← ea'], fun j u hu => ?_⟩
  obtain ⟨hj, hju⟩ := List.getElem?_eq_some_iff.1 hu
  have hj' : j < len := by simp at hj; omega
  have hc := hcell j (by omega)
  rw [ea', C.add_of] at hc
  rw [hc]
  simp at hju
  rw [← hju]
  simp [List.getD, List.getElem?_eq_getElem (show j < zs.length by omega)]
set_option maxRecDepth 100000 in
theorem read_fun (hsz : cs.length = 5) (h : DataW.trod enc Tryz.prog W0 base spare held fuel 37 cs = some x) : ∃ e : FE, cs = e.1.cells.toList ∧ F.FnAt W0 e.1 e.2 ∧ (Wt 37 x.1 → F.LgF e.1) := by
 have k9 : Tryz.prog.cellsOf 9 = 1 := by kernel_rfl
 have k24 : Tryz.prog.cellsOf 34 = 2 := by kernel_rfl
 have k22 : Tryz.prog.cellsOf 32 = 1 := by kernel_rfl
 have k25 : Tryz.prog.cellsOf 35 = 1 := by kernel_rfl
 match cs, hsz with
 | [c0, c1, c2, c3, c4], _ =>
 obtain ⟨y0, y1, y2, y3, n, rfl, _, h0, h1, h2, h3⟩ := Joins.trod_struct4 Tryz.underlying37 h
 simp only [k9, k24, k22, k25, List.drop_zero, List.drop_succ_cons, List.take_succ_cons, List.take_zero] at h0 h1 h2 h3
 obtain ⟨s0, e0, x0, _⟩ := DataW.trod_string Tryz.underlying9 h0
 obtain ⟨z0, z1, n1, x1, _, g0, g1⟩ := trod_struct2 Tryz.underlying34 h1
 simp only [k22, List.drop_zero, List.drop_succ_cons, List.take_succ_cons, List.take_zero] at g0 g1
 obtain ⟨A, a, ca, e1, ra, _, _⟩ := F.read_ints g0
 obtain ⟨B, b, cb, e2, rb, _, _⟩ := F.read_ints g1
 obtain ⟨L, l, cl, e3, rl, _, _⟩ := F.read_ints h2
 obtain ⟨D, bd, cd, e4, rd, _, _, hI⟩ := C.read_insts h3
 simp only [List.cons.injEq, and_true] at e0 e1 e2 e3 e4
 subst e0 e1 e2 e3 e4
 refine ⟨(⟨s0, A, a.length, ca, B, b.length, cb, L, l.length, cl, D, bd.length, cd⟩, ⟨s0.data.toList, a, b, l, bd⟩), rfl, ⟨rfl, ra, rb, rl, rd, rfl, rfl, rfl, rfl, hI⟩, fun hw => ?_⟩
 have w0 := wt_struct (j := 0) Tryz.underlying37 hw rfl rfl
 have w1 := wt_struct (j := 1) Tryz.underlying37 hw rfl rfl
 have w2 := wt_struct (j := 2) Tryz.underlying37 hw rfl rfl
 have w3 := wt_struct (j := 3) Tryz.underlying37 hw rfl rfl
 subst x0 x1
 have v0 := wt_struct (j := 0) Tryz.underlying34 w1 rfl rfl
 have v1 := wt_struct (j := 1) Tryz.underlying34 w1 rfl rfl
 refine ⟨?_, wt_len Tryz.underlying32 (by kernel_rfl) g0 v0, wt_len Tryz.underlying32 (by kernel_rfl) g1 v1, wt_len Tryz.underlying32 (by kernel_rfl) h2 w2, wt_len Tryz.underlying35 (by kernel_rfl) h3 w3⟩
 have := w0 s0.data.toList.length (by simp [DataW.weights])
 have hr : reachBytes ≤ 140737488355328 := by decide
 have e : s0.data.toList.length = s0.size := Array.length_toList
 dsimp only
 omega
theorem add_zero_addr (a : Addr) : a.add 0 = a := by simp [Addr.add]
set_option maxRecDepth 100000 in
theorem read_shapes (h : DataW.trod enc Tryz.prog W0 base spare held fuel 22 cs = some x) : ∃ X, ∃ es : List SE, ∃ c, cs = [.slice X es.length c] ∧ Rd W0 X (svs es) ∧ (∀ e ∈ es, ShAt W0 e.1 e.2 ∧ e.1.n ≤ maxLen) ∧ es.length ≤ c ∧ c ≤ maxLen ∧ (Wt 22 x.1 → ∀ e ∈ es, e.1.n ≤ 140737488355328) := by
 rcases open_slice Tryz.underlying22 h with ⟨hcs, _⟩ | ⟨a, len, cap, m, n, D, Pl, hcs, _, hl, hm, hmm, rfl, hi⟩
 ·exact ⟨none, [], 0, hcs, Rd.none_ _ _, (fun _ h => nomatch h), Nat.le_refl _, Nat.zero_le _, fun _ _ h => nomatch h⟩
 ·have hlm : len ≤ m := by rw [hmm]; split <;> omega
  have c1 : Tryz.prog.cellsOf 68 = 1 := by kernel_rfl
  have each : ∀ i : Nat, ∃ e : SE, i < len → W0.cell? (a.add i) = some e.1.val ∧ (ShAt W0 e.1 e.2 ∧ e.1.n ≤ maxLen) ∧ (Wt 68 (D i) → e.1.n ≤ 140737488355328) := by
   intro i
   by_cases hlt : i < len
   ·obtain ⟨cs', hc, ht'⟩ := hi i (by omega)
    rw [c1, Nat.mul_one] at hc
    obtain ⟨e, he, hs, hn⟩ := read_shape ht'
    obtain ⟨_, hcl, hat⟩ := World.cells?_some hc
    have g0 := hat 0 (by omega)
    refine ⟨e, fun _ => ⟨?_, ⟨hs, hn⟩, fun hw => ?_⟩⟩
    rotate_left
    ·rw [he] at ht'
     exact wt_len Tryz.underlying68 (by kernel_rfl) ht' hw
    rw [he] at g0
    rw [add_zero_addr] at g0
    simpa using g0
   ·exact ⟨(⟨none, 0, 0⟩, []), fun h => absurd h hlt⟩
  obtain ⟨f, hf⟩ := Classical.axiomOfChoice each
  have hlen : ((List.range len).map f).length = len := by simp
  refine ⟨some a, (List.range len).map f, cap, by rw [hlen]; exact hcs, fun h0 => ?_, fun e he => ?_, by rw [hlen]; exact hl, hm, fun hw e he => ?_⟩
  ·have h0' : 0 < len := by rw [svs_length, hlen] at h0; omega
   have ea := C.addr_of_cell (hf 0 h0').1
   have ea' : a = ⟨a.block, a.off, none⟩ := by simpa [Addr.add] using ea
   refine ⟨a.block, a.off, by rw [← ea'], fun j u hu => ?_⟩
   have hj : j < len := by have := (List.getElem?_eq_some_iff.1 hu).1; rw [svs_length, hlen] at this; exact this
   have q0 := svs_at ((List.range len).map f) j (by rw [hlen]; exact hj)
   have k0 := (hf j hj).1
   rw [ea', C.add_of] at k0
   rw [q0] at hu
   simp only [List.getElem_map, List.getElem_range] at hu
   rw [k0]; exact hu
  ·obtain ⟨i, hi', rfl⟩ := List.mem_map.1 he
   exact (hf i (List.mem_range.1 hi')).2.1
  ·obtain ⟨i, hi', rfl⟩ := List.mem_map.1 he
   exact (hf i (List.mem_range.1 hi')).2.2 ((wt_slice Tryz.underlying22 hw).1 _ (List.mem_map.2 ⟨i, hi', rfl⟩))
set_option maxRecDepth 100000 in
theorem read_funs (h : DataW.trod enc Tryz.prog W0 base spare held fuel 23 cs = some x) : ∃ Y, ∃ fs : List FE, ∃ c, cs = [.slice Y fs.length c] ∧ Rd W0 Y (fvs fs) ∧ (∀ e ∈ fs, F.FnAt W0 e.1 e.2) ∧ fs.length ≤ c ∧ c ≤ maxLen ∧ (Wt 23 x.1 → ∀ e ∈ fs, F.LgF e.1) := by
 rcases open_slice Tryz.underlying23 h with ⟨hcs, _⟩ | ⟨a, len, cap, m, n, D, Pl, hcs, _, hl, hm, hmm, rfl, hi⟩
 ·exact ⟨none, [], 0, hcs, Rd.none_ _ _, (fun _ h => nomatch h), Nat.le_refl _, Nat.zero_le _, fun _ _ h => nomatch h⟩
 ·have hlm : len ≤ m := by rw [hmm]; split <;> omega
  have c5 : Tryz.prog.cellsOf 37 = 5 := by kernel_rfl
  have each : ∀ i : Nat, ∃ e : FE, i < len → (∀ j u, e.1.cells.toList[j]? = some u → W0.cell? ((a.add (i * 5)).add j) = some u) ∧ F.FnAt W0 e.1 e.2 ∧ (Wt 37 (D i) → F.LgF e.1) := by
   intro i
   by_cases hlt : i < len
   ·obtain ⟨cs', hc, ht'⟩ := hi i (by omega)
    rw [c5] at hc
    obtain ⟨_, hcl, hat⟩ := World.cells?_some hc
    obtain ⟨e, rfl, hs⟩ := read_fun hcl ht'
    refine ⟨e, fun _ => ⟨fun j u hu => ?_, hs⟩⟩
    have hj : j < 5 := by rw [← hcl]; exact (List.getElem?_eq_some_iff.1 hu).1
    rw [hat j hj]; exact hu
   ·exact ⟨(F.nilV, F.nilF), fun h => absurd h hlt⟩
  obtain ⟨f, hf⟩ := Classical.axiomOfChoice each
  have hlen : ((List.range len).map f).length = len := by simp
  refine ⟨some a, (List.range len).map f, cap, by rw [hlen]; exact hcs, fun h0 => ?_, fun e he => ?_, by rw [hlen]; exact hl, hm, fun hw e he => ?_⟩
  ·have h0' : 0 < len := by rw [fvs_length, hlen] at h0; omega
   have ea := C.addr_of_cell ((hf 0 h0').1 0 _ rfl)
   have ea' : a = ⟨a.block, a.off, none⟩ := by simpa [Addr.add] using ea
   refine ⟨a.block, a.off, by rw [← ea'], fun j u hu => ?_⟩
   have hj : j < len * 5 := by have := (List.getElem?_eq_some_iff.1 hu).1; rw [fvs_length, hlen] at this; exact this
   have hd : j / 5 < len := by omega
   have q0 := fvs_at ((List.range len).map f) (j / 5) (j % 5) (by rw [hlen]; exact hd) (by omega)
   rw [show j / 5 * 5 + j % 5 = j by omega, hu] at q0
   simp only [List.getElem_map, List.getElem_range] at q0
   have k0 := (hf (j / 5) hd).1 (j % 5) u q0.symm
   rw [ea', C.add_of, C.add_of, Nat.add_assoc, show j / 5 * 5 + j % 5 = j by omega] at k0
   exact k0
  ·obtain ⟨i, hi', rfl⟩ := List.mem_map.1 he
   exact (hf i (List.mem_range.1 hi')).2.1
  ·obtain ⟨i, hi', rfl⟩ := List.mem_map.1 he
   exact (hf i (List.mem_range.1 hi')).2.2 ((wt_slice Tryz.underlying23 hw).1 _ (List.mem_map.2 ⟨i, hi', rfl⟩))
end
section
variable {H : Type} {enc : TypeId × Value → H} {w : World} {base b0 : Nat} {spare : Nat → Bool} {held : Bool} {r : Reach} {v : Value} {d : DataW H} {p : List MemPlace}
theorem array2 {α : Type} {cs : Array α} (h : cs.size = 2) : ∃ c0 c1, cs = #[c0, c1] := by
 obtain ⟨l⟩ := cs
 match l, h with
 | [c0, c1], _ => exact ⟨c0, c1, rfl⟩
set_option maxRecDepth 100000 in
theorem open_img (hv : Value.okWide Tryz.prog w r b0 25 v) (h : DataW.Trod enc Tryz.prog w base spare held 25 v d p) : ∃ (iv : IV) (es : List SE) (fs : List FE), v = iv.val ∧ ImAt w iv es fs ∧ (Wt 25 d → LgI iv es fs) := by
 have k0 : Tryz.prog.cellsOf 22 = 1 := by kernel_rfl
 have k1 : Tryz.prog.cellsOf 23 = 1 := by kernel_rfl
 obtain ⟨cs, rfl, hsz⟩ := okWide_struct Tryz.underlying25 hv
 obtain ⟨c0, c1, rfl⟩ := array2 (hsz.trans (by kernel_rfl))
 obtain ⟨fuel, hf⟩ := h
 obtain ⟨z0, z1, n1, hx, _, g0, g1⟩ := trod_struct2 Tryz.underlying25 hf
 obtain ⟨rfl, _⟩ := Prod.mk.inj hx
 simp only [Value.cells, k0, k1, List.drop_zero, List.drop_succ_cons, List.take_succ_cons, List.take_zero] at g0 g1
 obtain ⟨X, es, cx, e1, rx, hs, _, _, ws⟩ := read_shapes g0
 obtain ⟨Y, fs, cy, e2, ry, hfn, _, _, wf⟩ := read_funs g1
 simp only [List.cons.injEq, and_true] at e1 e2
 subst e1 e2
 refine ⟨⟨X, es.length, cx, Y, fs.length, cy⟩, es, fs, rfl, ⟨rx, ry, rfl, rfl, fun e he => (hs e he).1, hfn⟩, fun hw => ?_⟩
 have w0 := wt_struct (j := 0) Tryz.underlying25 hw rfl rfl
 have w1 := wt_struct (j := 1) Tryz.underlying25 hw rfl rfl
 exact ⟨wt_len Tryz.underlying22 (by kernel_rfl) g0 w0, wt_len Tryz.underlying23 (by kernel_rfl) g1 w1, ws w0, wf w1⟩
end

theorem handed_sized {H : Type} {enc : TypeId × Value → H} {a : Assume} {C : Checked} {os : Os} {f : FuncId} {fn : Func} {s : ChangeSpec} {conds : List PathCond} {apart fresh handsOn again : Bool} {X : World → Array Value → Prop}
  (hX : ∀ (w w' : World) (args : Array Value), w.heap = w'.heap → X w args → X w' args) (own : ownKnob C.prog.godebug = none) (started : os.Started) (noInit : C.prog.inits.idxOf? f = none) (hfn : C.prog.funcs[f]? = some fn)
  (witness : ∃ (w : World) (tape : Tape) (i : Input), w.os = os ∧ (w.forCall tape i).Shaped C.prog ∧ i.vars = [] ∧ Input.okWide C.prog (w.forCall tape i) .any w.heap.size f i ∧
   ((s.pre enc C.prog fn conds apart (w.forCall tape i).memory i.args ∧ X (w.forCall tape i).memory i.args) ∧ sizedMet enc C.prog fn (OpenSpec.ofChange s) apart (w.forCall tape i).memory i.args) ∧ a.holds C.prog (lone (Frame.enter C.prog f i.args .normal) [] (w.forCall tape i)))
  (contract : ∀ (W : World) (base : Nat) (args : Array Value) (ds gs : List (DataW H)) (before : List MemPlace),
   (∀ (j : Nat) t v, fn.params[j]? = some t → args[j]? = some v → Value.okWide C.prog W .any base t v) → DataW.Whole enc C.prog fn.params.toList s.vars apart W args.toList ds gs before →
   W.ShapedOpen C.prog → X W args → (DataW.weightsEach C.prog (fn.params.toList ++ s.plain.varTypes C.prog) (ds ++ gs)).all (· ≤ reachBytes) = true →
   Calls C.prog f args W fun e W' => ∃ v, e = .returned v ∧ s.post enc C.prog fn apart fresh handsOn again W args v W') :
  ReturnsInHanded a C os f .any (fun w args => (s.pre enc C.prog fn conds apart w args ∧ X w args) ∧ sizedMet enc C.prog fn (OpenSpec.ofChange s) apart w args) (s.post enc C.prog fn apart fresh handsOn again) := by
 refine returnsInHanded_of_calls own started noInit witness ?_
 intro w tape i _ hsh _ hok hpre _
 obtain ⟨_, _, _, fn', hfn', _, _, _, _, hval⟩ := hok
 obtain rfl : fn' = fn := Option.some.inj (hfn'.symm.trans hfn)
 obtain ⟨⟨⟨ds, gs, before, hw, _⟩, hx⟩, hz⟩ := hpre
 have hw' := DataW.Whole.of_heap (w' := w.forCall tape i) (by rfl) hw
 refine (contract (w.forCall tape i) w.heap.size i.args ds gs before hval hw' hsh (hX _ _ _ (by rfl) hx) (hz.weights hw)).mono fun e W' ⟨v, he, hp⟩ => ?_
 subst he
 exact ChangeSpec.post_blind hp
theorem wt_arg {H : Type} {ts : List TypeId} {ds : List (DataW H)} (h : (DataW.weightsEach Tryz.prog ts ds).all (· ≤ reachBytes) = true) {j : Nat} {t : TypeId} {d : DataW H} (ht : ts[j]? = some t) (hd : ds[j]? = some d) : Wt t d :=
 fun k hk => by simpa using List.all_eq_true.1 h _ (DataW.weights_mem_each ht hd k hk)

section
variable {H : Type} {enc : TypeId × Value → H} {w : World} {base b0 : Nat} {spare : Nat → Bool} {held : Bool} {r : Reach} {v : Value} {d : DataW H} {p : List MemPlace}
end
section
variable {H : Type} {enc : TypeId × Value → H} {P : Program} {w : World} {base : Nat} {spare : Nat → Bool} {held : Bool}
end

end Go.Proofs.YtgnooffedmeenaaGreatDoor.I

namespace Go.Proofs.YtgnooffedmeenaaGreatDoor.L
open Go.ChangeShapes Go.WideShapes Go.ChangeAt Go.RowKit O

set_option maxRecDepth 100000 in
theorem laidOne_of {W0 : World} {x y z u : String × DataW Unit}
  (h : laidMet Tryz.prog [("backstay/alu.binNames", Rows.laid_backstay_alu_binNames), ("backstay/alu.unNames", Rows.laid_backstay_alu_unNames), x, y, ("internal/strconv.uint64pow10", Rows.laid_internal_strconv_uint64pow10), z, ("strconv.ErrRange", Rows.laid_strconv_ErrRange), ("strconv.ErrSyntax", Rows.laid_strconv_ErrSyntax), ("backstay/value.letters", Rows.laid_backstay_value_letters), u] W0) : O.LaidO W0 := by
 have h4 := h.tail.tail.tail.tail
 have h5 := h4.tail.tail
 have h6 := h5.tail
 refine ⟨Lib.tabIs_of_head (zs := [0, 73, 82, 70, 80]) (k := .i32) _root_.Go.Proofs.YtgnooffedmeenaaGreatDoor.W.gLet tLet Tryz.underlying251 Tryz.underlying21 (by kernel_rfl) (by kernel_rfl) h6.tail,
  ⟨A.strs_of_head (l := A.binNs) A.gBin tBin Tryz.underlying356 Tryz.underlying9 (by kernel_rfl) (by kernel_rfl) h,
  A.strs_of_head (l := A.unNs) A.gUn tUn Tryz.underlying358 Tryz.underlying9 (by kernel_rfl) (by kernel_rfl) h.tail⟩,
  Lib.tabIs_of_head (zs := Lib.pow10Tab) (k := .u64) _root_.Go.Proofs.YtgnooffedmeenaaGreatDoor.W.gPow tPow Tryz.underlying352 Tryz.underlying194 (by kernel_rfl) (by kernel_rfl) h4, ?_, ?_⟩
 ·obtain ⟨a, s, hv, _⟩ := laid_sentinel h6 _root_.Go.Proofs.YtgnooffedmeenaaGreatDoor.W.gSyn tSyn Tryz.underlying128 errRow Tryz.underlying400 Tryz.underlying402 rfl rfl Tryz.underlying9 (by kernel_rfl) (by kernel_rfl)
  exact ⟨_, _, hv⟩
 ·obtain ⟨a, s, hv, _⟩ := laid_sentinel h5 _root_.Go.Proofs.YtgnooffedmeenaaGreatDoor.W.gRng tRng Tryz.underlying128 errRow Tryz.underlying400 Tryz.underlying402 rfl rfl Tryz.underlying9 (by kernel_rfl) (by kernel_rfl)
  exact ⟨_, _, hv⟩

end Go.Proofs.YtgnooffedmeenaaGreatDoor.L
