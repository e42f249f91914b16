/-
  The arguments of the laws: images opened. No conditions.
  A region that draws its order, as in KTail, with more of each of the first ones: between which sizes of the heap it was done; no two of these stretches meet. No program, no conditions.
  Layer listing: what the walk of ListingPlaces asks of memory: two copies, and two boxes that they are put into; a list that is written over. No conditions.
  Layer listing: the walk of ListingPlaces. Conditions: the image and the function lie in memory.
-/
import Derived.HandedShaped
import Derived.SizedLaws
import Derived.Test.YtgnooffedmeenaaGreatDoorQA6
import Derived.Test.YtgnooffedmeenaaGreatDoorQA16
import Derived.Test.YtgnooffedmeenaaGreatDoorQA7
import Derived.Test.YtgnooffedmeenaaGreatDoorQA11
import Derived.Test.YtgnooffedmeenaaGreatDoorQA15
namespace Go.Proofs.YtgnooffedmeenaaGreatDoor.I
open Go.ChangeShapes Go.WideShapes Go.ChangeAt Go.RowKit Go.Deep W

section
variable {H : Type} {enc : TypeId × Value → H} {W0 : World} {base : Nat} {spare : Nat → Bool} {held : Bool} {fuel : Nat} {cs : List Value} {x : DataW H × List MemPlace}
/-- What is read weighs no more than memory holds. -/
def Wt (t : TypeId) (d : DataW H) : Prop := ∀ k ∈ d.weights Tryz.prog t, k ≤ reachBytes
theorem wt_slice {t E : TypeId} {xs ys : List (DataW H)} (ht : Tryz.prog.underlying t = some (.slice E)) (hw : Wt t (.slice xs ys)) : (∀ d ∈ xs, Wt E d) ∧ (xs.length + ys.length) * Tryz.prog.bytesOf E ≤ reachBytes := by
  have all : ∀ (l : List (DataW H)) (d : DataW H), d ∈ l → ∀ k ∈ d.weights Tryz.prog E, k ∈ DataW.weightsAll Tryz.prog E l := by
    intro l
    induction l with
    | nil => intro d hd; cases hd
    | cons a l ih =>
      intro d hd k hk
      rw [DataW.weightsAll, List.mem_append]
      rcases List.mem_cons.1 hd with rfl | hd
      · exact .inl hk
      · exact .inr (ih d hd k hk)
  refine ⟨fun d hd k hk => hw k ?_, hw _ ?_⟩
  · simp only [DataW.weights, ht, List.mem_cons, List.mem_append]
    exact .inr (.inl (all xs d hd k hk))
  · simp only [DataW.weights, ht, List.mem_cons, true_or]
theorem wt_struct {t : TypeId} {fl : Array Field} {xs : List (DataW H)} (ht : Tryz.prog.underlying t = some (.struct fl)) (hw : Wt t (.agg xs)) {j : Nat} {f : Field} {d : DataW H} (hf : fl.toList[j]? = some f) (hd : xs[j]? = some d) : Wt f.type d := fun k hk => hw k (by
  simp only [DataW.weights, ht]
  exact DataW.weights_mem_each (j := j) (by simpa using congrArg (Option.map (·.type)) hf) hd k hk)
theorem wt_len {t E : TypeId} {A : Option Addr} {n c : Nat} (ht : Tryz.prog.underlying t = some (.slice E)) (hb : Nat.ble 1 (Tryz.prog.bytesOf E) = true) (h : DataW.trod enc Tryz.prog W0 base spare held fuel t [.slice A n c] = some x) (hw : Wt t x.1) : n ≤ 140737488355328 := by
  have hr : reachBytes ≤ 140737488355328 := by decide
  rcases open_slice ht h with ⟨hcs, _⟩ | ⟨a, len, cap, m, k, D, Pl, hcs, _, hl, hm, hmm, hx, _⟩
  · simp only [List.cons.injEq, Value.slice.injEq, and_true] at hcs; omega
  · simp only [List.cons.injEq, Value.slice.injEq, and_true] at hcs
    obtain ⟨_, rfl, _⟩ := hcs
    subst hx
    have h2 := (wt_slice ht hw).2
    simp only [List.length_map, List.length_range] at h2
    have h3 : n * 1 ≤ (n + (m - n)) * Tryz.prog.bytesOf E := Nat.mul_le_mul (Nat.le_add_right _ _) (Nat.le_of_ble_eq_true hb)
    omega
theorem read_shape (h : DataW.trod enc Tryz.prog W0 base spare held fuel 68 cs = some x) : ∃ e : SE, cs = [e.1.val] ∧ ShAt W0 e.1 e.2 ∧ e.1.n ≤ maxLen := by
  rcases open_ints Tryz.underlying68 Tryz.underlying3 (by kernel_rfl) h with ⟨hcs, _⟩ | ⟨a, len, cap, zs, hcs, _, hl, hm, hz, _, hcell, _⟩
  · exact ⟨(⟨none, 0, 0⟩, []), hcs, ⟨Rd.none_ _ _, rfl⟩, Nat.zero_le _⟩
  · have hzl : len ≤ zs.length := by rw [hz]; split <;> omega
    have hlen : (zs.take len).length = len := by rw [List.length_take]; omega
    refine ⟨(⟨some a, len, cap⟩, zs.take len), hcs, ⟨fun h0 => ?_, hlen⟩, Nat.le_trans hl hm⟩
    have h0' : 0 < len := by rw [List.length_map, hlen] at h0; exact h0
    have ea := C.addr_of_cell (hcell 0 (by omega))
    have ea' : a = ⟨a.block, a.off, none⟩ := by simpa [Addr.add] using ea
    refine ⟨a.block, a.off, by dsimp only; rw [← ea'], fun j u hu => ?_⟩
    obtain ⟨hj, hju⟩ := List.getElem?_eq_some_iff.1 hu
    have hj' : j < len := by simp at hj; omega
    have hc := hcell j (by omega)
    rw [ea', C.add_of] at hc
    rw [hc]
    simp at hju
    rw [← hju]
    simp [List.getD, List.getElem?_eq_getElem (show j < zs.length by omega)]
set_option maxRecDepth 100000 in
theorem read_fun (hsz : cs.length = 5) (h : DataW.trod enc Tryz.prog W0 base spare held fuel 37 cs = some x) : ∃ e : FE, cs = e.1.cells.toList ∧ F.FnAt W0 e.1 e.2 ∧ (Wt 37 x.1 → F.LgF e.1) := by
  have k9 : Tryz.prog.cellsOf 9 = 1 := by kernel_rfl
  have k24 : Tryz.prog.cellsOf 34 = 2 := by kernel_rfl
  have k22 : Tryz.prog.cellsOf 32 = 1 := by kernel_rfl
  have k25 : Tryz.prog.cellsOf 35 = 1 := by kernel_rfl
  match cs, hsz with
  | [c0, c1, c2, c3, c4], _ =>
  obtain ⟨y0, y1, y2, y3, n, rfl, _, h0, h1, h2, h3⟩ := Joins.trod_struct4 Tryz.underlying37 h
  simp only [k9, k24, k22, k25, List.drop_zero, List.drop_succ_cons, List.take_succ_cons, List.take_zero] at h0 h1 h2 h3
  obtain ⟨s0, e0, x0, _⟩ := DataW.trod_string Tryz.underlying9 h0
  obtain ⟨z0, z1, n1, x1, _, g0, g1⟩ := trod_struct2 Tryz.underlying34 h1
  simp only [k22, List.drop_zero, List.drop_succ_cons, List.take_succ_cons, List.take_zero] at g0 g1
  obtain ⟨A, a, ca, e1, ra, _, _⟩ := F.read_ints g0
  obtain ⟨B, b, cb, e2, rb, _, _⟩ := F.read_ints g1
  obtain ⟨L, l, cl, e3, rl, _, _⟩ := F.read_ints h2
  obtain ⟨D, bd, cd, e4, rd, _, _, hI⟩ := C.read_insts h3
  simp only [List.cons.injEq, and_true] at e0 e1 e2 e3 e4
  subst e0 e1 e2 e3 e4
  refine ⟨(⟨s0, A, a.length, ca, B, b.length, cb, L, l.length, cl, D, bd.length, cd⟩, ⟨s0.data.toList, a, b, l, bd⟩), rfl, ⟨rfl, ra, rb, rl, rd, rfl, rfl, rfl, rfl, hI⟩, fun hw => ?_⟩
  have w0 := wt_struct (j := 0) Tryz.underlying37 hw rfl rfl
  have w1 := wt_struct (j := 1) Tryz.underlying37 hw rfl rfl
  have w2 := wt_struct (j := 2) Tryz.underlying37 hw rfl rfl
  have w3 := wt_struct (j := 3) Tryz.underlying37 hw rfl rfl
  subst x0 x1
  have v0 := wt_struct (j := 0) Tryz.underlying34 w1 rfl rfl
  have v1 := wt_struct (j := 1) Tryz.underlying34 w1 rfl rfl
  refine ⟨?_, wt_len Tryz.underlying32 (by kernel_rfl) g0 v0, wt_len Tryz.underlying32 (by kernel_rfl) g1 v1, wt_len Tryz.underlying32 (by kernel_rfl) h2 w2, wt_len Tryz.underlying35 (by kernel_rfl) h3 w3⟩
  have := w0 s0.data.toList.length (by simp [DataW.weights])
  have hr : reachBytes ≤ 140737488355328 := by decide
  have e : s0.data.toList.length = s0.size := Array.length_toList
  dsimp only
  omega
theorem add_zero_addr (a : Addr) : a.add 0 = a := by simp [Addr.add]
set_option maxRecDepth 100000 in
theorem read_shapes (h : DataW.trod enc Tryz.prog W0 base spare held fuel 22 cs = some x) : ∃ X, ∃ es : List SE, ∃ c, cs = [.slice X es.length c] ∧ Rd W0 X (svs es) ∧ (∀ e ∈ es, ShAt W0 e.1 e.2 ∧ e.1.n ≤ maxLen) ∧ es.length ≤ c ∧ c ≤ maxLen ∧ (Wt 22 x.1 → ∀ e ∈ es, e.1.n ≤ 140737488355328) := by
  rcases open_slice Tryz.underlying22 h with ⟨hcs, _⟩ | ⟨a, len, cap, m, n, D, Pl, hcs, _, hl, hm, hmm, rfl, hi⟩
  · exact ⟨none, [], 0, hcs, Rd.none_ _ _, (fun _ h => nomatch h), Nat.le_refl _, Nat.zero_le _, fun _ _ h => nomatch h⟩
  · have hlm : len ≤ m := by rw [hmm]; split <;> omega
    have c1 : Tryz.prog.cellsOf 68 = 1 := by kernel_rfl
    have each : ∀ i : Nat, ∃ e : SE, i < len → W0.cell? (a.add i) = some e.1.val ∧ (ShAt W0 e.1 e.2 ∧ e.1.n ≤ maxLen) ∧ (Wt 68 (D i) → e.1.n ≤ 140737488355328) := by
      intro i
      by_cases hlt : i < len
      · obtain ⟨cs', hc, ht'⟩ := hi i (by omega)
        rw [c1, Nat.mul_one] at hc
        obtain ⟨e, he, hs, hn⟩ := read_shape ht'
        obtain ⟨_, hcl, hat⟩ := World.cells?_some hc
        have g0 := hat 0 (by omega)
        refine ⟨e, fun _ => ⟨?_, ⟨hs, hn⟩, fun hw => ?_⟩⟩
        rotate_left
        · rw [he] at ht'
          exact wt_len Tryz.underlying68 (by kernel_rfl) ht' hw
        rw [he] at g0
        rw [add_zero_addr] at g0
        simpa using g0
      · exact ⟨(⟨none, 0, 0⟩, []), fun h => absurd h hlt⟩
    obtain ⟨f, hf⟩ := Classical.axiomOfChoice each
    have hlen : ((List.range len).map f).length = len := by simp
    refine ⟨some a, (List.range len).map f, cap, by rw [hlen]; exact hcs, fun h0 => ?_, fun e he => ?_, by rw [hlen]; exact hl, hm, fun hw e he => ?_⟩
    · have h0' : 0 < len := by rw [svs_length, hlen] at h0; omega
      have ea := C.addr_of_cell (hf 0 h0').1
      have ea' : a = ⟨a.block, a.off, none⟩ := by simpa [Addr.add] using ea
      refine ⟨a.block, a.off, by rw [← ea'], fun j u hu => ?_⟩
      have hj : j < len := by have := (List.getElem?_eq_some_iff.1 hu).1; rw [svs_length, hlen] at this; exact this
      have q0 := svs_at ((List.range len).map f) j (by rw [hlen]; exact hj)
      have k0 := (hf j hj).1
      rw [ea', C.add_of] at k0
      rw [q0] at hu
      simp only [List.getElem_map, List.getElem_range] at hu
      rw [k0]; exact hu
    · obtain ⟨i, hi', rfl⟩ := List.mem_map.1 he
      exact (hf i (List.mem_range.1 hi')).2.1
    · obtain ⟨i, hi', rfl⟩ := List.mem_map.1 he
      exact (hf i (List.mem_range.1 hi')).2.2 ((wt_slice Tryz.underlying22 hw).1 _ (List.mem_map.2 ⟨i, hi', rfl⟩))
set_option maxRecDepth 100000 in
theorem read_funs (h : DataW.trod enc Tryz.prog W0 base spare held fuel 23 cs = some x) : ∃ Y, ∃ fs : List FE, ∃ c, cs = [.slice Y fs.length c] ∧ Rd W0 Y (fvs fs) ∧ (∀ e ∈ fs, F.FnAt W0 e.1 e.2) ∧ fs.length ≤ c ∧ c ≤ maxLen ∧ (Wt 23 x.1 → ∀ e ∈ fs, F.LgF e.1) := by
  rcases open_slice Tryz.underlying23 h with ⟨hcs, _⟩ | ⟨a, len, cap, m, n, D, Pl, hcs, _, hl, hm, hmm, rfl, hi⟩
  · exact ⟨none, [], 0, hcs, Rd.none_ _ _, (fun _ h => nomatch h), Nat.le_refl _, Nat.zero_le _, fun _ _ h => nomatch h⟩
  · have hlm : len ≤ m := by rw [hmm]; split <;> omega
    have c5 : Tryz.prog.cellsOf 37 = 5 := by kernel_rfl
    have each : ∀ i : Nat, ∃ e : FE, i < len → (∀ j u, e.1.cells.toList[j]? = some u → W0.cell? ((a.add (i * 5)).add j) = some u) ∧ F.FnAt W0 e.1 e.2 ∧ (Wt 37 (D i) → F.LgF e.1) := by
      intro i
      by_cases hlt : i < len
      · obtain ⟨cs', hc, ht'⟩ := hi i (by omega)
        rw [c5] at hc
        obtain ⟨_, hcl, hat⟩ := World.cells?_some hc
        obtain ⟨e, rfl, hs⟩ := read_fun hcl ht'
        refine ⟨e, fun _ => ⟨fun j u hu => ?_, hs⟩⟩
        have hj : j < 5 := by rw [← hcl]; exact (List.getElem?_eq_some_iff.1 hu).1
        rw [hat j hj]; exact hu
      · exact ⟨(F.nilV, F.nilF), fun h => absurd h hlt⟩
    obtain ⟨f, hf⟩ := Classical.axiomOfChoice each
    have hlen : ((List.range len).map f).length = len := by simp
    refine ⟨some a, (List.range len).map f, cap, by rw [hlen]; exact hcs, fun h0 => ?_, fun e he => ?_, by rw [hlen]; exact hl, hm, fun hw e he => ?_⟩
    · have h0' : 0 < len := by rw [fvs_length, hlen] at h0; omega
      have ea := C.addr_of_cell ((hf 0 h0').1 0 _ rfl)
      have ea' : a = ⟨a.block, a.off, none⟩ := by simpa [Addr.add] using ea
      refine ⟨a.block, a.off, by rw [← ea'], fun j u hu => ?_⟩
      have hj : j < len * 5 := by have := (List.getElem?_eq_some_iff.1 hu).1; rw [fvs_length, hlen] at this; exact this
      have hd : j / 5 < len := by omega
      have q0 := fvs_at ((List.range len).map f) (j / 5) (j % 5) (by rw [hlen]; exact hd) (by omega)
      rw [show j / 5 * 5 + j % 5 = j by omega, hu] at q0
      simp only [List.getElem_map, List.getElem_range] at q0
      have k0 := (hf (j / 5) hd).1 (j % 5) u q0.symm
      rw [ea', C.add_of, C.add_of, Nat.add_assoc, show j / 5 * 5 + j % 5 = j by omega] at k0
      exact k0
    · obtain ⟨i, hi', rfl⟩ := List.mem_map.1 he
      exact (hf i (List.mem_range.1 hi')).2.1
    · obtain ⟨i, hi', rfl⟩ := List.mem_map.1 he
      exact (hf i (List.mem_range.1 hi')).2.2 ((wt_slice Tryz.underlying23 hw).1 _ (List.mem_map.2 ⟨i, hi', rfl⟩))
end
section
variable {H : Type} {enc : TypeId × Value → H} {w : World} {base b0 : Nat} {spare : Nat → Bool} {held : Bool} {r : Reach} {v : Value} {d : DataW H} {p : List MemPlace}
theorem array2 {α : Type} {cs : Array α} (h : cs.size = 2) : ∃ c0 c1, cs = #[c0, c1] := by
  obtain ⟨l⟩ := cs
  match l, h with
  | [c0, c1], _ => exact ⟨c0, c1, rfl⟩
set_option maxRecDepth 100000 in
theorem open_img (hv : Value.okWide Tryz.prog w r b0 25 v) (h : DataW.Trod enc Tryz.prog w base spare held 25 v d p) : ∃ (iv : IV) (es : List SE) (fs : List FE), v = iv.val ∧ ImAt w iv es fs ∧ (Wt 25 d → LgI iv es fs) := by
  have k0 : Tryz.prog.cellsOf 22 = 1 := by kernel_rfl
  have k1 : Tryz.prog.cellsOf 23 = 1 := by kernel_rfl
  obtain ⟨cs, rfl, hsz⟩ := okWide_struct Tryz.underlying25 hv
  obtain ⟨c0, c1, rfl⟩ := array2 (hsz.trans (by kernel_rfl))
  obtain ⟨fuel, hf⟩ := h
  obtain ⟨z0, z1, n1, hx, _, g0, g1⟩ := trod_struct2 Tryz.underlying25 hf
  obtain ⟨rfl, _⟩ := Prod.mk.inj hx
  simp only [Value.cells, k0, k1, List.drop_zero, List.drop_succ_cons, List.take_succ_cons, List.take_zero] at g0 g1
  obtain ⟨X, es, cx, e1, rx, hs, _, _, ws⟩ := read_shapes g0
  obtain ⟨Y, fs, cy, e2, ry, hfn, _, _, wf⟩ := read_funs g1
  simp only [List.cons.injEq, and_true] at e1 e2
  subst e1 e2
  refine ⟨⟨X, es.length, cx, Y, fs.length, cy⟩, es, fs, rfl, ⟨rx, ry, rfl, rfl, fun e he => (hs e he).1, hfn⟩, fun hw => ?_⟩
  have w0 := wt_struct (j := 0) Tryz.underlying25 hw rfl rfl
  have w1 := wt_struct (j := 1) Tryz.underlying25 hw rfl rfl
  exact ⟨wt_len Tryz.underlying22 (by kernel_rfl) g0 w0, wt_len Tryz.underlying23 (by kernel_rfl) g1 w1, ws w0, wf w1⟩
end

/-- The wrap that hands on the world's shape, and how much is read at most. -/
theorem handed_sized {H : Type} {enc : TypeId × Value → H} {a : Assume} {C : Checked} {os : Os} {f : FuncId} {fn : Func} {s : ChangeSpec} {conds : List PathCond} {apart fresh handsOn again : Bool} {X : World → Array Value → Prop}
    (hX : ∀ (w w' : World) (args : Array Value), w.heap = w'.heap → X w args → X w' args) (own : ownKnob C.prog.godebug = none) (started : os.Started) (noInit : C.prog.inits.idxOf? f = none) (hfn : C.prog.funcs[f]? = some fn)
    (witness : ∃ (w : World) (tape : Tape) (i : Input), w.os = os ∧ (w.forCall tape i).Shaped C.prog ∧ i.vars = [] ∧ Input.okWide C.prog (w.forCall tape i) .any w.heap.size f i ∧
      ((s.pre enc C.prog fn conds apart (w.forCall tape i).memory i.args ∧ X (w.forCall tape i).memory i.args) ∧ sizedMet enc C.prog fn (OpenSpec.ofChange s) apart (w.forCall tape i).memory i.args) ∧ a.holds C.prog (lone (Frame.enter C.prog f i.args .normal) [] (w.forCall tape i)))
    (contract : ∀ (W : World) (base : Nat) (args : Array Value) (ds gs : List (DataW H)) (before : List MemPlace),
      (∀ (j : Nat) t v, fn.params[j]? = some t → args[j]? = some v → Value.okWide C.prog W .any base t v) → DataW.Whole enc C.prog fn.params.toList s.vars apart W args.toList ds gs before →
      W.ShapedOpen C.prog → X W args → (DataW.weightsEach C.prog (fn.params.toList ++ s.plain.varTypes C.prog) (ds ++ gs)).all (· ≤ reachBytes) = true →
      Calls C.prog f args W fun e W' => ∃ v, e = .returned v ∧ s.post enc C.prog fn apart fresh handsOn again W args v W') :
    ReturnsInHanded a C os f .any (fun w args => (s.pre enc C.prog fn conds apart w args ∧ X w args) ∧ sizedMet enc C.prog fn (OpenSpec.ofChange s) apart w args) (s.post enc C.prog fn apart fresh handsOn again) := by
  refine returnsInHanded_of_calls own started noInit witness ?_
  intro w tape i _ hsh _ hok hpre _
  obtain ⟨_, _, _, fn', hfn', _, _, _, _, hval⟩ := hok
  obtain rfl : fn' = fn := Option.some.inj (hfn'.symm.trans hfn)
  obtain ⟨⟨⟨ds, gs, before, hw, _⟩, hx⟩, hz⟩ := hpre
  have hw' := DataW.Whole.of_heap (w' := w.forCall tape i) (by rfl) hw
  refine (contract (w.forCall tape i) w.heap.size i.args ds gs before hval hw' hsh (hX _ _ _ (by rfl) hx) (hz.weights hw)).mono fun e W' ⟨v, he, hp⟩ => ?_
  subst he
  exact ChangeSpec.post_blind hp
theorem wt_arg {H : Type} {ts : List TypeId} {ds : List (DataW H)} (h : (DataW.weightsEach Tryz.prog ts ds).all (· ≤ reachBytes) = true) {j : Nat} {t : TypeId} {d : DataW H} (ht : ts[j]? = some t) (hd : ds[j]? = some d) : Wt t d :=
  fun k hk => by simpa using List.all_eq_true.1 h _ (DataW.weights_mem_each ht hd k hk)

section
variable {H : Type} {enc : TypeId × Value → H} {w : World} {base b0 : Nat} {spare : Nat → Bool} {held : Bool} {r : Reach} {v : Value} {d : DataW H} {p : List MemPlace}
end
section
variable {H : Type} {enc : TypeId × Value → H} {P : Program} {w : World} {base : Nat} {spare : Nat → Bool} {held : Bool}
theorem trodAll_five {t0 t1 t2 t3 t4 : TypeId} {args : Array Value} {ds : List (DataW H)} {ps : List MemPlace} (h : DataW.TrodAll enc P w base spare held [t0, t1, t2, t3, t4] args.toList ds ps) :
    ∃ v0 v1 v2 v3 v4 d0 d1 d2 d3 d4 p0 p1 p2 p3 p4, args = #[v0, v1, v2, v3, v4] ∧ ds = [d0, d1, d2, d3, d4] ∧ ps = p0 ++ p1 ++ p2 ++ p3 ++ p4 ∧ DataW.Trod enc P w base spare held t0 v0 d0 p0 ∧ DataW.Trod enc P w base spare held t1 v1 d1 p1 ∧ DataW.Trod enc P w base spare held t2 v2 d2 p2 ∧ DataW.Trod enc P w base spare held t3 v3 d3 p3 ∧ DataW.Trod enc P w base spare held t4 v4 d4 p4 := by
  obtain ⟨v0, vs, d0, ds0, p0, q0, hargs, rfl, rfl, h0, hr0⟩ := trodAll_cons h
  obtain ⟨v1, vs1, d1, ds1, p1, q1, rfl, rfl, rfl, h1, hr1⟩ := trodAll_cons hr0
  obtain ⟨v2, vs2, d2, ds2, p2, q2, rfl, rfl, rfl, h2, hr2⟩ := trodAll_cons hr1
  obtain ⟨v3, vs3, d3, ds3, p3, q3, rfl, rfl, rfl, h3, hr3⟩ := trodAll_cons hr2
  obtain ⟨v4, vs4, d4, ds4, p4, q4, rfl, rfl, rfl, h4, hr4⟩ := trodAll_cons hr3
  obtain ⟨e1, rfl, rfl⟩ := trodAll_none (args := vs4.toArray) (by simpa using hr4)
  have e2 : vs4 = [] := by simpa using congrArg Array.toList e1
  subst e2
  exact ⟨v0, v1, v2, v3, v4, d0, d1, d2, d3, d4, p0, p1, p2, p3, p4, Array.ext' (by simpa using hargs), rfl, by simp, h0, h1, h2, h3, h4⟩
theorem trodAll_mk5 {t0 t1 t2 t3 t4 : TypeId} {v0 v1 v2 v3 v4 : Value} {d0 d1 d2 d3 d4 : DataW H} {p0 p1 p2 p3 p4 : List MemPlace} (h0 : DataW.Trod enc P w base spare held t0 v0 d0 p0) (h1 : DataW.Trod enc P w base spare held t1 v1 d1 p1)
    (h2 : DataW.Trod enc P w base spare held t2 v2 d2 p2) (h3 : DataW.Trod enc P w base spare held t3 v3 d3 p3) (h4 : DataW.Trod enc P w base spare held t4 v4 d4 p4) : DataW.TrodAll enc P w base spare held [t0, t1, t2, t3, t4] [v0, v1, v2, v3, v4] [d0, d1, d2, d3, d4] (p0 ++ (p1 ++ (p2 ++ (p3 ++ p4)))) :=
  ⟨p0, p1 ++ (p2 ++ (p3 ++ p4)), h0, trodAll_mk4 h1 h2 h3 h4, rfl⟩
end

end Go.Proofs.YtgnooffedmeenaaGreatDoor.I

namespace Go.Proofs.YtgnooffedmeenaaGreatDoor
open Go.RowKit
section
variable {P : Program} {md : Region.Mode} {ops : Array Oper}

theorem wpAny_tailL {Q : Exit → Act → World → Prop} (ds : Nat → Nat) (m : Nat) (hm : m ≤ ops.size) (hO : onlyB ops = true) (hB : headG ops ds m = true) (hT : tailG md ops m = true) (S : Nat → Nat → Nat → Value → World → Prop) (hS : ∀ i l h v w w', S i l h v w → Keep NoB w w' → S i l h v w') (w0 : World) (a0 : Act) (hsz : fitsD ops ds a0.tmps.size = true)
    (hstep : ∀ i o (a : Act) (w : World), ops[i]? = some o → i < m → FrameD a0 ds m a → Keep NoB w0 w → (∀ e ∈ o.after, Region.binds md e = true → ∃ l h, S e.on l h (a.tmps.getD (ds e.on) undef) w) → Does P ops o a w fun u w' => S i w.heap.size w'.heap.size u w' ∧ Keep NoB w w')
    (hend : ∀ (a : Act) (w : World) (L H : Nat → Nat), FrameD a0 ds m a → Keep NoB w0 w → (∀ i, i < m → S i (L i) (H i) (a.tmps.getD (ds i) undef) w) → (∀ i, i < m → w0.heap.size ≤ L i ∧ H i ≤ w.heap.size) → (∀ i j, i < m → j < m → i ≠ j → H i ≤ L j ∨ H j ≤ L i) → wpList P ops Q (ops.toList.drop m) a w) :
    ∀ (fuel : Nat) (listed : Array Bool) (a : Act) (w : World), listed.size = ops.size → (∃ L : List Nat, L.length + (ops.size - m) ≤ fuel ∧ ∀ i, i < m → listed.getD i true = false → i ∈ L) → Closed md ops listed → (∀ i, m ≤ i → i < ops.size → listed.getD i true = false) → FrameD a0 ds m a → Keep NoB w0 w →
      (∃ L H : Nat → Nat, (∀ i, i < m → listed.getD i true = true → S i (L i) (H i) (a.tmps.getD (ds i) undef) w ∧ w0.heap.size ≤ L i ∧ H i ≤ w.heap.size) ∧ ∀ i j, i < m → j < m → i ≠ j → listed.getD i true = true → listed.getD j true = true → H i ≤ L j ∨ H j ≤ L i) → wpAny P md ops Q fuel listed a w := by
  intro fuel
  induction fuel with
  | zero =>
    intro listed a w hs ⟨L, hL, hin⟩ hC hN hF hK ⟨Lo, Hi, hA, hP⟩
    have hall : ∀ i, i < m → listed.getD i true = true := fun i hi => by
      cases h : listed.getD i true
      · have := hin i hi h
        rw [List.length_eq_zero_iff.1 (by omega : L.length = 0)] at this; cases this
      · rfl
    exact wpAny_chain hO hT 0 m listed a w (Nat.le_refl _) hs (by omega) hC hall hN (hend a w Lo Hi hF hK (fun i hi => (hA i hi (hall i hi)).1) (fun i hi => (hA i hi (hall i hi)).2) fun i j h1 h2 h3 => hP i j h1 h2 h3 (hall i h1) (hall j h2))
  | succ fuel ih =>
    intro listed a w hs ⟨L, hL, hin⟩ hC hN hF hK ⟨Lo, Hi, hA, hP⟩
    by_cases hdone : ∀ i, i < m → listed.getD i true = true
    · exact wpAny_chain hO hT (fuel + 1) m listed a w (Nat.le_refl _) hs (by omega) hC hdone hN (hend a w Lo Hi hF hK (fun i hi => (hA i hi (hdone i hi)).1) (fun i hi => (hA i hi (hdone i hi)).2) fun i j h1 h2 h3 => hP i j h1 h2 h3 (hdone i h1) (hdone j h2))
    refine ⟨fun h0 => ?_, fun i hi => ?_⟩
    · refine absurd (fun i => ?_) hdone
      induction i using Nat.strongRecOn with
      | ind i ih2 =>
        intro hi
        cases hl : listed.getD i true
        · have hio : i < ops.size := by omega
          have ho : ops[i]? = some ops[i] := Array.getElem?_eq_getElem hio
          have : i ∈ Region.ready md ops listed := mem_ready.2 ⟨hl, ops[i], ho, fun e he _ => by
            have h3 := onlyB_at hO ho e he
            have h4 := ih2 e.on h3 (by omega)
            have h5 : e.on < listed.size := by omega
            simpa [h5] using h4⟩
          rw [h0] at this; cases this
        · rfl
    · obtain ⟨h1, o, ho, hall⟩ := mem_ready.1 hi
      have hi' := (Array.getElem?_eq_some_iff.1 ho).1
      have hr := ready_getD (listed := listed) hO hs ho (fun e he hb => hall e he hb)
      have him : i < m := by
        rcases Nat.lt_or_ge i m with h5 | h5
        · exact h5
        · have hb := List.all_eq_true.1 hT i (List.mem_range.2 hi')
          simp only [Bool.or_eq_true, decide_eq_true_eq] at hb
          have hb : allBehind md ops i = true := hb.resolve_left (by omega)
          exact absurd (fun k hk => behind_all hb hC ho hr k (by omega)) hdone
      obtain ⟨hd, hdis⟩ := headG_at hB him ho
      have hdoes := hstep i o a w ho him hF hK fun e he hb => ⟨_, _, (hA e.on (by have := onlyB_at hO ho e he; omega) (hr e he hb)).1⟩
      have hnext : ∀ u w', S i w.heap.size w'.heap.size u w' → Keep NoB w w' → wpAny P md ops Q fuel (listed.setIfInBounds i true) (a.put o.dst u) w' := by
        intro u w' hSu hk
        rw [hd]
        have hds : ds i < a.tmps.size := by rw [hF.2.1]; exact fitsD_at hsz ho hd
        have hget : ∀ s, (a.put (some (ds i)) u).tmps.getD s undef = if s = ds i then u else a.tmps.getD s undef := fun s => by
          unfold Act.put
          by_cases e : s = ds i
          · subst e; simp [hds]
          · rw [if_neg e]
            simp only [Array.getD_eq_getD_getElem?, Array.getElem?_setIfInBounds]
            rw [if_neg (fun h => e h.symm)]
        refine ih (listed.setIfInBounds i true) _ w' (by simpa using hs) ⟨L.erase i, ?_, fun k hk' hl => ?_⟩ (closed_set hC ho hr) (fun k hk1 hk2 => by rw [getD_set_ne true (by omega)]; exact hN k hk1 hk2) ⟨hF.1, by unfold Act.put; simpa using hF.2.1, fun s hs' => by rw [hget, if_neg (hs' i him)]; exact hF.2.2 s hs'⟩ (keepN hK hk) ⟨fun k => if k = i then w.heap.size else Lo k, fun k => if k = i then w'.heap.size else Hi k, fun k hk' hl => ?_, fun k j hk' hj' hkj hl hl2 => ?_⟩
        · have hmem := hin i him h1
          have hpos := List.length_pos_of_mem hmem
          rw [List.length_erase_of_mem hmem]; omega
        · have hki : k ≠ i := by
            rintro rfl
            rw [getD_set_self (by omega)] at hl; cases hl
          rw [getD_set_ne true (Ne.symm hki)] at hl
          exact (List.mem_erase_of_ne hki).2 (hin k hk' hl)
        · by_cases e : k = i
          · subst e
            rw [hget, if_pos rfl]
            simp only [if_pos]
            exact ⟨hSu, hK.size, Nat.le_refl _⟩
          · rw [hget, if_neg (hdis k hk' e)]
            simp only [if_neg e]
            obtain ⟨g1, g2, g3⟩ := hA k hk' (by rw [getD_set_ne true (Ne.symm e)] at hl; exact hl)
            exact ⟨hS k _ _ _ _ _ g1 hk, g2, Nat.le_trans g3 hk.size⟩
        · have hlst : ∀ x, x ≠ i → (listed.setIfInBounds i true).getD x true = true → listed.getD x true = true := fun x hx h => by rw [getD_set_ne true (Ne.symm hx)] at h; exact h
          by_cases e : k = i
          · subst e
            have ej : j ≠ k := Ne.symm hkj
            simp only [if_pos, if_neg ej]
            exact .inr (hA j hj' (hlst j ej hl2)).2.2
          · by_cases ej : j = i
            · subst ej
              simp only [if_pos, if_neg e]
              exact .inl (hA k hk' (hlst k e hl)).2.2
            · simp only [if_neg e, if_neg ej]
              exact hP k j hk' hj' hkj (hlst k e hl) (hlst j ej hl2)
      unfold wpOp
      simp only [ho]
      rcases hdoes with ⟨hw, hy⟩ | ⟨hw, h2, h3⟩
      · rw [if_pos hw]
        exact .inl (Oper.wp_of_yields hy fun u w' ⟨h2, h3⟩ => hnext u w' h2 h3)
      · rw [if_neg (by rw [hw]; decide)]
        exact hnext undef w h2 h3
theorem wp_region_tailL {id : Nat} {Q : Exit → Act → World → Prop} {a0 : Act} {w : World} (ds : Nat → Nat) (m : Nat) (hf : P.follows .mixedOrders = true) (hm : decide (m ≤ ops.size) = true) (hO : onlyB ops = true) (hB : headG ops ds m = true) (hT : tailG .any ops m = true) (S : Nat → Nat → Nat → Value → World → Prop) (hS : ∀ i l h v w1 w', S i l h v w1 → Keep NoB w1 w' → S i l h v w') (hsz : fitsD ops ds a0.tmps.size = true)
    (hstep : ∀ i o (a : Act) (w' : World), ops[i]? = some o → i < m → FrameD a0 ds m a → Keep NoB w w' → (∀ e ∈ o.after, Region.binds .any e = true → ∃ l h, S e.on l h (a.tmps.getD (ds e.on) undef) w') → Does P ops o a w' fun u w'' => S i w'.heap.size w''.heap.size u w'' ∧ Keep NoB w' w'')
    (hend : ∀ (a : Act) (w' : World) (L H : Nat → Nat), FrameD a0 ds m a → Keep NoB w w' → (∀ i, i < m → S i (L i) (H i) (a.tmps.getD (ds i) undef) w') → (∀ i, i < m → w.heap.size ≤ L i ∧ H i ≤ w'.heap.size) → (∀ i j, i < m → j < m → i ≠ j → H i ≤ L j ∨ H j ≤ L i) → wpList P ops Q (ops.toList.drop m) a w') : (Code.region id ops true).wp P Q a0 w :=
  have hm := of_decide_eq_true hm
  wp_region_any hf (wpAny_tailL ds m hm hO hB hT S hS w a0 hsz hstep hend _ _ a0 w.drew (by simp) ⟨List.range m, by simp; omega, fun i hi _ => List.mem_range.2 hi⟩ (fun k o hk hl => by
    have := (Array.getElem?_eq_some_iff.1 hk).1
    simp [this] at hl) (fun i _ hi => by simp [hi]) ⟨rfl, rfl, fun _ _ => rfl⟩ (Keep.refl NoB w).drew ⟨fun _ => 0, fun _ => 0, fun i hi hl => by
    have : i < ops.size := by omega
    simp [this] at hl, fun i j hi hj _ hl _ => by
    have : i < ops.size := by omega
    simp [this] at hl⟩)
end
end Go.Proofs.YtgnooffedmeenaaGreatDoor

namespace Go.Proofs.YtgnooffedmeenaaGreatDoor.M.L
open Go.RowKit W

theorem smF_same {w w' : World} {v v' : F.FV} {f : F.Fu} (h : F.FnAt w v f) (hs : F.SmF v) (h' : F.FnAt w' v' f) : F.SmF v' := by
  have e1 := F.sz_len h.nm
  have e2 := F.sz_len h'.nm
  have := h.la; have := h.lb; have := h.ll; have := h.ld
  have := h'.la; have := h'.lb; have := h'.ll; have := h'.ld
  have := hs.sz; have := hs.na; have := hs.nb; have := hs.nl; have := hs.nd
  exact ⟨by omega, by omega, by omega, by omega, by omega⟩
theorem sameF_self (f : F.Fu) : F.sameF f f = true := (F.sameF_iff f f).2 rfl
theorem keep_at5 (W : World) (g : Nat) (u0 u1 u2 u3 u4 : Value) : Keep (fun k => k = g) W (sheetW W g u0 u1 u2 u3 u4) :=
  (((((Keep.refl (fun k => k = g) W).setCell (fun _ => rfl) u0).setCell (fun _ => rfl) u1).setCell (fun _ => rfl) u2).setCell (fun _ => rfl) u3).setCell (fun _ => rfl) u4
theorem keepF_at2 (W : World) (g : Nat) (u v : Value) : Keep (fun k => k = g) W ((W.setCell ⟨g, 0, none⟩ u).setCell ⟨g, 1, none⟩ v) :=
  ((Keep.refl (fun k => k = g) W).setCell (fun _ => rfl) u).setCell (fun _ => rfl) v
theorem keepN_of {w W W' : World} {g : Nat} (h : Keep NoB w W) (hk : Keep (fun k => k = g) W W') (hg : w.heap.size ≤ g) : Keep NoB w W' := h.trans hk (fun k hk hl => by omega)
theorem ownF_keep {W W' : World} {P O : Nat → Prop} {v : F.FV} {f : F.Fu} (h : F.OwnF W P v f) (hk : Keep O W W') (hn : ∀ k, P k → ¬ O k) : F.OwnF W' P v f :=
  ⟨h.nm, h.oa.keep hk hn, h.ob.keep hk hn, h.ol.keep hk hn, h.od.keep hk hn, h.hI⟩
theorem ownF_mono {W : World} {P P' : Nat → Prop} {v : F.FV} {f : F.Fu} (h : F.OwnF W P v f) (hP : ∀ k, P k → k < W.heap.size → P' k) : F.OwnF W P' v f :=
  ⟨h.nm, h.oa.mono hP, h.ob.mono hP, h.ol.mono hP, h.od.mono hP, h.hI⟩
/-- Block k was made between sizes lo and hi. -/
def Btw (lo hi : Nat) : Nat → Prop := fun k => lo ≤ k ∧ k < hi
/-- What the values are that the region of the copies yields. -/
def SPl (av fv : Value) (p : I.Im) (f : F.Fu) (lo hi : Nat) : Nat → Value → World → Prop
  | 0 => fun u _ => u = av
  | 1 => fun u W => ∃ o eo fo, u = I.IV.val o ∧ I.OwnIm W (Btw lo hi) o eo fo ∧ I.imOf eo fo = p
  | 2 => fun u _ => u = fv
  | 3 => fun u W => ∃ o, u = F.FV.val o ∧ F.OwnF W (Btw lo hi) o f
  | 4 => fun u W => ∃ g, u = .pointer (some ⟨g, 0, none⟩) ∧ Btw lo hi g ∧ Blk W g 25 #[.slice none 0 0, .slice none 0 0]
  | 5 => fun u W => ∃ g, u = .pointer (some ⟨g, 0, none⟩) ∧ Btw lo hi g ∧ Blk W g 37 #[.string ⟨#[]⟩, .slice none 0 0, .slice none 0 0, .slice none 0 0, .slice none 0 0]
  | _ => fun _ _ => True
theorem SPl_stable (av fv : Value) (p : I.Im) (f : F.Fu) : ∀ i lo hi u W W', SPl av fv p f lo hi i u W → Keep NoB W W' → SPl av fv p f lo hi i u W'
  | 0, _, _, _, _, _, h, _ | 2, _, _, _, _, _, h, _ => h
  | 1, _, _, _, _, _, ⟨o, eo, fo, e, h1, h2⟩, hk => ⟨o, eo, fo, e, h1.keepN hk, h2⟩
  | 3, _, _, _, _, _, ⟨o, e, h1⟩, hk => ⟨o, e, h1.keepN hk⟩
  | 4, _, _, _, _, _, ⟨g, e, hm, hb⟩, hk => ⟨g, e, hm, hb.keep hk id⟩
  | 5, _, _, _, _, _, ⟨g, e, hm, hb⟩, hk => ⟨g, e, hm, hb.keep hk id⟩
  | _ + 6, _, _, _, _, _, h, _ => h
/-- Two copies, and the boxes that they were put into. -/
theorem put_both {w W : World} {f : F.Fu} {o : I.IV} {eo : List I.SE} {fo : List I.FE} {g : F.FV} {g4 g5 l1 h1 l3 h3 l4 h4 l5 h5 : Nat} {ci cf : Array Value} (hk : Keep NoB w W) (ho : I.OwnIm W (Btw l1 h1) o eo fo) (hg : F.OwnF W (Btw l3 h3) g f)
    (m4 : Btw l4 h4 g4) (m5 : Btw l5 h5 g5) (b4 : Blk W g4 25 ci) (b5 : Blk W g5 37 cf) (hi : ci.size = 2) (hf : cf.size = 5) (q4 : w.heap.size ≤ l4) (q5 : w.heap.size ≤ l5) (a14 : h1 ≤ l4 ∨ h4 ≤ l1) (a15 : h1 ≤ l5 ∨ h5 ≤ l1) (a34 : h3 ≤ l4 ∨ h4 ≤ l3) (a35 : h3 ≤ l5 ∨ h5 ≤ l3) (a45 : h4 ≤ l5 ∨ h5 ≤ l4)
    {W1 W2 : World} (e1 : (W.setCell ⟨g4, 0, none⟩ (.slice o.X o.nx o.cx)).setCell ⟨g4, 1, none⟩ (.slice o.Y o.ny o.cy) = W1)
    (e2 : sheetW W1 g5 (.string g.S) (.slice g.A g.na g.ca) (.slice g.B g.nb g.cb) (.slice g.L g.nl g.cl) (.slice g.D g.nd g.cd) = W2) :
    (Blk W1 g5 37 cf) ∧ Keep NoB w W2 ∧ I.ImAt W2 o eo fo ∧ F.FnAt W2 g f ∧ Blk W2 g4 25 o.cells ∧ Blk W2 g5 37 g.cells := by
  unfold Btw at *
  have k1 : Keep (fun k => k = g4) W W1 := by rw [← e1]; exact keepF_at2 _ _ _ _
  have k2 : Keep (fun k => k = g5) W1 W2 := by rw [← e2]; exact keep_at5 _ _ _ _ _ _ _
  have n45 : g4 ≠ g5 := by omega
  have b5' : Blk W1 g5 37 cf := b5.keep k1 (fun e => n45 e.symm)
  have b4' : Blk W1 g4 25 o.cells := by
    have h := (b4.put 0 (.slice o.X o.nx o.cx)).put 1 (.slice o.Y o.ny o.cy)
    rw [e1] at h
    have e : (ci.setIfInBounds 0 (.slice o.X o.nx o.cx)).setIfInBounds 1 (.slice o.Y o.ny o.cy) = o.cells := by
      obtain ⟨l⟩ := ci
      obtain ⟨x, y, rfl⟩ : ∃ x y, l = [x, y] := by
        rcases l with _ | ⟨x, _ | ⟨y, _ | _⟩⟩ <;> simp at hi
        exact ⟨x, y, rfl⟩
      rfl
    rw [e] at h
    exact h
  refine ⟨b5', keepN_of (keepN_of hk k1 (by omega)) k2 (by omega), ?_, ?_, b4'.keep k2 n45, ?_⟩
  · exact ((ho.keep k1 (fun k hk e => by omega)).keep k2 (fun k hk e => by omega)).im
  · exact (ownF_keep (ownF_keep hg k1 (fun k hk e => by omega)) k2 (fun k hk e => by omega)).fn
  · have h := ((((b5'.put 0 (.string g.S)).put 1 (.slice g.A g.na g.ca)).put 2 (.slice g.B g.nb g.cb)).put 3 (.slice g.L g.nl g.cl)).put 4 (.slice g.D g.nd g.cd)
    unfold sheetW at e2
    rw [e2] at h
    have e : ((((cf.setIfInBounds 0 (.string g.S)).setIfInBounds 1 (.slice g.A g.na g.ca)).setIfInBounds 2 (.slice g.B g.nb g.cb)).setIfInBounds 3 (.slice g.L g.nl g.cl)).setIfInBounds 4 (.slice g.D g.nd g.cd) = g.cells := by
      obtain ⟨l⟩ := cf
      obtain ⟨x, y, z, s, t, rfl⟩ : ∃ x y z s t, l = [x, y, z, s, t] := by
        rcases l with _ | ⟨x, _ | ⟨y, _ | ⟨z, _ | ⟨s, _ | ⟨t, _ | _⟩⟩⟩⟩⟩ <;> simp at hf
        exact ⟨x, y, z, s, t, rfl⟩
      rfl
    rw [e] at h
    exact h
/-- A list of one's own, as it is written over. -/
structure OvI (w W : World) (B : Option Addr) (n : Nat) : Prop where
  kp : Keep NoB w W
  sp : 0 < n → ∃ g cs, B = some ⟨g, 0, none⟩ ∧ w.heap.size ≤ g ∧ Blk W g 3 cs ∧ n ≤ cs.size
theorem OvI.put {w W : World} {g n k : Nat} (h : OvI w W (some ⟨g, 0, none⟩) n) (hk : k < n) (u : Value) : OvI w (W.setCell ⟨g, k, none⟩ u) (some ⟨g, 0, none⟩) n := by
  obtain ⟨g', cs, e, hg, hb, hn⟩ := h.sp (by omega)
  injection e with e
  injection e with e
  subst e
  exact ⟨h.kp.setCell (p := ⟨g, k, none⟩) (fun hl => absurd hl (by show ¬ g < w.heap.size; omega)) u, fun _ => ⟨g, _, rfl, hg, hb.put k u, by simpa using hn⟩⟩
theorem ovI_own {w W : World} {B : Option Addr} {n d : Nat} {l : List Int} (hk : Keep NoB w W) (h : Own W 3 1 (Fresh w) (.slice B n d) n (ivs l)) : OvI w W B n := by
  refine ⟨hk, fun h0 => ?_⟩
  rcases h.1.2 with ⟨e, _⟩ | ⟨g, cap, cur, e, hb, hh, r⟩
  · injection e with _ e _
    omega
  · injection e with e1 e2 e3
    subst e1 e3
    obtain ⟨hc, hm, hs, ht⟩ := r
    exact ⟨g, _, rfl, h.2 g rfl, hh, by rw [hs]; omega⟩

end Go.Proofs.YtgnooffedmeenaaGreatDoor.M.L

namespace Go.Proofs.YtgnooffedmeenaaGreatDoor.M.L
open Go.RowKit W

/-- What the values are that the law's last region yields. -/
def SPz (gv fv : Value) (f : F.Fu) : Nat → Value → World → Prop
  | 2 => fun u _ => u = gv
  | 4 => fun u _ => u = fv
  | 3 | 5 => fun u W => ∃ B d, u = .slice B (tgF f).length d ∧ Rd W B (ivs (tgF f))
  | _ => fun u _ => u = .bool true
theorem SPz_stable (gv fv : Value) (f : F.Fu) (i : Nat) (u : Value) (W W' : World) (h : SPz gv fv f i u W) (hk : Keep NoB W W') : SPz gv fv f i u W' := by
  unfold SPz at h ⊢
  split at h
  · exact h
  · exact h
  · obtain ⟨B, d, e, h2⟩ := h; exact ⟨B, d, e, h2.keepN hk⟩
  · obtain ⟨B, d, e, h2⟩ := h; exact ⟨B, d, e, h2.keepN hk⟩
  · exact h

set_option maxRecDepth 100000 in
set_option maxHeartbeats 16000000 in
theorem places_walk (v : I.IV) (es : List I.SE) (fs : List I.FE) (u : F.FV) (f : F.Fu) (fn pl line : Int) (w : World) (h : I.ImAt w v es fs) (hl : I.LgI v es fs) (h2 : F.FnAt w u f) :
    Calls Tryz.prog 4 #[v.val, u.val, .int .i64 fn, .int .i64 pl, .int .i64 line] w fun e w' => e = .returned (.bool true) ∧ Keep NoB w w' := by
  have bx := (Blk.new w 25 v.cells).alloc (.cells u.cells 37)
  have bf := Blk.new (w.alloc (.cells v.cells 25)) 37 u.cells
  rw [World.size_alloc] at bf
  have gK := ((Keep.refl NoB w).alloc (.cells v.cells 25)).alloc (.cells u.cells 37)
  have HIV := Lib.hid (fun W (hk : Keep NoB w W) => (h.keepN hk : I.ImAt W v es fs))
  have HFV := Lib.hid (fun W (hk : Keep NoB w W) => (h2.keepN hk : F.FnAt W u f))
  have HG := Lib.hid (fun W (hk : Keep NoB w W) => I.great_any v es fs W (h.keepN hk) hl)
  have HCn := Lib.hid (fun W (hk : Keep NoB w W) (hs : I.SmI es fs) => count_any v es fs W (h.keepN hk) hs)
  clear h hl h2
  obtain ⟨X, nx, cx, Y, ny, cy⟩ := v
  obtain ⟨fS, fA, fna, fca, fB, fnb, fcb, fL, fnl, fcl, fD, fnd, fcd⟩ := u
  dsimp only [I.IV.val, I.IV.cells, F.FV.val, F.FV.cells] at *
  have HB : Hid (∀ W, Keep NoB ((w.alloc (.cells #[.slice X nx cx, .slice Y ny cy] 25)).alloc (.cells #[.string fS, .slice fA fna fca, .slice fB fnb fcb, .slice fL fnl fcl, .slice fD fnd fcd] 37)) W → (W.cell? ⟨w.heap.size, 0, none⟩ = some (.slice X nx cx) ∧ W.cell? ⟨w.heap.size, 1, none⟩ = some (.slice Y ny cy)) ∧ W.cell? ⟨w.heap.size + 1, 0, none⟩ = some (.string fS) ∧ W.cell? ⟨w.heap.size + 1, 1, none⟩ = some (.slice fA fna fca) ∧ W.cell? ⟨w.heap.size + 1, 2, none⟩ = some (.slice fB fnb fcb) ∧ W.cell? ⟨w.heap.size + 1, 3, none⟩ = some (.slice fL fnl fcl) ∧ W.cell? ⟨w.heap.size + 1, 4, none⟩ = some (.slice fD fnd fcd)) :=
    fun W hk => ⟨⟨(bx.keep hk id).cell 0, (bx.keep hk id).cell 1⟩, (bf.keep hk id).cell 0, (bf.keep hk id).cell 1, (bf.keep hk id).cell 2, (bf.keep hk id).cell 3, (bf.keep hk id).cell 4⟩
  clear bx bf
  obtain ⟨⟨p0, p1⟩, r0, r1, r2, r3, r4⟩ := HB.out _ (Keep.refl NoB _)
  go_enter Tryz.func4, Tryz.ntmps4
  go_wp2_with fail
  have b0 := Keep.refl NoB ((w.alloc (.cells #[.slice X nx cx, .slice Y ny cy] 25)).alloc (.cells #[.string fS, .slice fA fna fca, .slice fB fnb fcb, .slice fL fnl fcl, .slice fD fnd fcd] 37))
  generalize (w.alloc (.cells #[.slice X nx cx, .slice Y ny cy] 25)).alloc (.cells #[.string fS, .slice fA fna fca, .slice fB fnb fcb, .slice fL fnl fcl, .slice fD fnd fcd] 37) = wE at *
  generalize w.heap.size = gp at *
  refine (HG.out _ gK).mono ?_
  rintro e w2 ⟨hg, k2⟩
  have K2 := keepN b0 k2
  clear k2 b0 HG p0 p1 r0 r1 r2 r3 r4
  obtain ⟨⟨p0, p1⟩, r0, r1, r2, r3, r4⟩ := HB.out _ K2
  rcases hg with ⟨rfl, hg1, _⟩ | rfl
  rotate_left
  · have HK := Lib.hid (keepN gK K2)
    clear HIV HFV HCn HB gK K2
    go_wp2
    go_ret
    exact ⟨rfl, HK.out⟩
  have HSM := Lib.hid hg1
  clear hg1
  go_wp2_with fail
  refine (HCn.out _ (keepN gK K2) HSM.out).mono ?_
  rintro e w3 ⟨rfl, k3⟩
  have K3 := keepN K2 k3
  clear k3 K2 p0 p1 r0 r1 r2 r3 r4 HCn
  obtain ⟨⟨p0, p1⟩, r0, r1, r2, r3, r4⟩ := HB.out _ K3
  generalize cntF fs = cn at *
  by_cases hcn : cn ≤ 500
  rotate_left
  · have hq : decide ((500 : Int) < (cn : Int)) = true := by rw [decide_eq_true_iff]; omega
    have HK := Lib.hid (keepN gK K3)
    clear HIV HFV HB gK K3
    go_wp2
    go_ret
    exact ⟨rfl, HK.out⟩
  have hq : decide ((500 : Int) < (cn : Int)) = false := by rw [decide_eq_false_iff_not]; omega
  clear hcn
  by_cases hsf : F.SmF ⟨fS, fA, fna, fca, fB, fnb, fcb, fL, fnl, fcl, fD, fnd, fcd⟩
  rotate_left
  · have HGF := Lib.hid (fun w => F.great_yes ⟨fS, fA, fna, fca, fB, fnb, fcb, fL, fnl, fcl, fD, fnd, fcd⟩ w hsf)
    clear hsf
    dsimp only [F.FV.val, F.FV.cells] at HGF
    go_wp2_with fail
    refine (HGF.out _).mono ?_
    rintro e w4 ⟨rfl, k4⟩
    have HK := Lib.hid (keepN gK (keepN K3 k4))
    clear HIV HFV HB gK K3 k4 HGF p0 p1 r0 r1 r2 r3 r4
    go_wp2
    go_ret
    exact ⟨rfl, HK.out⟩
  have HGF := Lib.hid (fun w => F.great_no ⟨fS, fA, fna, fca, fB, fnb, fcb, fL, fnl, fcl, fD, fnd, fcd⟩ w hsf)
  have HSF := Lib.hid hsf
  clear hsf
  dsimp only [F.FV.val, F.FV.cells] at HGF
  go_wp2_with fail
  refine (HGF.out _).mono ?_
  rintro e w4 ⟨rfl, k4⟩
  have K4 := keepN K3 k4
  clear k4 K3 p0 p1 r0 r1 r2 r3 r4 HGF hq
  obtain ⟨⟨p0, p1⟩, r0, r1, r2, r3, r4⟩ := HB.out _ K4
  go_wp2_with fail
  have gK4 := keepN gK K4
  refine wp_region_tailL (fun i => [39, 40, 41, 42, 11, 12].getD i 0) 6 (by kernel_rfl) (by kernel_rfl) (by kernel_rfl) (by kernel_rfl) (by kernel_rfl) (fun i lo hi => SPl (.agg #[.slice X nx cx, .slice Y ny cy]) (.agg #[.string fS, .slice fA fna fca, .slice fB fnb fcb, .slice fL fnl fcl, .slice fD fnd fcd]) (I.imOf es fs) f lo hi i) (fun i lo hi u x y h hk => SPl_stable _ _ _ _ i lo hi u x y h hk) rfl ?step ?fin
  case step =>
    intro i o a w' hoo hi hF hK hA
    by_cases h0 : i = 0
    · subst h0
      simp only [List.getElem?_toArray, List.getElem?_cons_zero, Option.some.injEq] at hoo
      subst hoo
      have e5 : a.tmps.getD 5 undef = .pointer (some ⟨gp, 0, none⟩) := hF.2.2 5 (by decide)
      have c0 := Keep.cell hK p0 id
      have c1 := Keep.cell hK p1 id
      refine Does.plain rfl ?_
      unfold yieldsK
      go_simp
      exact ⟨rfl, Keep.refl _ _⟩
    by_cases h1 : i = 1
    · subst h1
      simp only [List.getElem?_toArray, List.getElem?_cons_zero, List.getElem?_cons_succ, Option.some.injEq] at hoo
      subst hoo
      have e39 : a.tmps.getD 39 undef = (.agg #[.slice X nx cx, .slice Y ny cy] : Value) := (hA ⟨0, .data⟩ (by simp) rfl).elim fun _ h => h.elim fun _ h => h
      refine Does.plain rfl ?_
      unfold yieldsK
      go_simp
      refine (I.rcopyI_any ⟨X, nx, cx, Y, ny, cy⟩ es fs w' (HIV.out _ (keepN gK4 hK)) HSM.out).mono ?_
      rintro e w9 ⟨o, eo, fo, rfl, hO, hOe, h9⟩
      exact ⟨_, rfl, ⟨o, eo, fo, rfl, hO.mono (fun k hk hk2 => ⟨hk, hk2⟩), hOe⟩, h9⟩
    by_cases h2 : i = 2
    · subst h2
      simp only [List.getElem?_toArray, List.getElem?_cons_zero, List.getElem?_cons_succ, Option.some.injEq] at hoo
      subst hoo
      have e6 : a.tmps.getD 6 undef = .pointer (some ⟨gp + 1, 0, none⟩) := hF.2.2 6 (by decide)
      have c0 := Keep.cell hK r0 id
      have c1 := Keep.cell hK r1 id
      have c2 := Keep.cell hK r2 id
      have c3 := Keep.cell hK r3 id
      have c4 := Keep.cell hK r4 id
      refine Does.plain rfl ?_
      unfold yieldsK
      go_simp
      exact ⟨rfl, Keep.refl _ _⟩
    by_cases h3 : i = 3
    · subst h3
      simp only [List.getElem?_toArray, List.getElem?_cons_zero, List.getElem?_cons_succ, Option.some.injEq] at hoo
      subst hoo
      have e41 : a.tmps.getD 41 undef = (.agg #[.string fS, .slice fA fna fca, .slice fB fnb fcb, .slice fL fnl fcl, .slice fD fnd fcd] : Value) := (hA ⟨2, .data⟩ (by simp) rfl).elim fun _ h => h.elim fun _ h => h
      refine Does.plain rfl ?_
      unfold yieldsK
      go_simp
      refine (F.rcopyF_any ⟨fS, fA, fna, fca, fB, fnb, fcb, fL, fnl, fcl, fD, fnd, fcd⟩ f w' (HFV.out _ (keepN gK4 hK)) HSF.out).mono ?_
      rintro e w9 ⟨o, rfl, hO, h9⟩
      exact ⟨_, rfl, ⟨o, rfl, ownF_mono hO (fun k hk hk2 => ⟨hk, hk2⟩)⟩, h9⟩
    by_cases h4 : i = 4
    · subst h4
      simp only [List.getElem?_toArray, List.getElem?_cons_zero, List.getElem?_cons_succ, Option.some.injEq] at hoo
      subst hoo
      refine Does.plain rfl ?_
      unfold yieldsK
      go_simp
      exact ⟨⟨w'.heap.size, rfl, ⟨Nat.le_refl _, by simp⟩, Blk.new _ _ _⟩, (Keep.refl _ _).alloc _⟩
    by_cases h5 : i = 5
    · subst h5
      simp only [List.getElem?_toArray, List.getElem?_cons_zero, List.getElem?_cons_succ, Option.some.injEq] at hoo
      subst hoo
      refine Does.plain rfl ?_
      unfold yieldsK
      go_simp
      exact ⟨⟨w'.heap.size, rfl, ⟨Nat.le_refl _, by simp⟩, Blk.new _ _ _⟩, (Keep.refl _ _).alloc _⟩
    omega
  case fin =>
    intro a w' Lo Hi hF gK1 hA hLo hAp
    obtain ⟨o, eo, fo, e40, hO, hOe⟩ := hA 1 (by decide)
    obtain ⟨g, e42, hG⟩ := hA 3 (by decide)
    obtain ⟨g4, e11, m4, b4⟩ := hA 4 (by decide)
    obtain ⟨g5, e12, m5, b5⟩ := hA 5 (by decide)
    obtain ⟨oX, onx, ocx, oY, ony, ocy⟩ := o
    obtain ⟨gS, gA, gna, gca, gB, gnb, gcb, gL, gnl, gcl, gD, gnd, gcd⟩ := g
    dsimp only [I.IV.val, I.IV.cells, F.FV.val, F.FV.cells] at *
    have e40 : a.tmps.getD 40 undef = .agg #[.slice oX onx ocx, .slice oY ony ocy] := e40
    have e42 : a.tmps.getD 42 undef = .agg #[.string gS, .slice gA gna gca, .slice gB gnb gcb, .slice gL gnl gcl, .slice gD gnd gcd] := e42
    have e11 : a.tmps.getD 11 undef = .pointer (some ⟨g4, 0, none⟩) := e11
    have e12 : a.tmps.getD 12 undef = .pointer (some ⟨g5, 0, none⟩) := e12
    have ha := frameD_list (l := [39, 40, 41, 42, 11, 12]) rfl hF
    rw [ha]
    simp only [List.map_cons, List.map_nil, e40, e42, e11, e12]
    generalize a.tmps.getD 39 undef = u0
    generalize a.tmps.getD 41 undef = u2
    simp only [fillD, List.setIfInBounds_toArray, List.set_cons_zero, List.set_cons_succ]
    obtain ⟨W1, hW1⟩ : ∃ W1, (w'.setCell ⟨g4, 0, none⟩ (.slice oX onx ocx)).setCell ⟨g4, 1, none⟩ (.slice oY ony ocy) = W1 := ⟨_, rfl⟩
    obtain ⟨W2, hW2⟩ : ∃ W2, sheetW W1 g5 (.string gS) (.slice gA gna gca) (.slice gB gnb gcb) (.slice gL gnl gcl) (.slice gD gnd gcd) = W2 := ⟨_, rfl⟩
    obtain ⟨b51, K2, hI, hF2, b42, b52⟩ := put_both (o := ⟨oX, onx, ocx, oY, ony, ocy⟩) (g := ⟨gS, gA, gna, gca, gB, gnb, gcb, gL, gnl, gcl, gD, gnd, gcd⟩) (keepN K4 gK1) hO hG m4 m5 b4 b5 rfl rfl (Nat.le_trans K4.size (hLo 4 (by decide)).1) (Nat.le_trans K4.size (hLo 5 (by decide)).1) (hAp 1 4 (by decide) (by decide) (by decide)) (hAp 1 5 (by decide) (by decide) (by decide)) (hAp 3 4 (by decide) (by decide) (by decide)) (hAp 3 5 (by decide) (by decide) (by decide)) (hAp 4 5 (by decide) (by decide) (by decide)) hW1 hW2
    unfold sheetW at hW2
    have t0 := b4.cell 0
    have t1 := b4.cell 1
    have tf := fun i => b4.frozen i
    have tl := b4.lt
    have s0 := b51.cell 0
    have s1 := b51.cell 1
    have s2 := b51.cell 2
    have s3 := b51.cell 3
    have s4 := b51.cell 4
    have sf := fun i => b51.frozen i
    have sl := b51.lt
    simp only [List.getElem?_toArray, List.getElem?_cons_zero, List.getElem?_cons_succ] at t0 t1 s0 s1 s2 s3 s4
    have HQ : Hid (∀ W, Keep NoB W2 W → (W.cell? ⟨g4, 0, none⟩ = some (.slice oX onx ocx) ∧ W.cell? ⟨g4, 1, none⟩ = some (.slice oY ony ocy)) ∧ W.cell? ⟨g5, 0, none⟩ = some (.string gS) ∧ W.cell? ⟨g5, 1, none⟩ = some (.slice gA gna gca) ∧ W.cell? ⟨g5, 2, none⟩ = some (.slice gB gnb gcb) ∧ W.cell? ⟨g5, 3, none⟩ = some (.slice gL gnl gcl) ∧ W.cell? ⟨g5, 4, none⟩ = some (.slice gD gnd gcd)) :=
      fun W hk => ⟨⟨(b42.keep hk id).cell 0, (b42.keep hk id).cell 1⟩, (b52.keep hk id).cell 0, (b52.keep hk id).cell 1, (b52.keep hk id).cell 2, (b52.keep hk id).cell 3, (b52.keep hk id).cell 4⟩
    have Kw := keepN gK K2
    have hSO := I.smI_same (HIV.out _ Kw) HSM.out hI hOe
    have hSG := smF_same (HFV.out _ Kw) HSF.out hF2
    have HL1 := Lib.hid (fun W (hk : Keep NoB W2 W) => by have h := line_any ⟨oX, onx, ocx, oY, ony, ocy⟩ eo fo fn pl W (hI.keepN hk) (I.lg_of_sm hI hSO); rw [hOe] at h; exact h)
    have HL2 := Lib.hid (fun W (hk : Keep NoB W2 W) => rnumber_any ⟨X, nx, cx, Y, ny, cy⟩ es fs fn pl W (HIV.out _ (keepN Kw hk)) HSM.out)
    have HP1 := Lib.hid (fun W (hk : Keep NoB W2 W) => by have h := place_any ⟨oX, onx, ocx, oY, ony, ocy⟩ eo fo line W (hI.keepN hk) (I.lg_of_sm hI hSO); rw [hOe] at h; exact h)
    have HP2 := Lib.hid (fun W (hk : Keep NoB W2 W) => rplace_any ⟨X, nx, cx, Y, ny, cy⟩ es fs line W (HIV.out _ (keepN Kw hk)) HSM.out)
    have HT1 := Lib.hid (fun W (hk : Keep NoB W2 W) => targetsApi_any ⟨gS, gA, gna, gca, gB, gnb, gcb, gL, gnl, gcl, gD, gnd, gcd⟩ f W (hF2.keepN hk) (F.SmF.lg hSG))
    have HT2 := Lib.hid (fun W (hk : Keep NoB W2 W) => rtargets_any ⟨fS, fA, fna, fca, fB, fnb, fcb, fL, fnl, fcl, fD, fnd, fcd⟩ f W (HFV.out _ (keepN Kw hk)) HSF.out)
    have HS1 := Lib.hid (fun W (hk : Keep NoB W2 W) => by have h := I.rsame_any ⟨oX, onx, ocx, oY, ony, ocy⟩ ⟨X, nx, cx, Y, ny, cy⟩ eo es fo fs W (hI.keepN hk) (HIV.out _ (keepN Kw hk)) hSO HSM.out; rw [hOe, I.same_self] at h; exact h)
    have HS2 := Lib.hid (fun W (hk : Keep NoB W2 W) => by have h := F.rsameF_any ⟨gS, gA, gna, gca, gB, gnb, gcb, gL, gnl, gcl, gD, gnd, gcd⟩ f ⟨fS, fA, fna, fca, fB, fnb, fcb, fL, fnl, fcl, fD, fnd, fcd⟩ f W (hF2.keepN hk) (HFV.out _ (keepN Kw hk)) hSG HSF.out; rw [sameF_self] at h; exact h)
    generalize lineN (cutP (I.imOf es fs)) fn pl = aN at HL1 HL2
    generalize lineE (cutP (I.imOf es fs)) fn pl = aE at HL1 HL2
    generalize placeR (cutP (I.imOf es fs)) line = aP at HP1 HP2
    obtain ⟨a1, a2, a3⟩ := aP
    dsimp only [I.IV.val, I.IV.cells, F.FV.val, F.FV.cells] at HL1 HL2 HP1 HP2 HT1 HT2 HS1 HS2
    have hNL : (tgF f).length ≤ 4611686018427387903 := by
      have h1 := HSF.out.nd
      have h2 := (HFV.out _ Kw).ld
      have h3 := tgs_len f.bd
      unfold tgF
      split
      · rw [List.length_map]; dsimp only at h1 h2; omega
      · exact Nat.zero_le _
    have HKw := Lib.hid Kw
    clear hA hF ha e40 e42 e11 e12 b4 b5 b51 b42 b52 hO hG m4 m5 hLo hAp hI hF2 hSO hSG hOe HIV HFV HSM HSF gK K4 gK4 gK1 Kw p0 p1 r0 r1 r2 r3 r4
    have KQ := Keep.refl NoB W2
    simp only [List.drop_succ_cons, List.drop_zero]
    obtain ⟨⟨q0, q1⟩, v0, v1, v2, v3, v4⟩ := HQ.out _ KQ
    go_wp2_with fail
    refine (HL1.out _ KQ).mono ?_
    rintro e w21 ⟨rfl, k21⟩
    replace KQ := keepN KQ k21
    clear q0 q1 v0 v1 v2 v3 v4
    obtain ⟨⟨p0, p1⟩, r0, r1, r2, r3, r4⟩ := HB.out _ (keepN K2 KQ)
    go_wp2_with fail
    refine (HL2.out _ KQ).mono ?_
    rintro e w22 ⟨rfl, k22⟩
    replace KQ := keepN KQ k22
    clear p0 p1 r0 r1 r2 r3 r4
    obtain ⟨⟨q0, q1⟩, v0, v1, v2, v3, v4⟩ := HQ.out _ KQ
    go_wp2_with fail
    refine (HP1.out _ KQ).mono ?_
    rintro e w23 ⟨rfl, k23⟩
    replace KQ := keepN KQ k23
    clear q0 q1 v0 v1 v2 v3 v4
    obtain ⟨⟨p0, p1⟩, r0, r1, r2, r3, r4⟩ := HB.out _ (keepN K2 KQ)
    go_wp2_with fail
    refine (HP2.out _ KQ).mono ?_
    rintro e w24 ⟨rfl, k24⟩
    replace KQ := keepN KQ k24
    clear p0 p1 r0 r1 r2 r3 r4
    clear HL1 HL2 HP1 HP2
    have hKT0 := KQ
    obtain ⟨⟨q0, q1⟩, v0, v1, v2, v3, v4⟩ := HQ.out _ KQ
    go_wp2_with fail
    refine (HT1.out _ KQ).mono ?_
    rintro e w25 ⟨B, d, rfl, hB, k25⟩
    replace KQ := keepN KQ k25
    clear q0 q1 v0 v1 v2 v3 v4
    have hKT := k25
    have KT : Keep NoB W2 w24 := hKT0
    obtain ⟨⟨p0, p1⟩, r0, r1, r2, r3, r4⟩ := HB.out _ (keepN K2 KQ)
    go_wp2_with fail
    refine (HT2.out _ KQ).mono ?_
    rintro e w26 ⟨B2, d2, rfl, hB2, k26⟩
    replace KQ := keepN KQ k26
    clear p0 p1 r0 r1 r2 r3 r4
    replace hB := hB.keepN k26
    replace hKT := keepN hKT k26
    have HIn := Lib.hid (ints_any B B2 (tgF f) (tgF f) (tgF f).length (tgF f).length d d2 _ (F.own_rdS hB) (F.own_rdS hB2) rfl rfl (by omega) (by omega) true (Lib.hid (by simp)))
    clear hB2
    go_wp2_with fail
    refine (HIn.out).mono ?_
    rintro e w27 ⟨rfl, k27⟩
    replace KQ := keepN KQ k27
    clear HIn
    replace hB := hB.keepN k27
    replace hKT := keepN hKT k27
    obtain ⟨⟨q0, q1⟩, v0, v1, v2, v3, v4⟩ := HQ.out _ KQ
    obtain ⟨⟨p0, p1⟩, r0, r1, r2, r3, r4⟩ := HB.out _ (keepN K2 KQ)
    go_wp2_with fail
    refine (HS1.out _ KQ).mono ?_
    rintro e w28 ⟨rfl, k28⟩
    replace KQ := keepN KQ k28
    clear q0 q1 v0 v1 v2 v3 v4 p0 p1 r0 r1 r2 r3 r4
    replace hB := hB.keepN k28
    replace hKT := keepN hKT k28
    obtain ⟨⟨q0, q1⟩, v0, v1, v2, v3, v4⟩ := HQ.out _ KQ
    obtain ⟨⟨p0, p1⟩, r0, r1, r2, r3, r4⟩ := HB.out _ (keepN K2 KQ)
    go_wp2_with fail
    refine (HS2.out _ KQ).mono ?_
    rintro e w29 ⟨rfl, k29⟩
    replace KQ := keepN KQ k29
    clear q0 q1 v0 v1 v2 v3 v4 p0 p1 r0 r1 r2 r3 r4
    replace hB := hB.keepN k29
    replace hKT := keepN hKT k29
    have HOv := Lib.hid (ovI_own hKT hB)
    clear hB hKT HS1 HS2 k21 k22 k23 k24 k25 k26 k27 k28 k29
    have HIZ := Lib.hid (fun (BA BB : Option Addr) (da db : Nat) W (ha : Rd W BA (ivs (tgF f))) (hb : Rd W BB (ivs (tgF f))) => ints_any BA BB (tgF f) (tgF f) (tgF f).length (tgF f).length da db W ha hb rfl rfl (by omega) (by omega) true (Lib.hid (by simp)))
    have hN0 := hNL
    generalize hLn : (tgF f).length = n at *
    go_wp2_with fail
    go_loopw [114] (fun i wr => ∃ k : Nat, k ≤ n ∧ i = .int .i64 (k : Int) ∧ Hid (OvI w24 wr B n)) (fun i _ => n - (intOf i).toNat)
    case atStart => exact ⟨0, Nat.zero_le _, rfl, HOv⟩
    case round =>
      obtain ⟨k, hk, rfl, hO⟩ := hrel
      by_cases hlt : k < n
      · obtain ⟨g, cs, rfl, hg, hb, hs⟩ := hO.out.sp (by omega)
        have cx : wr.cell? ⟨g, k, none⟩ = some cs[k] := by rw [hb.cell k, Array.getElem?_eq_getElem (by omega)]
        generalize cs[k] = cv at cx
        have hf := fun i => hb.frozen i
        have hl := hb.lt
        have HA := Lib.hid (fun u => hO.out.put hlt u)
        clear hb hs hO HOv hg
        go_wp2
        go_roundw
        case rel => exact ⟨k + 1, by omega, by go_num, HA.out _⟩
        case measure => simp [intOf]; omega
      · obtain rfl : k = n := by omega
        have KZ := keepN KT hO.out.kp
        obtain ⟨⟨z0, z1⟩, v0, v1, v2, v3, v4⟩ := HQ.out _ KZ
        obtain ⟨⟨p0, p1⟩, r0, r1, r2, r3, r4⟩ := HB.out _ (keepN K2 KZ)
        clear hO HOv hlt hk
        go_wp2_with fail
        refine wp_region_props6 (fun i => [121, 122, 123, 124, 125, 126, 127, 128, 10].getD i 0) 9999 (NoB) (fun _ => false) (by kernel_rfl) (by kernel_rfl) (by kernel_rfl) (SPz (.agg #[.string gS, .slice gA gna gca, .slice gB gnb gcb, .slice gL gnl gcl, .slice gD gnd gcd]) (.agg #[.string fS, .slice fA fna fca, .slice fB fnb fcb, .slice fL fnl fcl, .slice fD fnd fcd]) f) (fun i u x y _ _ _ h hk => SPz_stable _ _ _ i u x y h (hk.mono (fun _ hf _ => hf))) (fun i u x y _ h hk => SPz_stable _ _ _ i u x y h hk) rfl ?step ?spec ?fin
        case step =>
          intro i o a w' hoo hic hF hK hA
          have hi : i < 9 := by simpa using (Array.getElem?_eq_some_iff.1 hoo).1
          by_cases h0 : i = 0
          · subst h0
            simp only [List.getElem?_toArray, List.getElem?_cons_zero, Option.some.injEq] at hoo
            subst hoo
            have e24 : a.tmps.getD 24 undef = .bool true := hF.2.2 24 (by decide)
            refine Does.plain rfl ?_
            unfold yieldsK
            go_simp
            exact ⟨rfl, Keep.refl _ _⟩
          by_cases h1 : i = 1
          · subst h1
            simp only [List.getElem?_toArray, List.getElem?_cons_zero, List.getElem?_cons_succ, Option.some.injEq] at hoo
            subst hoo
            have e121 : a.tmps.getD 121 undef = .bool true := hA ⟨0, .data⟩ (by simp) rfl
            refine Does.plain rfl ?_
            unfold yieldsK
            go_simp
            exact ⟨rfl, Keep.refl _ _⟩
          by_cases h2 : i = 2
          · subst h2
            simp only [List.getElem?_toArray, List.getElem?_cons_zero, List.getElem?_cons_succ, Option.some.injEq] at hoo
            subst hoo
            have e12 : a.tmps.getD 12 undef = .pointer (some ⟨g5, 0, none⟩) := hF.2.2 12 (by decide)
            have c0 := Keep.cell hK v0 id
            have c1 := Keep.cell hK v1 id
            have c2 := Keep.cell hK v2 id
            have c3 := Keep.cell hK v3 id
            have c4 := Keep.cell hK v4 id
            refine Does.yes (j := 1) (d := 122) (want := true) rfl rfl (hA ⟨1, .guard⟩ (by simp) rfl) ?_
            unfold yieldsK
            go_simp
            exact ⟨rfl, Keep.refl _ _⟩
          by_cases h3 : i = 3
          · subst h3
            simp only [List.getElem?_toArray, List.getElem?_cons_zero, List.getElem?_cons_succ, Option.some.injEq] at hoo
            subst hoo
            have e123 : a.tmps.getD 123 undef = (.agg #[.string gS, .slice gA gna gca, .slice gB gnb gcb, .slice gL gnl gcl, .slice gD gnd gcd] : Value) := hA ⟨2, .data⟩ (by simp) rfl
            refine Does.yes (j := 1) (d := 122) (want := true) rfl rfl (hA ⟨1, .guard⟩ (by simp) rfl) ?_
            unfold yieldsK
            go_simp
            refine (HT1.out w' (keepN KZ hK)).mono ?_
            rintro e w9 ⟨B7, d7, rfl, hB7, h9⟩
            exact ⟨_, rfl, ⟨B7, d7, by rw [hLn], F.own_rdS hB7⟩, h9⟩
          by_cases h4 : i = 4
          · subst h4
            simp only [List.getElem?_toArray, List.getElem?_cons_zero, List.getElem?_cons_succ, Option.some.injEq] at hoo
            subst hoo
            have e6 : a.tmps.getD 6 undef = .pointer (some ⟨gp + 1, 0, none⟩) := hF.2.2 6 (by decide)
            have c0 := Keep.cell hK r0 id
            have c1 := Keep.cell hK r1 id
            have c2 := Keep.cell hK r2 id
            have c3 := Keep.cell hK r3 id
            have c4 := Keep.cell hK r4 id
            refine Does.yes (j := 1) (d := 122) (want := true) rfl rfl (hA ⟨1, .guard⟩ (by simp) rfl) ?_
            unfold yieldsK
            go_simp
            exact ⟨rfl, Keep.refl _ _⟩
          by_cases h5 : i = 5
          · subst h5
            simp only [List.getElem?_toArray, List.getElem?_cons_zero, List.getElem?_cons_succ, Option.some.injEq] at hoo
            subst hoo
            have e125 : a.tmps.getD 125 undef = (.agg #[.string fS, .slice fA fna fca, .slice fB fnb fcb, .slice fL fnl fcl, .slice fD fnd fcd] : Value) := hA ⟨4, .data⟩ (by simp) rfl
            refine Does.yes (j := 1) (d := 122) (want := true) rfl rfl (hA ⟨1, .guard⟩ (by simp) rfl) ?_
            unfold yieldsK
            go_simp
            refine (HT2.out w' (keepN KZ hK)).mono ?_
            rintro e w9 ⟨B7, d7, rfl, hB7, h9⟩
            exact ⟨_, rfl, ⟨B7, d7, by rw [hLn], F.own_rdS hB7⟩, h9⟩
          by_cases h6 : i = 6
          · subst h6
            simp only [List.getElem?_toArray, List.getElem?_cons_zero, List.getElem?_cons_succ, Option.some.injEq] at hoo
            subst hoo
            obtain ⟨B7, d7, e124, h7⟩ := hA ⟨3, .data⟩ (by simp) rfl
            have e124 : a.tmps.getD 124 undef = .slice B7 (tgF f).length d7 := e124
            obtain ⟨B8, d8, e126, h8⟩ := hA ⟨5, .data⟩ (by simp) rfl
            have e126 : a.tmps.getD 126 undef = .slice B8 (tgF f).length d8 := e126
            refine Does.yes (j := 1) (d := 122) (want := true) rfl rfl (hA ⟨1, .guard⟩ (by simp) rfl) ?_
            unfold yieldsK
            go_simp
            refine (HIZ.out B7 B8 d7 d8 w' h7 h8).mono ?_
            rintro e w9 ⟨rfl, h9⟩
            exact ⟨_, rfl, rfl, h9⟩
          by_cases h7 : i = 7
          · subst h7
            simp only [List.getElem?_toArray, List.getElem?_cons_zero, List.getElem?_cons_succ, Option.some.injEq] at hoo
            subst hoo
            have e122 : a.tmps.getD 122 undef = .bool true := hA ⟨1, .data⟩ (by simp) rfl
            have e127 : a.tmps.getD 127 undef = .bool true := hA ⟨6, .data⟩ (by simp) rfl
            refine Does.plain rfl ?_
            unfold yieldsK
            go_simp
            exact ⟨rfl, Keep.refl _ _⟩
          by_cases h8 : i = 8
          · subst h8
            simp only [List.getElem?_toArray, List.getElem?_cons_zero, List.getElem?_cons_succ, Option.some.injEq] at hoo
            subst hoo
            have e128 : a.tmps.getD 128 undef = .bool true := hA ⟨7, .data⟩ (by simp) rfl
            refine Does.plain rfl ?_
            unfold yieldsK
            go_simp
            exact ⟨rfl, Keep.refl _ _⟩
          omega
        case spec =>
          intro o a w' hoo
          simp at hoo
        case fin =>
          intro a w' hF gKz hA
          have e10 : a.tmps.getD 10 undef = .bool true := hA 8 (by decide)
          have ha := frameD_list (l := [121, 122, 123, 124, 125, 126, 127, 128, 10]) rfl hF
          rw [ha]
          simp only [List.map_cons, List.map_nil, e10]
          generalize a.tmps.getD 121 undef = u0
          generalize a.tmps.getD 122 undef = u1
          generalize a.tmps.getD 123 undef = u2
          generalize a.tmps.getD 124 undef = u3
          generalize a.tmps.getD 125 undef = u4
          generalize a.tmps.getD 126 undef = u5
          generalize a.tmps.getD 127 undef = u6
          generalize a.tmps.getD 128 undef = u7
          simp only [fillD, List.setIfInBounds_toArray, List.set_cons_zero, List.set_cons_succ]
          have HKF := Lib.hid (keepN HKw.out (keepN KZ gKz))
          clear hA hF ha e10 KZ gKz
          go_wp2
          go_ret
          exact ⟨rfl, HKF.out⟩

end Go.Proofs.YtgnooffedmeenaaGreatDoor.M.L
