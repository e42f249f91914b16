/-
  The arguments of the laws: images opened. No conditions.
  ImageTurned's walk: an image's bytes of which one was changed, or that were cut, or with one more behind, are no image's. Conditions: the image's lists lie in memory, each below 2^47.
  Are two functions the same: the program's Same and the document's. Conditions: the functions' lists lie in memory, and are no longer than statements go through.
  Are two images the same: the program's Same, by EqualFunc over shapes and over functions, and the document's. Conditions: the images' lists lie in memory, and are no greater than statements go through.
  ImageBack's walk: an image is read from its bytes as it was; what is read of any bytes has just these. Conditions: the image's lists, and the bytes, lie in memory, each list below 2^47.
-/
import Derived.HandedShaped
import Derived.SizedLaws
import Derived.Test.YtgifflfjhockaaaGreatDoorQ9
import Derived.Test.YtgifflfjhockaaaGreatDoorQ13
import Derived.Test.YtgifflfjhockaaaGreatDoorQ5
import Derived.Test.YtgifflfjhockaaaGreatDoorQ3
namespace Go.Proofs.YtgifflfjhockaaaGreatDoor.I
open Go.ChangeShapes Go.WideShapes Go.ChangeAt Go.RowKit Go.Deep W

section
variable {H : Type} {enc : TypeId × Value → H} {W0 : World} {base : Nat} {spare : Nat → Bool} {held : Bool} {fuel : Nat} {cs : List Value} {x : DataW H × List MemPlace}
/-- What is read weighs no more than memory holds. -/
def Wt (t : TypeId) (d : DataW H) : Prop := ∀ k ∈ d.weights Tryz.prog t, k ≤ reachBytes
theorem wt_slice {t E : TypeId} {xs ys : List (DataW H)} (ht : Tryz.prog.underlying t = some (.slice E)) (hw : Wt t (.slice xs ys)) : (∀ d ∈ xs, Wt E d) ∧ (xs.length + ys.length) * Tryz.prog.bytesOf E ≤ reachBytes := by
  have all : ∀ (l : List (DataW H)) (d : DataW H), d ∈ l → ∀ k ∈ d.weights Tryz.prog E, k ∈ DataW.weightsAll Tryz.prog E l := by
    intro l
    induction l with
    | nil => intro d hd; cases hd
    | cons a l ih =>
      intro d hd k hk
      rw [DataW.weightsAll, List.mem_append]
      rcases List.mem_cons.1 hd with rfl | hd
      · exact .inl hk
      · exact .inr (ih d hd k hk)
  refine ⟨fun d hd k hk => hw k ?_, hw _ ?_⟩
  · simp only [DataW.weights, ht, List.mem_cons, List.mem_append]
    exact .inr (.inl (all xs d hd k hk))
  · simp only [DataW.weights, ht, List.mem_cons, true_or]
theorem wt_struct {t : TypeId} {fl : Array Field} {xs : List (DataW H)} (ht : Tryz.prog.underlying t = some (.struct fl)) (hw : Wt t (.agg xs)) {j : Nat} {f : Field} {d : DataW H} (hf : fl.toList[j]? = some f) (hd : xs[j]? = some d) : Wt f.type d := fun k hk => hw k (by
  simp only [DataW.weights, ht]
  exact DataW.weights_mem_each (j := j) (by simpa using congrArg (Option.map (·.type)) hf) hd k hk)
theorem wt_len {t E : TypeId} {A : Option Addr} {n c : Nat} (ht : Tryz.prog.underlying t = some (.slice E)) (hb : Nat.ble 1 (Tryz.prog.bytesOf E) = true) (h : DataW.trod enc Tryz.prog W0 base spare held fuel t [.slice A n c] = some x) (hw : Wt t x.1) : n ≤ 140737488355328 := by
  have hr : reachBytes ≤ 140737488355328 := by decide
  rcases open_slice ht h with ⟨hcs, _⟩ | ⟨a, len, cap, m, k, D, Pl, hcs, _, hl, hm, hmm, hx, _⟩
  · simp only [List.cons.injEq, Value.slice.injEq, and_true] at hcs; omega
  · simp only [List.cons.injEq, Value.slice.injEq, and_true] at hcs
    obtain ⟨_, rfl, _⟩ := hcs
    subst hx
    have h2 := (wt_slice ht hw).2
    simp only [List.length_map, List.length_range] at h2
    have h3 : n * 1 ≤ (n + (m - n)) * Tryz.prog.bytesOf E := Nat.mul_le_mul (Nat.le_add_right _ _) (Nat.le_of_ble_eq_true hb)
    omega
theorem read_shape (h : DataW.trod enc Tryz.prog W0 base spare held fuel 58 cs = some x) : ∃ e : SE, cs = [e.1.val] ∧ ShAt W0 e.1 e.2 ∧ e.1.n ≤ maxLen := by
  rcases open_ints Tryz.underlying58 Tryz.underlying3 (by kernel_rfl) h with ⟨hcs, _⟩ | ⟨a, len, cap, zs, hcs, _, hl, hm, hz, _, hcell, _⟩
  · exact ⟨(⟨none, 0, 0⟩, []), hcs, ⟨Rd.none_ _ _, rfl⟩, Nat.zero_le _⟩
  · have hzl : len ≤ zs.length := by rw [hz]; split <;> omega
    have hlen : (zs.take len).length = len := by rw [List.length_take]; omega
    refine ⟨(⟨some a, len, cap⟩, zs.take len), hcs, ⟨fun h0 => ?_, hlen⟩, Nat.le_trans hl hm⟩
    have h0' : 0 < len := by rw [List.length_map, hlen] at h0; exact h0
    have ea := C.addr_of_cell (hcell 0 (by omega))
    have ea' : a = ⟨a.block, a.off, none⟩ := by simpa [Addr.add] using ea
    refine ⟨a.block, a.off, by dsimp only; rw [← ea'], fun j u hu => ?_⟩
    obtain ⟨hj, hju⟩ := List.getElem?_eq_some_iff.1 hu
    have hj' : j < len := by simp at hj; omega
    have hc := hcell j (by omega)
    rw [ea', C.add_of] at hc
    rw [hc]
    simp at hju
    rw [← hju]
    simp [List.getD, List.getElem?_eq_getElem (show j < zs.length by omega)]
set_option maxRecDepth 100000 in
theorem read_fun (hsz : cs.length = 5) (h : DataW.trod enc Tryz.prog W0 base spare held fuel 61 cs = some x) : ∃ e : FE, cs = e.1.cells.toList ∧ F.FnAt W0 e.1 e.2 ∧ (Wt 61 x.1 → F.LgF e.1) := by
  have k9 : Tryz.prog.cellsOf 9 = 1 := by kernel_rfl
  have k24 : Tryz.prog.cellsOf 57 = 2 := by kernel_rfl
  have k22 : Tryz.prog.cellsOf 55 = 1 := by kernel_rfl
  have k25 : Tryz.prog.cellsOf 59 = 1 := by kernel_rfl
  match cs, hsz with
  | [c0, c1, c2, c3, c4], _ =>
  obtain ⟨y0, y1, y2, y3, n, rfl, _, h0, h1, h2, h3⟩ := Joins.trod_struct4 Tryz.underlying61 h
  simp only [k9, k24, k22, k25, List.drop_zero, List.drop_succ_cons, List.take_succ_cons, List.take_zero] at h0 h1 h2 h3
  obtain ⟨s0, e0, x0, _⟩ := DataW.trod_string Tryz.underlying9 h0
  obtain ⟨z0, z1, n1, x1, _, g0, g1⟩ := trod_struct2 Tryz.underlying57 h1
  simp only [k22, List.drop_zero, List.drop_succ_cons, List.take_succ_cons, List.take_zero] at g0 g1
  obtain ⟨A, a, ca, e1, ra, _, _⟩ := F.read_ints g0
  obtain ⟨B, b, cb, e2, rb, _, _⟩ := F.read_ints g1
  obtain ⟨L, l, cl, e3, rl, _, _⟩ := F.read_ints h2
  obtain ⟨D, bd, cd, e4, rd, _, _, hI⟩ := C.read_insts h3
  simp only [List.cons.injEq, and_true] at e0 e1 e2 e3 e4
  subst e0 e1 e2 e3 e4
  refine ⟨(⟨s0, A, a.length, ca, B, b.length, cb, L, l.length, cl, D, bd.length, cd⟩, ⟨s0.data.toList, a, b, l, bd⟩), rfl, ⟨rfl, ra, rb, rl, rd, rfl, rfl, rfl, rfl, hI⟩, fun hw => ?_⟩
  have w0 := wt_struct (j := 0) Tryz.underlying61 hw rfl rfl
  have w1 := wt_struct (j := 1) Tryz.underlying61 hw rfl rfl
  have w2 := wt_struct (j := 2) Tryz.underlying61 hw rfl rfl
  have w3 := wt_struct (j := 3) Tryz.underlying61 hw rfl rfl
  subst x0 x1
  have v0 := wt_struct (j := 0) Tryz.underlying57 w1 rfl rfl
  have v1 := wt_struct (j := 1) Tryz.underlying57 w1 rfl rfl
  refine ⟨?_, wt_len Tryz.underlying55 (by kernel_rfl) g0 v0, wt_len Tryz.underlying55 (by kernel_rfl) g1 v1, wt_len Tryz.underlying55 (by kernel_rfl) h2 w2, wt_len Tryz.underlying59 (by kernel_rfl) h3 w3⟩
  have := w0 s0.data.toList.length (by simp [DataW.weights])
  have hr : reachBytes ≤ 140737488355328 := by decide
  have e : s0.data.toList.length = s0.size := Array.length_toList
  dsimp only
  omega
theorem add_zero_addr (a : Addr) : a.add 0 = a := by simp [Addr.add]
set_option maxRecDepth 100000 in
theorem read_shapes (h : DataW.trod enc Tryz.prog W0 base spare held fuel 22 cs = some x) : ∃ X, ∃ es : List SE, ∃ c, cs = [.slice X es.length c] ∧ Rd W0 X (svs es) ∧ (∀ e ∈ es, ShAt W0 e.1 e.2 ∧ e.1.n ≤ maxLen) ∧ es.length ≤ c ∧ c ≤ maxLen ∧ (Wt 22 x.1 → ∀ e ∈ es, e.1.n ≤ 140737488355328) := by
  rcases open_slice Tryz.underlying22 h with ⟨hcs, _⟩ | ⟨a, len, cap, m, n, D, Pl, hcs, _, hl, hm, hmm, rfl, hi⟩
  · exact ⟨none, [], 0, hcs, Rd.none_ _ _, (fun _ h => nomatch h), Nat.le_refl _, Nat.zero_le _, fun _ _ h => nomatch h⟩
  · have hlm : len ≤ m := by rw [hmm]; split <;> omega
    have c1 : Tryz.prog.cellsOf 58 = 1 := by kernel_rfl
    have each : ∀ i : Nat, ∃ e : SE, i < len → W0.cell? (a.add i) = some e.1.val ∧ (ShAt W0 e.1 e.2 ∧ e.1.n ≤ maxLen) ∧ (Wt 58 (D i) → e.1.n ≤ 140737488355328) := by
      intro i
      by_cases hlt : i < len
      · obtain ⟨cs', hc, ht'⟩ := hi i (by omega)
        rw [c1, Nat.mul_one] at hc
        obtain ⟨e, he, hs, hn⟩ := read_shape ht'
        obtain ⟨_, hcl, hat⟩ := World.cells?_some hc
        have g0 := hat 0 (by omega)
        refine ⟨e, fun _ => ⟨?_, ⟨hs, hn⟩, fun hw => ?_⟩⟩
        rotate_left
        · rw [he] at ht'
          exact wt_len Tryz.underlying58 (by kernel_rfl) ht' hw
        rw [he] at g0
        rw [add_zero_addr] at g0
        simpa using g0
      · exact ⟨(⟨none, 0, 0⟩, []), fun h => absurd h hlt⟩
    obtain ⟨f, hf⟩ := Classical.axiomOfChoice each
    have hlen : ((List.range len).map f).length = len := by simp
    refine ⟨some a, (List.range len).map f, cap, by rw [hlen]; exact hcs, fun h0 => ?_, fun e he => ?_, by rw [hlen]; exact hl, hm, fun hw e he => ?_⟩
    · have h0' : 0 < len := by rw [svs_length, hlen] at h0; omega
      have ea := C.addr_of_cell (hf 0 h0').1
      have ea' : a = ⟨a.block, a.off, none⟩ := by simpa [Addr.add] using ea
      refine ⟨a.block, a.off, by rw [← ea'], fun j u hu => ?_⟩
      have hj : j < len := by have := (List.getElem?_eq_some_iff.1 hu).1; rw [svs_length, hlen] at this; exact this
      have q0 := svs_at ((List.range len).map f) j (by rw [hlen]; exact hj)
      have k0 := (hf j hj).1
      rw [ea', C.add_of] at k0
      rw [q0] at hu
      simp only [List.getElem_map, List.getElem_range] at hu
      rw [k0]; exact hu
    · obtain ⟨i, hi', rfl⟩ := List.mem_map.1 he
      exact (hf i (List.mem_range.1 hi')).2.1
    · obtain ⟨i, hi', rfl⟩ := List.mem_map.1 he
      exact (hf i (List.mem_range.1 hi')).2.2 ((wt_slice Tryz.underlying22 hw).1 _ (List.mem_map.2 ⟨i, hi', rfl⟩))
set_option maxRecDepth 100000 in
theorem read_funs (h : DataW.trod enc Tryz.prog W0 base spare held fuel 23 cs = some x) : ∃ Y, ∃ fs : List FE, ∃ c, cs = [.slice Y fs.length c] ∧ Rd W0 Y (fvs fs) ∧ (∀ e ∈ fs, F.FnAt W0 e.1 e.2) ∧ fs.length ≤ c ∧ c ≤ maxLen ∧ (Wt 23 x.1 → ∀ e ∈ fs, F.LgF e.1) := by
  rcases open_slice Tryz.underlying23 h with ⟨hcs, _⟩ | ⟨a, len, cap, m, n, D, Pl, hcs, _, hl, hm, hmm, rfl, hi⟩
  · exact ⟨none, [], 0, hcs, Rd.none_ _ _, (fun _ h => nomatch h), Nat.le_refl _, Nat.zero_le _, fun _ _ h => nomatch h⟩
  · have hlm : len ≤ m := by rw [hmm]; split <;> omega
    have c5 : Tryz.prog.cellsOf 61 = 5 := by kernel_rfl
    have each : ∀ i : Nat, ∃ e : FE, i < len → (∀ j u, e.1.cells.toList[j]? = some u → W0.cell? ((a.add (i * 5)).add j) = some u) ∧ F.FnAt W0 e.1 e.2 ∧ (Wt 61 (D i) → F.LgF e.1) := by
      intro i
      by_cases hlt : i < len
      · obtain ⟨cs', hc, ht'⟩ := hi i (by omega)
        rw [c5] at hc
        obtain ⟨_, hcl, hat⟩ := World.cells?_some hc
        obtain ⟨e, rfl, hs⟩ := read_fun hcl ht'
        refine ⟨e, fun _ => ⟨fun j u hu => ?_, hs⟩⟩
        have hj : j < 5 := by rw [← hcl]; exact (List.getElem?_eq_some_iff.1 hu).1
        rw [hat j hj]; exact hu
      · exact ⟨(F.nilV, F.nilF), fun h => absurd h hlt⟩
    obtain ⟨f, hf⟩ := Classical.axiomOfChoice each
    have hlen : ((List.range len).map f).length = len := by simp
    refine ⟨some a, (List.range len).map f, cap, by rw [hlen]; exact hcs, fun h0 => ?_, fun e he => ?_, by rw [hlen]; exact hl, hm, fun hw e he => ?_⟩
    · have h0' : 0 < len := by rw [fvs_length, hlen] at h0; omega
      have ea := C.addr_of_cell ((hf 0 h0').1 0 _ rfl)
      have ea' : a = ⟨a.block, a.off, none⟩ := by simpa [Addr.add] using ea
      refine ⟨a.block, a.off, by rw [← ea'], fun j u hu => ?_⟩
      have hj : j < len * 5 := by have := (List.getElem?_eq_some_iff.1 hu).1; rw [fvs_length, hlen] at this; exact this
      have hd : j / 5 < len := by omega
      have q0 := fvs_at ((List.range len).map f) (j / 5) (j % 5) (by rw [hlen]; exact hd) (by omega)
      rw [show j / 5 * 5 + j % 5 = j by omega, hu] at q0
      simp only [List.getElem_map, List.getElem_range] at q0
      have k0 := (hf (j / 5) hd).1 (j % 5) u q0.symm
      rw [ea', C.add_of, C.add_of, Nat.add_assoc, show j / 5 * 5 + j % 5 = j by omega] at k0
      exact k0
    · obtain ⟨i, hi', rfl⟩ := List.mem_map.1 he
      exact (hf i (List.mem_range.1 hi')).2.1
    · obtain ⟨i, hi', rfl⟩ := List.mem_map.1 he
      exact (hf i (List.mem_range.1 hi')).2.2 ((wt_slice Tryz.underlying23 hw).1 _ (List.mem_map.2 ⟨i, hi', rfl⟩))
end
section
variable {H : Type} {enc : TypeId × Value → H} {w : World} {base b0 : Nat} {spare : Nat → Bool} {held : Bool} {r : Reach} {v : Value} {d : DataW H} {p : List MemPlace}
theorem array2 {α : Type} {cs : Array α} (h : cs.size = 2) : ∃ c0 c1, cs = #[c0, c1] := by
  obtain ⟨l⟩ := cs
  match l, h with
  | [c0, c1], _ => exact ⟨c0, c1, rfl⟩
set_option maxRecDepth 100000 in
theorem open_img (hv : Value.okWide Tryz.prog w r b0 25 v) (h : DataW.Trod enc Tryz.prog w base spare held 25 v d p) : ∃ (iv : IV) (es : List SE) (fs : List FE), v = iv.val ∧ ImAt w iv es fs ∧ (Wt 25 d → LgI iv es fs) := by
  have k0 : Tryz.prog.cellsOf 22 = 1 := by kernel_rfl
  have k1 : Tryz.prog.cellsOf 23 = 1 := by kernel_rfl
  obtain ⟨cs, rfl, hsz⟩ := okWide_struct Tryz.underlying25 hv
  obtain ⟨c0, c1, rfl⟩ := array2 (hsz.trans (by kernel_rfl))
  obtain ⟨fuel, hf⟩ := h
  obtain ⟨z0, z1, n1, hx, _, g0, g1⟩ := trod_struct2 Tryz.underlying25 hf
  obtain ⟨rfl, _⟩ := Prod.mk.inj hx
  simp only [Value.cells, k0, k1, List.drop_zero, List.drop_succ_cons, List.take_succ_cons, List.take_zero] at g0 g1
  obtain ⟨X, es, cx, e1, rx, hs, _, _, ws⟩ := read_shapes g0
  obtain ⟨Y, fs, cy, e2, ry, hfn, _, _, wf⟩ := read_funs g1
  simp only [List.cons.injEq, and_true] at e1 e2
  subst e1 e2
  refine ⟨⟨X, es.length, cx, Y, fs.length, cy⟩, es, fs, rfl, ⟨rx, ry, rfl, rfl, fun e he => (hs e he).1, hfn⟩, fun hw => ?_⟩
  have w0 := wt_struct (j := 0) Tryz.underlying25 hw rfl rfl
  have w1 := wt_struct (j := 1) Tryz.underlying25 hw rfl rfl
  exact ⟨wt_len Tryz.underlying22 (by kernel_rfl) g0 w0, wt_len Tryz.underlying23 (by kernel_rfl) g1 w1, ws w0, wf w1⟩
end

/-- The wrap that hands on the world's shape, and how much is read at most. -/
theorem handed_sized {H : Type} {enc : TypeId × Value → H} {a : Assume} {C : Checked} {os : Os} {f : FuncId} {fn : Func} {s : ChangeSpec} {conds : List PathCond} {apart fresh handsOn again : Bool} {X : World → Array Value → Prop}
    (hX : ∀ (w w' : World) (args : Array Value), w.heap = w'.heap → X w args → X w' args) (own : ownKnob C.prog.godebug = none) (started : os.Started) (noInit : C.prog.inits.idxOf? f = none) (hfn : C.prog.funcs[f]? = some fn)
    (witness : ∃ (w : World) (tape : Tape) (i : Input), w.os = os ∧ (w.forCall tape i).Shaped C.prog ∧ i.vars = [] ∧ Input.okWide C.prog (w.forCall tape i) .any w.heap.size f i ∧
      ((s.pre enc C.prog fn conds apart (w.forCall tape i).memory i.args ∧ X (w.forCall tape i).memory i.args) ∧ sizedMet enc C.prog fn (OpenSpec.ofChange s) apart (w.forCall tape i).memory i.args) ∧ a.holds C.prog (lone (Frame.enter C.prog f i.args .normal) [] (w.forCall tape i)))
    (contract : ∀ (W : World) (base : Nat) (args : Array Value) (ds gs : List (DataW H)) (before : List MemPlace),
      (∀ (j : Nat) t v, fn.params[j]? = some t → args[j]? = some v → Value.okWide C.prog W .any base t v) → DataW.Whole enc C.prog fn.params.toList s.vars apart W args.toList ds gs before →
      W.ShapedOpen C.prog → X W args → (DataW.weightsEach C.prog (fn.params.toList ++ s.plain.varTypes C.prog) (ds ++ gs)).all (· ≤ reachBytes) = true →
      Calls C.prog f args W fun e W' => ∃ v, e = .returned v ∧ s.post enc C.prog fn apart fresh handsOn again W args v W') :
    ReturnsInHanded a C os f .any (fun w args => (s.pre enc C.prog fn conds apart w args ∧ X w args) ∧ sizedMet enc C.prog fn (OpenSpec.ofChange s) apart w args) (s.post enc C.prog fn apart fresh handsOn again) := by
  refine returnsInHanded_of_calls own started noInit witness ?_
  intro w tape i _ hsh _ hok hpre _
  obtain ⟨_, _, _, fn', hfn', _, _, _, _, hval⟩ := hok
  obtain rfl : fn' = fn := Option.some.inj (hfn'.symm.trans hfn)
  obtain ⟨⟨⟨ds, gs, before, hw, _⟩, hx⟩, hz⟩ := hpre
  have hw' := DataW.Whole.of_heap (w' := w.forCall tape i) (by rfl) hw
  refine (contract (w.forCall tape i) w.heap.size i.args ds gs before hval hw' hsh (hX _ _ _ (by rfl) hx) (hz.weights hw)).mono fun e W' ⟨v, he, hp⟩ => ?_
  subst he
  exact ChangeSpec.post_blind hp
theorem wt_arg {H : Type} {ts : List TypeId} {ds : List (DataW H)} (h : (DataW.weightsEach Tryz.prog ts ds).all (· ≤ reachBytes) = true) {j : Nat} {t : TypeId} {d : DataW H} (ht : ts[j]? = some t) (hd : ds[j]? = some d) : Wt t d :=
  fun k hk => by simpa using List.all_eq_true.1 h _ (DataW.weights_mem_each ht hd k hk)

section
variable {H : Type} {enc : TypeId × Value → H} {w : World} {base b0 : Nat} {spare : Nat → Bool} {held : Bool} {r : Reach} {v : Value} {d : DataW H} {p : List MemPlace}
set_option maxRecDepth 100000 in
theorem open_u16 (hv : Value.okWide Tryz.prog w r b0 27 v) (h : DataW.Trod enc Tryz.prog w base spare held 27 v d p) : ∃ n : Nat, v = .int .u16 (n : Int) ∧ d = .lit (.int .u16 (n : Int)) ∧ p = [] ∧ n < 65536 := by
  obtain ⟨n, rfl, rfl, rfl, hw⟩ := open_int Tryz.underlying27 hv h
  have hb : 0 ≤ n ∧ n < 65536 := by
    have h1 : IntKind.u16.min = 0 := rfl
    have h2 : IntKind.u16.max = 65535 := rfl
    simp only [Lit.wf, Bool.and_eq_true, decide_eq_true_eq] at hw
    omega
  obtain ⟨m, rfl⟩ := Int.eq_ofNat_of_zero_le hb.1
  exact ⟨m, rfl, rfl, rfl, by omega⟩
set_option maxRecDepth 100000 in
theorem open_u8 (hv : Value.okWide Tryz.prog w r b0 5 v) (h : DataW.Trod enc Tryz.prog w base spare held 5 v d p) : ∃ y : UInt8, v = .int .u8 (y.toNat : Int) ∧ d = .lit (.int .u8 (y.toNat : Int)) ∧ p = [] := by
  obtain ⟨n, rfl, rfl, rfl, hw⟩ := open_int Tryz.underlying5 hv h
  have hb : 0 ≤ n ∧ n < 256 := by
    have h1 : IntKind.u8.min = 0 := rfl
    have h2 : IntKind.u8.max = 255 := rfl
    simp only [Lit.wf, Bool.and_eq_true, decide_eq_true_eq] at hw
    omega
  obtain ⟨m, rfl⟩ := Int.eq_ofNat_of_zero_le hb.1
  have e : (UInt8.ofNat m).toNat = m := by rw [UInt8.toNat_ofNat', Nat.mod_eq_of_lt (by omega)]
  exact ⟨UInt8.ofNat m, by rw [e], by rw [e], rfl⟩
end
section
variable {H : Type} {enc : TypeId × Value → H} {P : Program} {w : World} {base : Nat} {spare : Nat → Bool} {held : Bool}
theorem trodAll_five {t0 t1 t2 t3 t4 : TypeId} {args : Array Value} {ds : List (DataW H)} {ps : List MemPlace} (h : DataW.TrodAll enc P w base spare held [t0, t1, t2, t3, t4] args.toList ds ps) :
    ∃ v0 v1 v2 v3 v4 d0 d1 d2 d3 d4 p0 p1 p2 p3 p4, args = #[v0, v1, v2, v3, v4] ∧ ds = [d0, d1, d2, d3, d4] ∧ ps = p0 ++ p1 ++ p2 ++ p3 ++ p4 ∧ DataW.Trod enc P w base spare held t0 v0 d0 p0 ∧ DataW.Trod enc P w base spare held t1 v1 d1 p1 ∧ DataW.Trod enc P w base spare held t2 v2 d2 p2 ∧ DataW.Trod enc P w base spare held t3 v3 d3 p3 ∧ DataW.Trod enc P w base spare held t4 v4 d4 p4 := by
  obtain ⟨v0, vs, d0, ds0, p0, q0, hargs, rfl, rfl, h0, hr0⟩ := trodAll_cons h
  obtain ⟨v1, vs1, d1, ds1, p1, q1, rfl, rfl, rfl, h1, hr1⟩ := trodAll_cons hr0
  obtain ⟨v2, vs2, d2, ds2, p2, q2, rfl, rfl, rfl, h2, hr2⟩ := trodAll_cons hr1
  obtain ⟨v3, vs3, d3, ds3, p3, q3, rfl, rfl, rfl, h3, hr3⟩ := trodAll_cons hr2
  obtain ⟨v4, vs4, d4, ds4, p4, q4, rfl, rfl, rfl, h4, hr4⟩ := trodAll_cons hr3
  obtain ⟨e1, rfl, rfl⟩ := trodAll_none (args := vs4.toArray) (by simpa using hr4)
  have e2 : vs4 = [] := by simpa using congrArg Array.toList e1
  subst e2
  exact ⟨v0, v1, v2, v3, v4, d0, d1, d2, d3, d4, p0, p1, p2, p3, p4, Array.ext' (by simpa using hargs), rfl, by simp, h0, h1, h2, h3, h4⟩
theorem trodAll_mk5 {t0 t1 t2 t3 t4 : TypeId} {v0 v1 v2 v3 v4 : Value} {d0 d1 d2 d3 d4 : DataW H} {p0 p1 p2 p3 p4 : List MemPlace} (h0 : DataW.Trod enc P w base spare held t0 v0 d0 p0) (h1 : DataW.Trod enc P w base spare held t1 v1 d1 p1)
    (h2 : DataW.Trod enc P w base spare held t2 v2 d2 p2) (h3 : DataW.Trod enc P w base spare held t3 v3 d3 p3) (h4 : DataW.Trod enc P w base spare held t4 v4 d4 p4) : DataW.TrodAll enc P w base spare held [t0, t1, t2, t3, t4] [v0, v1, v2, v3, v4] [d0, d1, d2, d3, d4] (p0 ++ (p1 ++ (p2 ++ (p3 ++ p4)))) :=
  ⟨p0, p1 ++ (p2 ++ (p3 ++ p4)), h0, trodAll_mk4 h1 h2 h3 h4, rfl⟩
end

end Go.Proofs.YtgifflfjhockaaaGreatDoor.I

namespace Go.Proofs.YtgifflfjhockaaaGreatDoor.I
open Go.RowKit W

/-- Bytes appended to owned ones. -/
theorem wpList_appN {ops : Array Oper} {rest : List Oper} {o : Oper} {a : Act} {Q : Exit → Act → World → Prop} {w w0 : World} (hgd : o.guard = none) (s x : Operand)
    (ho : o.op = .call { callee := .builtin .append, args := #[s, x], argTypes := #[26, 26] })
    (v : Value) (xs l : List UInt8) (A : Option Addr) (c m n q : Nat) (hs : a.eval s = v) (hO : V.OwnB w (Fresh w0) v xs) (hK : Keep NoB w0 w) (hx : a.eval x = .slice A n c) (hm : xs.length = m) (hn : l.length = n) (hr : V.Rd w A l)
    (hq : m + n = q) (hb : q ≤ 140737488355328)
    (h : ∀ A' c' w', Hid (V.OwnB w' (Fresh w0) (.slice A' q c') (xs ++ l)) → Hid (Keep NoB w0 w') → q ≤ c' → c' ≤ maxLen → wpList Tryz.prog ops Q rest (a.put o.dst (.slice A' q c')) w') :
    wpList Tryz.prog ops Q (o :: rest) a w := by
  subst hm hn hq
  refine V.wpList_append_rd w hgd s x ho v xs l A c hs hO.1 hx hr hb fun v' w' h2 h3 h4 => ?_
  obtain ⟨hO5, hK5⟩ := own_appI hO hK h2 h3 h4
  obtain ⟨A', c', e, hc, _, _, hcm⟩ := hO5.form
  subst e
  rw [List.length_append] at hO5 hc ⊢
  exact h A' c' w' (Lib.hid hO5) (Lib.hid hK5) hc hcm
/-- What Decode answers where the bytes are no image's. -/
theorem decode_bad (A : Option Addr) (l : List UInt8) (n c : Nat) (w : World) (hr : V.Rd w A l) (hn : l.length = n) (hc : n ≤ c) (hcm : c ≤ maxLen) (hlen : n ≤ 1073741824) (hE : (decI l).2 ≠ 0) :
    Calls Tryz.prog 15 #[.slice A n c] w fun e w' => ∃ X Y cx cy E, e = .returned (.tuple #[.agg #[.slice X 0 cx, .slice Y 0 cy], .int .i64 E]) ∧ (E == 0) = false ∧ Keep NoB w w' := by
  refine (decode_no A l n c w hr hn hc hcm hlen (decI l).2 (Prod.ext (decI_bad hE) rfl)).mono ?_
  rintro e w' ⟨X, Y, cx, cy, rfl, hk⟩
  exact ⟨X, Y, cx, cy, _, rfl, beq_false_of_ne hE, hk⟩
theorem rd_one8 {w : World} (y : UInt8) : V.Rd (w.alloc (.cells #[.int .u8 (y.toNat : Int)] 5)) (some ⟨w.heap.size, 0, none⟩) [y] := rdB_blk (l := [y]) (heap_alloc_new w (.cells #[.int .u8 (y.toNat : Int)] 5))

set_option maxRecDepth 100000 in
set_option maxHeartbeats 1000000 in
theorem turned_walk (v : IV) (es : List SE) (fs : List FE) (at_ cut : Nat) (by_ more : UInt8) (w : World) (h : ImAt w v es fs) (hl : LgI v es fs) (hat : at_ < 65536) (hcut : cut < 65536) :
    Calls Tryz.prog 7 #[v.val, .int .u16 (at_ : Int), .int .u8 (by_.toNat : Int), .int .u16 (cut : Int), .int .u8 (more.toNat : Int)] w fun e w' => e = .returned (.bool true) ∧ Keep NoB w w' := by
  have bx := Blk.new w 25 v.cells
  have gK := (Keep.refl NoB w).alloc (.cells v.cells 25)
  have HE := Lib.hid (fun W (hk : Keep NoB w W) => encode_any v es fs W (h.keepN hk) hl)
  have HG := Lib.hid (fun W (hk : Keep NoB w W) => great_any v es fs W (h.keepN hk) hl)
  have hM := Lib.hid (fun (e : UInt8) (h : okI (imOf es fs) = true) => turn_more h e)
  cases ho : okI (imOf es fs)
  · rw [chkI_no ho, encI_no ho] at HE
    clear h hl ho hM
    obtain ⟨X, nx, cx, Y, ny, cy⟩ := v
    dsimp only [IV.val, IV.cells] at *
    go_enter Tryz.func7, Tryz.ntmps7
    go_wp2_with fail
    refine (alive_any _).mono ?_
    rintro e w1 ⟨rfl, k1⟩
    replace bx := bx.keep k1 id
    replace gK := keepN gK k1
    clear k1
    obtain ⟨p0, p1⟩ := blk2 (v := ⟨X, nx, cx, Y, ny, cy⟩) bx
    dsimp only at p0 p1
    go_wp2_with fail
    refine (HE.out _ gK).mono ?_
    rintro e w2 ⟨u2, rfl, h2, k2⟩
    replace bx := bx.keep k2 id
    replace gK := keepN gK k2
    clear k2 p0 p1
    obtain ⟨A2, c2, rfl, hc2, hr2, hadr, hcm2⟩ := h2.form
    clear h2 hr2 hadr hc2 hcm2
    obtain ⟨p0, p1⟩ := blk2 (v := ⟨X, nx, cx, Y, ny, cy⟩) bx
    dsimp only at p0 p1
    go_wp2_with fail
    refine (HG.out _ gK).mono ?_
    rintro e w3 ⟨hg, k3⟩
    rcases hg with ⟨hg, hg1, hg2⟩ | hg
    · obtain rfl := hg
      go_wp2
      go_ret
      exact ⟨rfl, keepN gK k3⟩
    · obtain rfl := hg
      go_wp2
      go_ret
      exact ⟨rfl, keepN gK k3⟩
  · rw [chkI_ok ho, encI_ok ho] at HE
    have hlen : (bytesI (imOf es fs)).length ≤ 3000004 := by rw [bytesI_length]; have := inI_len ho; omega
    have h0 : 0 < (bytesI (imOf es fs)).length := by rw [bytesI_length]; omega
    have HC := Lib.hid (fun (n : Nat) (h : n < (bytesI (imOf es fs)).length) => turn_cut ho h)
    have HM := Lib.hid (turn_more ho more)
    have HT := Lib.hid (fun (i : Nat) (x : UInt8) (hi : i < (bytesI (imOf es fs)).length) (hx : x ≠ (bytesI (imOf es fs))[i]) => turn_set hi hx)
    clear h hl ho hM
    generalize bytesI (imOf es fs) = u at *
    obtain ⟨L, hL⟩ : ∃ L, u.length = L := ⟨_, rfl⟩
    have HL := Lib.hid hL
    rw [hL] at hlen h0
    clear hL
    have hz : ¬ ((L : Int) = 0) := by omega
    obtain ⟨j, hjd⟩ : ∃ j, at_ % L = j := ⟨_, rfl⟩
    have hj : j < L := by rw [← hjd]; exact Nat.mod_lt _ h0
    have hrj : Int.tmod (at_ : Int) (L : Int) = (j : Int) := by rw [← Int.ofNat_tmod, hjd]
    obtain ⟨m, hmd⟩ : ∃ m, cut % L = m := ⟨_, rfl⟩
    have hm : m < L := by rw [← hmd]; exact Nat.mod_lt _ h0
    have hrm : Int.tmod (cut : Int) (L : Int) = (m : Int) := by rw [← Int.ofNat_tmod, hmd]
    have hjn : (j : Int) < (L : Int) := by omega
    have hmn : (m : Int) ≤ (L : Int) := by omega
    clear hjd hmd
    obtain ⟨X, nx, cx, Y, ny, cy⟩ := v
    dsimp only [IV.val, IV.cells] at *
    go_enter Tryz.func7, Tryz.ntmps7
    go_wp2_with fail
    refine (alive_any _).mono ?_
    rintro e w1 ⟨rfl, k1⟩
    replace bx := bx.keep k1 id
    replace gK := keepN gK k1
    clear k1
    obtain ⟨p0, p1⟩ := blk2 (v := ⟨X, nx, cx, Y, ny, cy⟩) bx
    dsimp only at p0 p1
    go_wp2_with fail
    refine (HE.out _ gK).mono ?_
    rintro e w2 ⟨u2, rfl, h2, k2⟩
    replace bx := bx.keep k2 id
    replace gK := keepN gK k2
    clear k2 p0 p1
    obtain ⟨A2, c2, rfl, hc2, hr2, hadr, hcm2⟩ := h2.form
    have HR := Lib.hid hr2
    rw [HL.out] at hc2 ⊢
    clear h2 hr2 hadr
    obtain ⟨p0, p1⟩ := blk2 (v := ⟨X, nx, cx, Y, ny, cy⟩) bx
    dsimp only at p0 p1
    go_wp2_with fail
    refine (HG.out _ gK).mono ?_
    rintro e w3 ⟨hg, k3⟩
    have hmc : (m : Int) ≤ (c2 : Int) := by omega
    rcases hg with ⟨hg, hg1, hg2⟩ | hg
    rotate_left
    · obtain rfl := hg
      go_wp2
      go_ret
      exact ⟨rfl, keepN gK k3⟩
    subst hg
    clear hg1 hg2
    replace HR := Lib.hid (S.rd_n HR.out k3)
    replace gK := keepN gK k3
    clear k3 HE HG p0 p1 bx
    by_cases hy : by_ = 0
    · subst hy
      go_wp2_with fail
      have HD7 := Lib.hid (decode_bad A2 (u.take m) m c2 _ (rd_tk HR.out m) (by rw [List.length_take, HL.out]; omega) (by omega) hcm2 (by omega) (HC.out m (by rw [HL.out]; exact hm)))
      refine HD7.out.mono ?_
      rintro e w7 ⟨X7, Y7, cx7, cy7, E7, rfl, hE7, k7⟩
      have kA := (Keep.refl NoB w7).alloc (.cells #[.slice X7 0 cx7, .slice Y7 0 cy7] 25)
      replace HR := Lib.hid (S.rd_n HR.out (keepN k7 kA))
      replace gK := keepN gK (keepN k7 kA)
      clear k7 kA HD7
      have HO := Lib.hid ((made_ownI (w7.alloc (.cells #[.slice X7 0 cx7, .slice Y7 0 cy7] 25))).mono (O' := Fresh w) (fun k hk _ => Nat.le_trans gK.size hk))
      have kM := (Keep.refl NoB (w7.alloc (.cells #[.slice X7 0 cx7, .slice Y7 0 cy7] 25))).alloc (.cells #[] 5)
      have HRM := Lib.hid (S.rd_n HR.out kM)
      have HKM := Lib.hid (keepN gK kM)
      simp only [World.size_alloc] at HO
      clear kM
      go_wp2_with (first | (at_builtin; refine wpList_appN rfl (.tmp 78) (.tmp 79) rfl (.slice (some ⟨w7.heap.size + 1, 0, none⟩) 0 0) [] u A2 c2 0 L L rfl HO.out HKM.out rfl rfl HL.out HRM.out (Nat.zero_add _) (by omega) ?_; intro A8 c8 w8 hO8 hK8 hc8 hcm8; rw [List.nil_append] at hO8; have kN := (Keep.refl NoB w8).alloc (.cells #[.int .u8 (more.toNat : Int)] 5); have HO9 := Lib.hid (V.OwnB.keep hO8.out kN (fun _ _ => id)); have HK9 := Lib.hid (keepN hK8.out kN); have HY9 := Lib.hid (rd_one8 (w := w8) more); clear kN hO8 hK8 hc8 hcm8) | (at_builtin; refine wpList_appN rfl (.tmp 80) (.tmp 82) rfl (.slice A8 L c8) u [more] (some ⟨w8.heap.size, 0, none⟩) 1 L 1 (L + 1) rfl HO9.out HK9.out rfl HL.out rfl HY9.out rfl (by omega) ?_; intro A9 c9 w9 hO9 hK9 hc9 hcm9))
      refine (decode_bad A9 (u ++ [more]) (L + 1) c9 w9 (own_rdI hO9.out) (by rw [List.length_append, HL.out]; rfl) hc9 hcm9 (by omega) HM.out).mono ?_
      rintro e w10 ⟨X10, Y10, cx10, cy10, E10, rfl, hE10, k10⟩
      have hE11 : (E10 != 0) = true := by rw [bne, hE10]; rfl
      have HKF := Lib.hid (keepN hK9.out (k10.alloc (.cells #[.slice X10 0 cx10, .slice Y10 0 cy10] 25)))
      clear hE10 k10
      go_wp2
      go_ret
      exact ⟨rfl, HKF.out⟩
    · have hby := Lib.hid hy
      have hbb := by_.toNat_lt
      have hb0 : ¬ ((by_.toNat : Int) = 0) := fun e => hy (UInt8.toNat_inj.1 (by simpa using e))
      obtain ⟨bz, hbz⟩ : ∃ bz : Int, (by_.toNat : Int) = bz := ⟨_, rfl⟩
      have hbb2 : 0 < bz ∧ bz < 256 := by omega
      have hju : j < u.length := by rw [HL.out]; exact hj
      obtain ⟨x, hx⟩ : ∃ x, u[j] = x := ⟨_, rfl⟩
      have HJ := Lib.hid (List.getElem?_eq_getElem hju ▸ hx ▸ rfl : u[j]? = some x)
      have hxb := x.toNat_lt
      have hzx := xor_u8 x by_
      have hz0 := (x ^^^ by_).toNat_lt
      obtain ⟨z, hz1⟩ : ∃ z : Int, ((x ^^^ by_).toNat : Int) = z := ⟨_, rfl⟩
      obtain ⟨xz, hxz⟩ : ∃ xz : Int, (x.toNat : Int) = xz := ⟨_, rfl⟩
      have hxb2 : 0 ≤ xz ∧ xz < 256 := by omega
      rw [hz1, hxz, hbz] at hzx
      have hz2 : 0 ≤ z ∧ z < 256 := by omega
      rw [hbz]
      have HX := Lib.hid hz1.symm
      have HXZ := Lib.hid hxz
      clear hy hbb hb0 hbz hx hxb hz0 hz1 hxz hju
      have hbp : 0 < bz := hbb2.1
      have HO := Lib.hid (made_ownI w3)
      have kM := (Keep.refl NoB w3).alloc (.cells #[] 5)
      have HRM := Lib.hid (S.rd_n HR.out kM)
      have HKM := Lib.hid kM
      clear kM
      go_wp2_with (at_builtin; refine wpList_appN rfl (.tmp 42) (.tmp 43) rfl (.slice (some ⟨w3.heap.size, 0, none⟩) 0 0) [] u A2 c2 0 L L rfl HO.out HKM.out rfl rfl HL.out HRM.out (Nat.zero_add _) (by omega) ?_; intro A5 c5 w5 hO5 hK5 hc5 hcm5; rw [List.nil_append] at hO5; obtain ⟨g, rfl⟩ := own_headI hO5.out HL.out h0; have hcell := own_cellI hO5.out HJ.out; rw [HXZ.out] at hcell; have hfr := own_frozenI hO5.out HL.out j)
      have HS5 := Lib.hid (own_setI (k := j) (z := z) hO5.out HL.out HX.out)
      have k5 := keep_ownI (k := j) hK5.out hO5.out (.int .u8 z)
      have HD5 := Lib.hid (decode_bad (some ⟨g, 0, none⟩) (u.set j (x ^^^ by_)) L c5 (w5.setCell ⟨g, j, none⟩ (.int .u8 z)) (own_rdI HS5.out) (by rw [List.length_set]; exact HL.out) hc5 hcm5 (by omega) (HT.out j _ (by rw [HL.out]; exact hj) (by
        obtain ⟨h1, h2⟩ := List.getElem?_eq_some_iff.1 HJ.out
        rw [h2]; exact xor_ne hby.out)))
      replace HR := Lib.hid (S.rd_n HR.out k5)
      replace gK := keepN gK k5
      clear HS5 hcell hfr HO HRM HKM HJ HX HXZ hO5 hK5 hc5 hcm5 k5
      refine HD5.out.mono ?_
      rintro e w6 ⟨X6, Y6, cx6, cy6, E6, rfl, hE6, k6⟩
      have kA := (Keep.refl NoB w6).alloc (.cells #[.slice X6 0 cx6, .slice Y6 0 cy6] 25)
      replace HR := Lib.hid (S.rd_n HR.out (keepN k6 kA))
      replace gK := keepN gK (keepN k6 kA)
      clear k6 kA HD5
      go_wp2_with fail
      have HD7 := Lib.hid (decode_bad A2 (u.take m) m c2 _ (rd_tk HR.out m) (by rw [List.length_take, HL.out]; omega) (by omega) hcm2 (by omega) (HC.out m (by rw [HL.out]; exact hm)))
      refine HD7.out.mono ?_
      rintro e w7 ⟨X7, Y7, cx7, cy7, E7, rfl, hE7, k7⟩
      have kA := (Keep.refl NoB w7).alloc (.cells #[.slice X7 0 cx7, .slice Y7 0 cy7] 25)
      replace HR := Lib.hid (S.rd_n HR.out (keepN k7 kA))
      replace gK := keepN gK (keepN k7 kA)
      clear k7 kA HD7
      have HO := Lib.hid ((made_ownI (w7.alloc (.cells #[.slice X7 0 cx7, .slice Y7 0 cy7] 25))).mono (O' := Fresh w) (fun k hk _ => Nat.le_trans gK.size hk))
      have kM := (Keep.refl NoB (w7.alloc (.cells #[.slice X7 0 cx7, .slice Y7 0 cy7] 25))).alloc (.cells #[] 5)
      have HRM := Lib.hid (S.rd_n HR.out kM)
      have HKM := Lib.hid (keepN gK kM)
      simp only [World.size_alloc] at HO
      clear kM
      go_wp2_with (first | (at_builtin; refine wpList_appN rfl (.tmp 78) (.tmp 79) rfl (.slice (some ⟨w7.heap.size + 1, 0, none⟩) 0 0) [] u A2 c2 0 L L rfl HO.out HKM.out rfl rfl HL.out HRM.out (Nat.zero_add _) (by omega) ?_; intro A8 c8 w8 hO8 hK8 hc8 hcm8; rw [List.nil_append] at hO8; have kN := (Keep.refl NoB w8).alloc (.cells #[.int .u8 (more.toNat : Int)] 5); have HO9 := Lib.hid (V.OwnB.keep hO8.out kN (fun _ _ => id)); have HK9 := Lib.hid (keepN hK8.out kN); have HY9 := Lib.hid (rd_one8 (w := w8) more); clear kN hO8 hK8 hc8 hcm8) | (at_builtin; refine wpList_appN rfl (.tmp 80) (.tmp 82) rfl (.slice A8 L c8) u [more] (some ⟨w8.heap.size, 0, none⟩) 1 L 1 (L + 1) rfl HO9.out HK9.out rfl HL.out rfl HY9.out rfl (by omega) ?_; intro A9 c9 w9 hO9 hK9 hc9 hcm9))
      refine (decode_bad A9 (u ++ [more]) (L + 1) c9 w9 (own_rdI hO9.out) (by rw [List.length_append, HL.out]; rfl) hc9 hcm9 (by omega) HM.out).mono ?_
      rintro e w10 ⟨X10, Y10, cx10, cy10, E10, rfl, hE10, k10⟩
      have hE11 : (E10 != 0) = true := by rw [bne, hE10]; rfl
      have HKF := Lib.hid (keepN hK9.out (k10.alloc (.cells #[.slice X10 0 cx10, .slice Y10 0 cy10] 25)))
      clear hE10 k10
      go_wp2
      go_ret
      exact ⟨rfl, HKF.out⟩

end Go.Proofs.YtgifflfjhockaaaGreatDoor.I

namespace Go.Proofs.YtgifflfjhockaaaGreatDoor.F
open Go.RowKit W

set_option maxRecDepth 100000 in
set_option maxHeartbeats 8000000 in
theorem equalI_any (A B : Option Addr) (la lb : List C.I3) (n m c d : Nat) (w : World) (ha : Rd w A (C.iis la)) (hb : Rd w B (C.iis lb)) (hn : Hid (la.length = n)) (hm : Hid (lb.length = m))
    (h1 : n ≤ 9223372036854775807) (h2 : m ≤ 9223372036854775807) (R : Bool) (hR : Hid (R = decide (la = lb))) :
    Calls Tryz.prog 107 #[.slice A n c, .slice B m d] w fun e w' => e = .returned (.bool R) ∧ Keep NoB w w' := by
  by_cases hnm : n = m
  · subst hnm
    go_enter Tryz.func107, Tryz.ntmps107
    go_wp2
    go_loopw [13] (fun i wr => ∃ k : Nat, k ≤ n ∧ i = .int .i64 k ∧ Hid (la.take k = lb.take k) ∧ Keep NoB w wr) (fun i _ => n - (intOf i).toNat)
    case atStart => exact ⟨0, Nat.zero_le _, rfl, rfl, Keep.refl _ _⟩
    case round =>
      obtain ⟨k, hk, rfl, ht, hK⟩ := hrel
      by_cases hlt : k < n
      · have hka : k < la.length := by rw [hn.out]; exact hlt
        have hkb : k < lb.length := by rw [hm.out]; exact hlt
        obtain ⟨ga, oa, rfl, hca⟩ := C.rdJ_at ha (by omega)
        obtain ⟨gb, ob, rfl, hcb⟩ := C.rdJ_at hb (by omega)
        have ca0 := hK.cell (hca k hka).1 id
        have ca1 := hK.cell (hca k hka).2.1 id
        have ca2 := hK.cell (hca k hka).2.2 id
        have cb0 := hK.cell (hcb k hkb).1 id
        have cb1 := hK.cell (hcb k hkb).2.1 id
        have cb2 := hK.cell (hcb k hkb).2.2 id
        have HT := Lib.hid (show la.take (k + 1) = la.take k ++ [la[k]] from List.take_succ_eq_append_getElem hka)
        have HU := Lib.hid (show lb.take (k + 1) = lb.take k ++ [lb[k]] from List.take_succ_eq_append_getElem hkb)
        clear hca hcb
        by_cases he : la[k] = lb[k]
        · have HV : Hid (la.take (k + 1) = lb.take (k + 1)) := by show _ = _; rw [HT.out, HU.out, ht.out, he]
          rw [he] at ca0 ca1 ca2
          clear he HT HU ha hb
          generalize lb[k] = y at ca0 ca1 ca2 cb0 cb1 cb2
          obtain ⟨y0, y1, y2⟩ := y
          dsimp only at ca0 ca1 ca2 cb0 cb1 cb2
          go_wp2
          go_quiet (fail)
          go_wp2
          go_roundw
          case rel => exact ⟨k + 1, by omega, by go_num, HV, hK.drewN _⟩
          case measure => simp [intOf]; omega
        · have hf : R = false := by
            rw [hR.out, decide_eq_false_iff_not]
            intro e
            exact he (by simp [e])
          subst hf
          clear HT HU ha hb
          generalize la[k] = x at ca0 ca1 ca2 he
          generalize lb[k] = y at cb0 cb1 cb2 he
          obtain ⟨x0, x1, x2⟩ := x
          obtain ⟨y0, y1, y2⟩ := y
          dsimp only at ca0 ca1 ca2 cb0 cb1 cb2
          by_cases h0 : x0 = y0
          · subst h0
            by_cases h3 : x1 = y1
            · subst h3
              have hne : (x2 == y2) = false := by rw [beq_eq_false_iff_ne]; rintro rfl; exact he rfl
              clear he
              go_wp2
              go_quiet (fail)
              go_wp2
              go_ret
              exact ⟨rfl, hK.drewN _⟩
            · have hne : (x1 == y1) = false := by rw [beq_eq_false_iff_ne]; exact h3
              clear he h3
              go_wp2
              go_quiet (fail)
              go_wp2
              go_ret
              exact ⟨rfl, hK.drewN _⟩
          · have hne : (x0 == y0) = false := by rw [beq_eq_false_iff_ne]; exact h0
            clear he h0
            go_wp2
            go_quiet (fail)
            go_wp2
            go_ret
            exact ⟨rfl, hK.drewN _⟩
      · have hf : R = true := by
          rw [hR.out, decide_eq_true_iff]
          have e1 := ht.out
          rwa [List.take_of_length_le (by rw [hn.out]; omega), List.take_of_length_le (by rw [hm.out]; omega)] at e1
        subst hf
        go_wp2
        go_ret
        exact ⟨rfl, hK⟩
  · have hf : R = false := by
      rw [hR.out, decide_eq_false_iff_not]
      intro e
      exact hnm (by rw [← hn.out, ← hm.out, e])
    subst hf
    have hne : ((n : Int) != (m : Int)) = true := by rw [bne_iff_ne]; omega
    clear hnm
    go_enter Tryz.func107, Tryz.ntmps107
    go_wp2
    go_ret
    exact ⟨rfl, Keep.refl _ _⟩

theorem retB {a b : Bool} (h : a = b) : Ending.returned (.bool a) = .returned (.bool b) := by rw [h]
theorem same_bits (f g : Fu) : sameF f g = (decide (f.nm = g.nm) && (decide (f.ar = g.ar ∧ f.rs = g.rs) && (decide (f.lc = g.lc) && decide (f.bd = g.bd)))) := by
  unfold sameF
  simp only [Bool.decide_and]
theorem name_eq {S T : ByteArray} {s t : List UInt8} (hS : S.data.toList = s) (hT : T.data.toList = t) : (S.toList == T.toList) = decide (s = t) := by
  subst hS hT
  rw [ByteArray.toList_eq, ByteArray.toList_eq]
  by_cases h : S.data.toList = T.data.toList
  · rw [decide_eq_true h, h]; exact beq_self_eq_true _
  · rw [decide_eq_false h]; exact beq_eq_false_iff_ne.2 h

set_option maxRecDepth 100000 in
set_option maxHeartbeats 8000000 in
theorem sameF_any (v : FV) (f : Fu) (u : FV) (g : Fu) (w : World) (h : FnAt w v f) (h2 : FnAt w u g) (hs : SmF v) (hs2 : SmF u) :
    Calls Tryz.prog 66 #[v.val, u.val] w fun e w' => e = .returned (.bool (sameF f g)) ∧ Keep NoB w w' := by
  have bx := (Blk.new w 61 v.cells).alloc (.cells u.cells 61)
  have by1 := Blk.new (w.alloc (.cells v.cells 61)) 61 u.cells
  have k0 := ((Keep.refl NoB w).alloc (.cells v.cells 61)).alloc (.cells u.cells 61)
  rw [World.size_alloc] at by1
  have HF := Lib.hid (h.keepN k0)
  have HG := Lib.hid (h2.keepN k0)
  have HX := Lib.hid bx
  have HY := Lib.hid by1
  have HR := Lib.hid (same_bits f g)
  have HN := name_eq h.nm h2.nm
  have HS := Lib.hid (fun w1 hk => S.same_any v.A f.ar v.na v.ca v.B f.rs v.nb v.cb u.A g.ar u.na u.ca u.B g.rs u.nb u.cb w1 (HF.out.keepN hk).ra (HF.out.keepN hk).rb (HG.out.keepN hk).ra (HG.out.keepN hk).rb h.la h.lb h2.la h2.lb (by have := hs.na; omega) (by have := hs.nb; omega) (by have := hs2.na; omega) (by have := hs2.nb; omega) _ rfl)
  have HL := Lib.hid (fun w1 hk => S.equal_any v.L u.L f.lc g.lc v.nl u.nl v.cl u.cl w1 (HF.out.keepN hk).rl (HG.out.keepN hk).rl h.ll h2.ll (by have := hs.nl; omega) (by have := hs2.nl; omega) _ rfl)
  have HD := Lib.hid (fun w1 hk => equalI_any v.D u.D f.bd g.bd v.nd u.nd v.cd u.cd w1 (HF.out.keepN hk).rd (HG.out.keepN hk).rd h.ld h2.ld (by have := hs.nd; omega) (by have := hs2.nd; omega) _ rfl)
  generalize sameF f g = R at HR ⊢
  generalize decide (f.nm = g.nm) = b0 at HR HN
  generalize decide (f.ar = g.ar ∧ f.rs = g.rs) = b1 at HR HS
  generalize decide (f.lc = g.lc) = b2 at HR HL
  generalize decide (f.bd = g.bd) = b3 at HR HD
  obtain ⟨s0, A, na, ca, B, nb, cb, L, nl, cl, D, nd, cd⟩ := v
  obtain ⟨s1, A1, na1, ca1, B1, nb1, cb1, L1, nl1, cl1, D1, nd1, cd1⟩ := u
  unfold FV.val FV.cells at *
  dsimp only at HN HS HL HD
  clear h h2 hs hs2 bx by1 HF HG
  cases b0
  · go_enter Tryz.func66, Tryz.ntmps66
    obtain ⟨c0, c1, c2, c3, c4⟩ := blk5 (v := ⟨s0, A, na, ca, B, nb, cb, L, nl, cl, D, nd, cd⟩) HX.out
    obtain ⟨d0, d1, d2, d3, d4⟩ := blk5 (v := ⟨s1, A1, na1, ca1, B1, nb1, cb1, L1, nl1, cl1, D1, nd1, cd1⟩) HY.out
    dsimp only at c0 c1 c2 c3 c4 d0 d1 d2 d3 d4
    go_wp2
    go_ret
    exact ⟨retB HR.out.symm, k0⟩
  · cases b1
    · go_enter Tryz.func66, Tryz.ntmps66
      obtain ⟨c0, c1, c2, c3, c4⟩ := blk5 (v := ⟨s0, A, na, ca, B, nb, cb, L, nl, cl, D, nd, cd⟩) HX.out
      obtain ⟨d0, d1, d2, d3, d4⟩ := blk5 (v := ⟨s1, A1, na1, ca1, B1, nb1, cb1, L1, nl1, cl1, D1, nd1, cd1⟩) HY.out
      dsimp only at c0 c1 c2 c3 c4 d0 d1 d2 d3 d4
      go_wp2_with fail
      refine (HS.out _ (Keep.refl _ _)).mono ?_
      rintro e w1 ⟨rfl, k1⟩
      go_wp2
      go_ret
      exact ⟨retB HR.out.symm, keepN k0 k1⟩
    · cases b2
      · go_enter Tryz.func66, Tryz.ntmps66
        obtain ⟨c0, c1, c2, c3, c4⟩ := blk5 (v := ⟨s0, A, na, ca, B, nb, cb, L, nl, cl, D, nd, cd⟩) HX.out
        obtain ⟨d0, d1, d2, d3, d4⟩ := blk5 (v := ⟨s1, A1, na1, ca1, B1, nb1, cb1, L1, nl1, cl1, D1, nd1, cd1⟩) HY.out
        dsimp only at c0 c1 c2 c3 c4 d0 d1 d2 d3 d4
        go_wp2_with fail
        refine (HS.out _ (Keep.refl _ _)).mono ?_
        rintro e w1 ⟨rfl, k1⟩
        clear c0 c1 c2 c3 c4 d0 d1 d2 d3 d4
        obtain ⟨c0, c1, c2, c3, c4⟩ := blk5 (v := ⟨s0, A, na, ca, B, nb, cb, L, nl, cl, D, nd, cd⟩) (HX.out.keep k1 id)
        obtain ⟨d0, d1, d2, d3, d4⟩ := blk5 (v := ⟨s1, A1, na1, ca1, B1, nb1, cb1, L1, nl1, cl1, D1, nd1, cd1⟩) (HY.out.keep k1 id)
        dsimp only at c0 c1 c2 c3 c4 d0 d1 d2 d3 d4
        go_wp2_with fail
        refine (HL.out _ k1).mono ?_
        rintro e w2 ⟨rfl, k2⟩
        replace k2 := keepN k1 k2
        go_wp2
        go_ret
        exact ⟨retB HR.out.symm, keepN k0 k2⟩
      · cases b3
        · go_enter Tryz.func66, Tryz.ntmps66
          obtain ⟨c0, c1, c2, c3, c4⟩ := blk5 (v := ⟨s0, A, na, ca, B, nb, cb, L, nl, cl, D, nd, cd⟩) HX.out
          obtain ⟨d0, d1, d2, d3, d4⟩ := blk5 (v := ⟨s1, A1, na1, ca1, B1, nb1, cb1, L1, nl1, cl1, D1, nd1, cd1⟩) HY.out
          dsimp only at c0 c1 c2 c3 c4 d0 d1 d2 d3 d4
          go_wp2_with fail
          refine (HS.out _ (Keep.refl _ _)).mono ?_
          rintro e w1 ⟨rfl, k1⟩
          clear c0 c1 c2 c3 c4 d0 d1 d2 d3 d4
          obtain ⟨c0, c1, c2, c3, c4⟩ := blk5 (v := ⟨s0, A, na, ca, B, nb, cb, L, nl, cl, D, nd, cd⟩) (HX.out.keep k1 id)
          obtain ⟨d0, d1, d2, d3, d4⟩ := blk5 (v := ⟨s1, A1, na1, ca1, B1, nb1, cb1, L1, nl1, cl1, D1, nd1, cd1⟩) (HY.out.keep k1 id)
          dsimp only at c0 c1 c2 c3 c4 d0 d1 d2 d3 d4
          go_wp2_with fail
          refine (HL.out _ k1).mono ?_
          rintro e w2 ⟨rfl, k2⟩
          replace k2 := keepN k1 k2
          clear c0 c1 c2 c3 c4 d0 d1 d2 d3 d4
          obtain ⟨c0, c1, c2, c3, c4⟩ := blk5 (v := ⟨s0, A, na, ca, B, nb, cb, L, nl, cl, D, nd, cd⟩) (HX.out.keep k2 id)
          obtain ⟨d0, d1, d2, d3, d4⟩ := blk5 (v := ⟨s1, A1, na1, ca1, B1, nb1, cb1, L1, nl1, cl1, D1, nd1, cd1⟩) (HY.out.keep k2 id)
          dsimp only at c0 c1 c2 c3 c4 d0 d1 d2 d3 d4
          go_wp2_with fail
          refine (HD.out _ k2).mono ?_
          rintro e w3 ⟨rfl, k3⟩
          replace k3 := keepN k2 k3
          go_wp2
          go_ret
          exact ⟨retB HR.out.symm, keepN k0 k3⟩
        · go_enter Tryz.func66, Tryz.ntmps66
          obtain ⟨c0, c1, c2, c3, c4⟩ := blk5 (v := ⟨s0, A, na, ca, B, nb, cb, L, nl, cl, D, nd, cd⟩) HX.out
          obtain ⟨d0, d1, d2, d3, d4⟩ := blk5 (v := ⟨s1, A1, na1, ca1, B1, nb1, cb1, L1, nl1, cl1, D1, nd1, cd1⟩) HY.out
          dsimp only at c0 c1 c2 c3 c4 d0 d1 d2 d3 d4
          go_wp2_with fail
          refine (HS.out _ (Keep.refl _ _)).mono ?_
          rintro e w1 ⟨rfl, k1⟩
          clear c0 c1 c2 c3 c4 d0 d1 d2 d3 d4
          obtain ⟨c0, c1, c2, c3, c4⟩ := blk5 (v := ⟨s0, A, na, ca, B, nb, cb, L, nl, cl, D, nd, cd⟩) (HX.out.keep k1 id)
          obtain ⟨d0, d1, d2, d3, d4⟩ := blk5 (v := ⟨s1, A1, na1, ca1, B1, nb1, cb1, L1, nl1, cl1, D1, nd1, cd1⟩) (HY.out.keep k1 id)
          dsimp only at c0 c1 c2 c3 c4 d0 d1 d2 d3 d4
          go_wp2_with fail
          refine (HL.out _ k1).mono ?_
          rintro e w2 ⟨rfl, k2⟩
          replace k2 := keepN k1 k2
          clear c0 c1 c2 c3 c4 d0 d1 d2 d3 d4
          obtain ⟨c0, c1, c2, c3, c4⟩ := blk5 (v := ⟨s0, A, na, ca, B, nb, cb, L, nl, cl, D, nd, cd⟩) (HX.out.keep k2 id)
          obtain ⟨d0, d1, d2, d3, d4⟩ := blk5 (v := ⟨s1, A1, na1, ca1, B1, nb1, cb1, L1, nl1, cl1, D1, nd1, cd1⟩) (HY.out.keep k2 id)
          dsimp only at c0 c1 c2 c3 c4 d0 d1 d2 d3 d4
          go_wp2_with fail
          refine (HD.out _ k2).mono ?_
          rintro e w3 ⟨rfl, k3⟩
          replace k3 := keepN k2 k3
          go_wp2
          go_ret
          exact ⟨retB HR.out.symm, keepN k0 k3⟩

end Go.Proofs.YtgifflfjhockaaaGreatDoor.F

namespace Go.Proofs.YtgifflfjhockaaaGreatDoor.I
open Go.RowKit W

theorem map_take_step {α β : Type} {f : α → β} {pa pb : List α} {j : Nat} (h : (pa.map f).take j = (pb.map f).take j) (ha : j < pa.length) (hb : j < pb.length) (he : f pa[j] = f pb[j]) : (pa.map f).take (j + 1) = (pb.map f).take (j + 1) := by
  rw [List.take_succ_eq_append_getElem (by simpa using ha), List.take_succ_eq_append_getElem (by simpa using hb), h]; simp [he]
theorem map_ne {α β : Type} {f : α → β} {pa pb : List α} {j : Nat} (ha : j < pa.length) (hb : j < pb.length) (he : f pa[j] ≠ f pb[j]) : pa.map f ≠ pb.map f := by
  intro h
  have : (pa.map f)[j]? = (pb.map f)[j]? := by rw [h]
  rw [List.getElem?_map, List.getElem?_map, List.getElem?_eq_getElem ha, List.getElem?_eq_getElem hb] at this
  exact he (Option.some.inj this)
theorem map_all {α β : Type} {f : α → β} {pa pb : List α} {j : Nat} (h : (pa.map f).take j = (pb.map f).take j) (ha : pa.length = j) (hb : pb.length = j) : pa.map f = pb.map f := by
  rwa [List.take_of_length_le (by simp [ha]), List.take_of_length_le (by simp [hb])] at h

set_option maxRecDepth 100000 in
set_option maxHeartbeats 2000000 in
theorem equalSh_any (A B : Option Addr) (la lb : List Int) (n m c d : Nat) (w : World) (ha : Rd w A (ivs la)) (hb : Rd w B (ivs lb)) (hn : Hid (la.length = n)) (hm : Hid (lb.length = m))
    (h1 : n ≤ 9223372036854775807) (h2 : m ≤ 9223372036854775807) (R : Bool) (hR : Hid (R = decide (la = lb))) :
    Calls Tryz.prog 64 #[.slice A n c, .slice B m d] w fun e w' => e = .returned (.bool R) ∧ Keep NoB w w' := by
  by_cases hnm : n = m
  · subst hnm
    go_enter Tryz.func64, Tryz.ntmps64
    go_wp2
    go_loopw [13] (fun i wr => ∃ k : Nat, k ≤ n ∧ i = .int .i64 k ∧ Hid (la.take k = lb.take k) ∧ Keep NoB w wr) (fun i _ => n - (intOf i).toNat)
    case atStart => exact ⟨0, Nat.zero_le _, rfl, rfl, Keep.refl _ _⟩
    case round =>
      obtain ⟨k, hk, rfl, ht, hK⟩ := hrel
      by_cases hlt : k < n
      · have hka : k < la.length := by rw [hn.out]; exact hlt
        have hkb : k < lb.length := by rw [hm.out]; exact hlt
        obtain ⟨ga, oa, rfl, hca⟩ := rdI_at ha (by omega)
        obtain ⟨gb, ob, rfl, hcb⟩ := rdI_at hb (by omega)
        have ca := hK.cell (hca k hka) id
        have cb := hK.cell (hcb k hkb) id
        have HT := Lib.hid (show la.take (k + 1) = la.take k ++ [la[k]] from List.take_succ_eq_append_getElem hka)
        have HU := Lib.hid (show lb.take (k + 1) = lb.take k ++ [lb[k]] from List.take_succ_eq_append_getElem hkb)
        clear hca hcb
        by_cases he : la[k] = lb[k]
        · have HV : Hid (la.take (k + 1) = lb.take (k + 1)) := by show _ = _; rw [HT.out, HU.out, ht.out, he]
          rw [he] at ca
          clear he HT HU ha hb
          generalize lb[k] = y at ca cb
          go_wp2
          go_quiet (fail)
          go_wp2
          go_roundw
          case rel => exact ⟨k + 1, by omega, by go_num, HV, hK.drewN _⟩
          case measure => simp [intOf]; omega
        · have hf : R = false := by
            rw [hR.out, decide_eq_false_iff_not]
            intro e
            exact he (by simp [e])
          subst hf
          clear HT HU ha hb
          generalize la[k] = x at ca he
          generalize lb[k] = y at cb he
          have hne : (x != y) = true := by rw [bne_iff_ne]; exact he
          clear he
          go_wp2
          go_quiet (fail)
          go_wp2
          go_ret
          exact ⟨rfl, hK.drewN _⟩
      · have hf : R = true := by
          rw [hR.out, decide_eq_true_iff]
          have e1 := ht.out
          rwa [List.take_of_length_le (by rw [hn.out]; omega), List.take_of_length_le (by rw [hm.out]; omega)] at e1
        subst hf
        go_wp2
        go_ret
        exact ⟨rfl, hK⟩
  · have hf : R = false := by
      rw [hR.out, decide_eq_false_iff_not]
      intro e
      exact hnm (by rw [← hn.out, ← hm.out, e])
    subst hf
    have hne : ((n : Int) != (m : Int)) = true := by rw [bne_iff_ne]; omega
    clear hnm
    go_enter Tryz.func64, Tryz.ntmps64
    go_wp2
    go_ret
    exact ⟨rfl, Keep.refl _ _⟩

set_option maxRecDepth 100000 in
set_option maxHeartbeats 4000000 in
theorem eqfnS_any (A B : Option Addr) (pa pb : List SE) (n m c d k : Nat) (w : World) (hcf : ∀ args w, (callFunc k args).run Tryz.prog w = .ok (.enter k args) w) (hra : Hid (∀ W, Keep NoB w W → Rd W A (svs pa))) (hrb : Hid (∀ W, Keep NoB w W → Rd W B (svs pb)))
    (hn : Hid (pa.length = n)) (hm : Hid (pb.length = m)) (hn1 : n ≤ 140737488355328) (hm1 : m ≤ 140737488355328)
    (hq : Hid (∀ i (h : i < pa.length) (h' : i < pb.length) W, Keep NoB w W → Calls Tryz.prog k #[pa[i].1.val, pb[i].1.val] W fun e W' => e = .returned (.bool (decide (pa[i].2 = pb[i].2))) ∧ Keep NoB W W')) (R : Bool) (hR : Hid (R = decide ((pa.map fun e => e.2) = pb.map fun e => e.2))) :
    Calls Tryz.prog 63 #[.slice A n c, .slice B m d, .func (.func k) #[] #[]] w fun e w' => e = .returned (.bool R) ∧ Keep NoB w w' := by
  by_cases hnm : n = m
  · subst hnm
    go_enter Tryz.func63, Tryz.ntmps63
    go_wp2
    go_loopw [17] (fun i wr => ∃ j : Nat, j ≤ n ∧ i = .int .i64 j ∧ Hid ((pa.map fun e => e.2).take j = (pb.map fun e => e.2).take j) ∧ Keep NoB w wr) (fun i _ => n - (intOf i).toNat)
    case atStart => exact ⟨0, Nat.zero_le _, rfl, rfl, Keep.refl _ _⟩
    case round =>
      obtain ⟨j, hj, rfl, ht, hK⟩ := hrel
      by_cases hlt : j < n
      · have hja : j < pa.length := by rw [hn.out]; exact hlt
        have hjb : j < pb.length := by rw [hm.out]; exact hlt
        obtain ⟨ga, oa, rfl, c0⟩ := shape_at (hra.out _ hK) hja
        obtain ⟨gb, ob, rfl, d0⟩ := shape_at (hrb.out _ hK) hjb
        have HQ := Lib.hid (fun W hk => hq.out j hja hjb W (keepN hK hk))
        have HY := Lib.hid (fun he => map_take_step ht.out hja hjb he)
        have HN := Lib.hid (fun he => map_ne (f := fun e : SE => e.2) hja hjb he)
        clear ht
        generalize pa[j] = ea at c0 HQ HY HN
        generalize pb[j] = eb at d0 HQ HY HN
        obtain ⟨⟨A1, n1, e1⟩, l1⟩ := ea
        obtain ⟨⟨A2, n2, e2⟩, l2⟩ := eb
        dsimp only [SV.val] at c0 d0 HQ HY HN
        by_cases he : l1 = l2
        · have HV := Lib.hid (HY.out he)
          rw [decide_eq_true he] at HQ
          clear HY HN he
          go_wp2_with fail
          refine (HQ.out _ (Keep.refl _ _)).mono ?_
          rintro e w1 ⟨rfl, k1⟩
          have hK1 := keepN hK (keepN (Keep.refl _ _) k1)
          go_wp2
          go_roundw
          case rel => exact ⟨j + 1, by omega, by go_num, HV, hK1⟩
          case measure => simp [intOf]; omega
        · obtain rfl : R = false := by rw [hR.out, decide_eq_false_iff_not]; exact HN.out he
          rw [decide_eq_false he] at HQ
          clear HY HN he hR
          go_wp2_with fail
          refine (HQ.out _ (Keep.refl _ _)).mono ?_
          rintro e w1 ⟨rfl, k1⟩
          have hK1 := keepN hK (keepN (Keep.refl _ _) k1)
          go_wp2
          go_ret
          exact ⟨rfl, hK1⟩
      · obtain rfl : j = n := by omega
        obtain rfl : R = true := by rw [hR.out, decide_eq_true_iff]; exact map_all ht.out hn.out hm.out
        clear hR
        go_wp2
        go_ret
        exact ⟨rfl, hK⟩
  · obtain rfl : R = false := by
      rw [hR.out, decide_eq_false_iff_not]
      intro e
      have := congrArg List.length e
      rw [List.length_map, List.length_map, hn.out, hm.out] at this
      exact hnm this
    have hne : ((n : Int) != (m : Int)) = true := by rw [bne_iff_ne]; omega
    clear hnm hR
    go_enter Tryz.func63, Tryz.ntmps63
    go_wp2
    go_ret
    exact ⟨rfl, Keep.refl _ _⟩

set_option maxRecDepth 100000 in
set_option maxHeartbeats 4000000 in
theorem eqfnF_any (A B : Option Addr) (pa pb : List FE) (n m c d k : Nat) (w : World) (hcf : ∀ args w, (callFunc k args).run Tryz.prog w = .ok (.enter k args) w) (hra : Hid (∀ W, Keep NoB w W → Rd W A (fvs pa))) (hrb : Hid (∀ W, Keep NoB w W → Rd W B (fvs pb)))
    (hn : Hid (pa.length = n)) (hm : Hid (pb.length = m)) (hn1 : n ≤ 140737488355328) (hm1 : m ≤ 140737488355328)
    (hq : Hid (∀ i (h : i < pa.length) (h' : i < pb.length) W, Keep NoB w W → Calls Tryz.prog k #[pa[i].1.val, pb[i].1.val] W fun e W' => e = .returned (.bool (decide (pa[i].2 = pb[i].2))) ∧ Keep NoB W W')) (R : Bool) (hR : Hid (R = decide ((pa.map fun e => e.2) = pb.map fun e => e.2))) :
    Calls Tryz.prog 65 #[.slice A n c, .slice B m d, .func (.func k) #[] #[]] w fun e w' => e = .returned (.bool R) ∧ Keep NoB w w' := by
  by_cases hnm : n = m
  · subst hnm
    go_enter Tryz.func65, Tryz.ntmps65
    go_wp2
    go_loopw [17] (fun i wr => ∃ j : Nat, j ≤ n ∧ i = .int .i64 j ∧ Hid ((pa.map fun e => e.2).take j = (pb.map fun e => e.2).take j) ∧ Keep NoB w wr) (fun i _ => n - (intOf i).toNat)
    case atStart => exact ⟨0, Nat.zero_le _, rfl, rfl, Keep.refl _ _⟩
    case round =>
      obtain ⟨j, hj, rfl, ht, hK⟩ := hrel
      by_cases hlt : j < n
      · have hja : j < pa.length := by rw [hn.out]; exact hlt
        have hjb : j < pb.length := by rw [hm.out]; exact hlt
        obtain ⟨ga, oa, rfl, c0, c1, c2, c3, c4⟩ := fun_at (hra.out _ hK) hja
        obtain ⟨gb, ob, rfl, d0, d1, d2, d3, d4⟩ := fun_at (hrb.out _ hK) hjb
        have HQ := Lib.hid (fun W hk => hq.out j hja hjb W (keepN hK hk))
        have HY := Lib.hid (fun he => map_take_step ht.out hja hjb he)
        have HN := Lib.hid (fun he => map_ne (f := fun e : FE => e.2) hja hjb he)
        clear ht
        generalize pa[j] = ea at c0 c1 c2 c3 c4 HQ HY HN
        generalize pb[j] = eb at d0 d1 d2 d3 d4 HQ HY HN
        obtain ⟨⟨S1, A1, na1, ca1, B1, nb1, cb1, L1, nl1, cl1, D1, nd1, cd1⟩, l1⟩ := ea
        obtain ⟨⟨S2, A2, na2, ca2, B2, nb2, cb2, L2, nl2, cl2, D2, nd2, cd2⟩, l2⟩ := eb
        dsimp only [F.FV.val, F.FV.cells] at c0 c1 c2 c3 c4 d0 d1 d2 d3 d4 HQ HY HN
        have kA := (Keep.refl NoB wr).alloc (.cells #[.string S1, .slice A1 na1 ca1, .slice B1 nb1 cb1, .slice L1 nl1 cl1, .slice D1 nd1 cd1] 61)
        have kB := kA.alloc (.cells #[.string S2, .slice A2 na2 ca2, .slice B2 nb2 cb2, .slice L2 nl2 cl2, .slice D2 nd2 cd2] 61)
        have f0 := kA.cell d0 id
        have f1 := kA.cell d1 id
        have f2 := kA.cell d2 id
        have f3 := kA.cell d3 id
        have f4 := kA.cell d4 id
        obtain ⟨g0, g1, g2, g3, g4⟩ := F.blk5 (v := ⟨S1, A1, na1, ca1, B1, nb1, cb1, L1, nl1, cl1, D1, nd1, cd1⟩) ((Blk.new wr 61 #[.string S1, .slice A1 na1 ca1, .slice B1 nb1 cb1, .slice L1 nl1 cl1, .slice D1 nd1 cd1]).alloc (.cells #[.string S2, .slice A2 na2 ca2, .slice B2 nb2 cb2, .slice L2 nl2 cl2, .slice D2 nd2 cd2] 61))
        dsimp only at g0 g1 g2 g3 g4
        by_cases he : l1 = l2
        · have HV := Lib.hid (HY.out he)
          rw [decide_eq_true he] at HQ
          clear HY HN he
          go_wp2_with fail
          refine (HQ.out _ kB).mono ?_
          rintro e w1 ⟨rfl, k1⟩
          have hK1 := keepN hK (keepN kB k1)
          go_wp2
          go_roundw
          case rel => exact ⟨j + 1, by omega, by go_num, HV, hK1⟩
          case measure => simp [intOf]; omega
        · obtain rfl : R = false := by rw [hR.out, decide_eq_false_iff_not]; exact HN.out he
          rw [decide_eq_false he] at HQ
          clear HY HN he hR
          go_wp2_with fail
          refine (HQ.out _ kB).mono ?_
          rintro e w1 ⟨rfl, k1⟩
          have hK1 := keepN hK (keepN kB k1)
          go_wp2
          go_ret
          exact ⟨rfl, hK1⟩
      · obtain rfl : j = n := by omega
        obtain rfl : R = true := by rw [hR.out, decide_eq_true_iff]; exact map_all ht.out hn.out hm.out
        clear hR
        go_wp2
        go_ret
        exact ⟨rfl, hK⟩
  · obtain rfl : R = false := by
      rw [hR.out, decide_eq_false_iff_not]
      intro e
      have := congrArg List.length e
      rw [List.length_map, List.length_map, hn.out, hm.out] at this
      exact hnm this
    have hne : ((n : Int) != (m : Int)) = true := by rw [bne_iff_ne]; omega
    clear hnm hR
    go_enter Tryz.func65, Tryz.ntmps65
    go_wp2
    go_ret
    exact ⟨rfl, Keep.refl _ _⟩

theorem sameI_of (es gs : List SE) (fs hs : List FE) : sameI (imOf es fs) (imOf gs hs) = (decide ((es.map fun e => e.2) = gs.map fun e => e.2) && decide ((fs.map fun e => e.2) = hs.map fun e => e.2)) := by
  unfold sameI imOf; dsimp only; rw [Bool.decide_and]
theorem ImAt.shp {w : World} {v : IV} {es : List SE} {fs : List FE} (h : ImAt w v es fs) {i : Nat} (hi : i < es.length) : Rd w es[i].1.A (ivs es[i].2) ∧ es[i].2.length = es[i].1.n := h.hs _ (List.getElem_mem hi)
theorem ImAt.fun_ {w : World} {v : IV} {es : List SE} {fs : List FE} (h : ImAt w v es fs) {i : Nat} (hi : i < fs.length) : F.FnAt w fs[i].1 fs[i].2 := h.hf _ (List.getElem_mem hi)
theorem sme {es : List SE} {fs : List FE} (h : SmI es fs) {i : Nat} (hi : i < es.length) : es[i].1.n ≤ 100 := h.sh _ (List.getElem_mem hi)
theorem smf {es : List SE} {fs : List FE} (h : SmI es fs) {i : Nat} (hi : i < fs.length) : F.SmF fs[i].1 := h.fn _ (List.getElem_mem hi)

set_option maxRecDepth 100000 in
set_option maxHeartbeats 4000000 in
theorem same_any (v u : IV) (es gs : List SE) (fs hs : List FE) (w : World) (h : ImAt w v es fs) (h2 : ImAt w u gs hs) (hs1 : SmI es fs) (hs2 : SmI gs hs) :
    Calls Tryz.prog 28 #[v.val, u.val] w fun e w' => e = .returned (.bool (sameI (imOf es fs) (imOf gs hs))) ∧ Keep NoB w w' := by
  have bx := (Blk.new w 25 v.cells).alloc (.cells u.cells 25)
  have by0 := Blk.new (w.alloc (.cells v.cells 25)) 25 u.cells
  have k0 := ((Keep.refl NoB w).alloc (.cells v.cells 25)).alloc (.cells u.cells 25)
  rw [World.size_alloc] at by0
  have hl := h.lx
  have hl2 := h.ly
  have hl3 := h2.lx
  have hl4 := h2.ly
  have n1 := hs1.ns
  have n2 := hs1.nf
  have n3 := hs2.ns
  have n4 := hs2.nf
  have HS := Lib.hid (fun W (hk : Keep NoB w W) => eqfnS_any v.X u.X es gs v.nx u.nx v.cx u.cx 64 W (enters_of Tryz.func64 (by kernel_rfl) rfl) (fun W' hk' => (h.keepN (keepN hk hk')).rx) (fun W' hk' => (h2.keepN (keepN hk hk')).rx) hl hl3 (by omega) (by omega)
    (fun i hi hi' W' hk' => equalSh_any es[i].1.A gs[i].1.A es[i].2 gs[i].2 es[i].1.n gs[i].1.n es[i].1.c gs[i].1.c W' ((h.keepN (keepN hk hk')).shp hi).1 ((h2.keepN (keepN hk hk')).shp hi').1 (h.shp hi).2 (h2.shp hi').2 (by have := sme hs1 hi; omega) (by have := sme hs2 hi'; omega) _ rfl) _ rfl)
  have HF := Lib.hid (fun W (hk : Keep NoB w W) => eqfnF_any v.Y u.Y fs hs v.ny u.ny v.cy u.cy 66 W (enters_of Tryz.func66 (by kernel_rfl) rfl) (fun W' hk' => (h.keepN (keepN hk hk')).ry) (fun W' hk' => (h2.keepN (keepN hk hk')).ry) hl2 hl4 (by omega) (by omega)
    (fun i hi hi' W' hk' => by
      have e : F.sameF fs[i].2 hs[i].2 = decide (fs[i].2 = hs[i].2) := by rw [Bool.eq_iff_iff, F.sameF_iff, decide_eq_true_iff]
      rw [← e]
      exact F.sameF_any fs[i].1 fs[i].2 hs[i].1 hs[i].2 W' ((h.keepN (keepN hk hk')).fun_ hi) ((h2.keepN (keepN hk hk')).fun_ hi') (smf hs1 hi) (smf hs2 hi')) _ rfl)
  rw [sameI_of]
  obtain ⟨x0, x1⟩ := blk2 bx
  obtain ⟨y0, y1⟩ := blk2 by0
  have HX := Lib.hid bx
  have HY := Lib.hid by0
  generalize decide ((es.map fun e => e.2) = gs.map fun e => e.2) = r1 at *
  generalize decide ((fs.map fun e => e.2) = hs.map fun e => e.2) = r2 at *
  clear h h2 hs1 hs2 hl hl2 hl3 hl4 n1 n2 n3 n4 bx by0
  obtain ⟨X, nx, cx, Y, ny, cy⟩ := v
  obtain ⟨X2, nx2, cx2, Y2, ny2, cy2⟩ := u
  dsimp only [IV.val, IV.cells] at *
  go_enter Tryz.func28, Tryz.ntmps28
  go_wp2_with fail
  refine (HS.out _ k0).mono ?_
  rintro e w1 ⟨rfl, k1⟩
  cases r1
  · go_wp2
    go_ret
    exact ⟨rfl, keepN k0 k1⟩
  · have hx := k1.cell x1 id
    have hy := k1.cell y1 id
    go_wp2_with fail
    refine (HF.out _ (keepN k0 k1)).mono ?_
    rintro e w2 ⟨rfl, k2⟩
    go_wp2
    go_ret
    exact ⟨by simp, keepN k0 (keepN k1 k2)⟩

end Go.Proofs.YtgifflfjhockaaaGreatDoor.I

namespace Go.Proofs.YtgifflfjhockaaaGreatDoor.I
open Go.RowKit W

theorem sm_ok {w : World} {v : IV} {es : List SE} {fs : List FE} (h : ImAt w v es fs) (ho : okI (imOf es fs) = true) : SmI es fs ∧ LgI v es fs := by
  obtain ⟨⟨h1, ⟨_, h2⟩, _⟩, h3, h4⟩ := (okI_iff _).1 ho
  refine sm_of h ⟨by simpa [imOf] using h1, by simpa [imOf] using h2, fun e he => List.all_eq_true.1 h3 _ ?_, fun e he => List.all_eq_true.1 h4 _ ?_⟩
  · exact List.mem_map.2 ⟨e, he, rfl⟩
  · exact List.mem_map.2 ⟨e, he, rfl⟩
theorem sameI_self (p : Im) : sameI p p = true := by unfold sameI; simp
/-- What Decode answers, what is read either an image's bytes or none. -/
theorem decode_yes (A : Option Addr) (l : List UInt8) (n c : Nat) (w : World) (hr : V.Rd w A l) (hn : l.length = n) (hc : n ≤ c) (hcm : c ≤ maxLen) (hlen : n ≤ 1073741824) (p : Im) (hE : decI l = (p, 0)) (ho : okI p = true) :
    Calls Tryz.prog 15 #[.slice A n c] w fun e w' => ∃ v es fs, e = .returned (.tuple #[v.val, .int .i64 0]) ∧ Hid (ImAt w' v es fs ∧ imOf es fs = p ∧ SmI es fs ∧ LgI v es fs) ∧ Keep NoB w w' := by
  subst hn
  refine (decode_any A l c w hr hc hcm hlen).mono ?_
  rw [hE]
  rintro e w' ⟨v, es, fs, rfl, hO, he, hk⟩
  have := sm_ok hO.im (by rw [he]; exact ho)
  exact ⟨v, es, fs, rfl, ⟨hO.im, he, this⟩, hk⟩
set_option maxRecDepth 100000 in
theorem pre_any (l : List UInt8) (h : l.take 5 = magicL) (w : World) :
    Calls Tryz.prog 32 #[.string (V.str l), .string ⟨#[98, 107, 115, 116, 1]⟩] w fun e w' => e = .returned (.bool true) ∧ w = w' := by
  have hl : 5 ≤ l.length := by
    have := congrArg List.length h
    rw [List.length_take] at this
    have h5 : magicL.length = 5 := rfl
    omega
  have hz : (V.str l).size = l.length := by unfold V.str; rfl
  have hx : (V.str l).extract 0 5 = ⟨#[98, 107, 115, 116, 1]⟩ := by
    apply ByteArray.ext
    rw [ByteArray.data_extract]
    show l.toArray.extract 0 5 = _
    apply Array.ext'
    rw [List.extract_toArray]
    simp only [List.extract_eq_take_drop, List.drop_zero, Nat.sub_zero, h]
    rfl
  obtain ⟨S, hS⟩ : ∃ S, V.str l = S := ⟨_, rfl⟩
  rw [hS] at hz hx ⊢
  have hs5 : (5 : Int) ≤ (S.size : Int) := by omega
  have HP : Hid (Calls Tryz.prog 67 #[.string S, .string ⟨#[98, 107, 115, 116, 1]⟩] w fun e w' => e = .returned (.bool true) ∧ w = w') := by
    show Calls _ _ _ _ _
    clear hS
    go_enter Tryz.func67, Tryz.ntmps67
    go_wp2
    go_ret
    exact ⟨rfl, rfl⟩
  clear hz hx hS
  go_enter Tryz.func32, Tryz.ntmps32
  go_wp2_with fail
  refine HP.out.mono ?_
  rintro e w1 ⟨rfl, rfl⟩
  go_wp2
  go_ret
  exact ⟨rfl, rfl⟩

set_option maxRecDepth 100000 in
set_option maxHeartbeats 1000000 in
theorem back_walk (v : IV) (es : List SE) (fs : List FE) (B : Option Addr) (b : List UInt8) (c : Nat) (w : World) (h : ImAt w v es fs) (hl : LgI v es fs) (hr : V.Rd w B b) (hc : b.length ≤ c) (hcm : c ≤ maxLen) :
    Calls Tryz.prog 6 #[v.val, .slice B b.length c] w fun e w' => e = .returned (.bool true) ∧ Keep NoB w w' := by
  have bx := Blk.new w 25 v.cells
  have gK := (Keep.refl NoB w).alloc (.cells v.cells 25)
  have HB := Lib.hid hr
  have HI := Lib.hid h
  have HE := Lib.hid (fun W (hk : Keep NoB w W) => encode_any v es fs W (h.keepN hk) hl)
  have HG := Lib.hid (fun W (hk : Keep NoB w W) => great_any v es fs W (h.keepN hk) hl)
  obtain ⟨n, hn⟩ : ∃ n, b.length = n := ⟨_, rfl⟩
  have HN := Lib.hid hn
  rw [hn] at hc ⊢
  clear h hl hr hn
  obtain ⟨X, nx, cx, Y, ny, cy⟩ := v
  dsimp only [IV.val, IV.cells] at *
  go_enter Tryz.func6, Tryz.ntmps6
  go_wp2_with fail
  refine (alive_any _).mono ?_
  rintro e w1 ⟨rfl, k1⟩
  replace bx := bx.keep k1 id
  replace gK := keepN gK k1
  clear k1
  obtain ⟨p0, p1⟩ := blk2 (v := ⟨X, nx, cx, Y, ny, cy⟩) bx
  dsimp only at p0 p1
  go_wp2_with fail
  refine (HG.out _ gK).mono ?_
  rintro e w2 ⟨hg, k2⟩
  replace bx := bx.keep k2 id
  replace gK := keepN gK k2
  clear k2 p0 p1 HG
  rcases hg with ⟨rfl, hg1, hg2⟩ | rfl
  rotate_left
  · clear bx
    go_wp2
    go_ret
    exact ⟨rfl, gK⟩
  clear hg2
  have HSM := Lib.hid hg1
  clear hg1
  by_cases hn2 : n ≤ 20000
  rotate_left
  · have hq : decide ((20000 : Int) < (n : Int)) = true := by rw [decide_eq_true_iff]; omega
    clear bx
    go_wp2
    go_ret
    exact ⟨rfl, gK⟩
  obtain ⟨p0, p1⟩ := blk2 (v := ⟨X, nx, cx, Y, ny, cy⟩) bx
  dsimp only at p0 p1
  go_wp2_with fail
  refine (HE.out _ gK).mono ?_
  rintro e w3 ⟨u3, rfl, h3, k3⟩
  replace bx := bx.keep k3 id
  replace gK := keepN gK k3
  clear k3 p0 p1 HE
  cases ho : okI (imOf es fs)
  · rw [chkI_no ho, encI_no ho] at *
    clear ho bx HSM HI
    obtain ⟨A3, c3, rfl, hc3, hr3, hadr, hcm3⟩ := h3.form
    clear h3 hc3 hr3 hadr hcm3
    replace HB := Lib.hid (S.rd_n HB.out gK)
    go_wp2_with fail
    rcases Classical.em ((decI b).2 = 0) with hE | hE
    rotate_left
    · refine (decode_no B b n c w3 HB.out HN.out hc hcm (by omega) (decI b).2 (Prod.ext (decI_bad hE) rfl)).mono ?_
      have hE1 : ((decI b).2 == 0) = false := beq_false_of_ne hE
      have hE2 : ((decI b).2 != 0) = true := by rw [bne, hE1]; rfl
      generalize (decI b).2 = E at *
      rintro e w7 ⟨X7, Y7, cx7, cy7, rfl, k7⟩
      have b7 := Blk.new w7 25 #[.slice X7 0 cx7, .slice Y7 0 cy7]
      have HKF := Lib.hid (keepN gK (k7.alloc (.cells #[.slice X7 0 cx7, .slice Y7 0 cy7] 25)))
      obtain ⟨r0, r1⟩ := blk2 (v := ⟨X7, 0, cx7, Y7, 0, cy7⟩) b7
      dsimp only at r0 r1
      clear k7 b7 hE hE1
      go_wp2
      go_ret
      exact ⟨rfl, HKF.out⟩
    · obtain ⟨hok, hbt⟩ := decI_ok hE
      refine (decode_yes B b n c w3 HB.out HN.out hc hcm (by omega) (decI b).1 (Prod.ext rfl hE) hok).mono ?_
      generalize (decI b).1 = q at *
      rintro e w7 ⟨v7, es7, fs7, rfl, H7, k7⟩
      have b7 := Blk.new w7 25 v7.cells
      have k7A := k7.alloc (.cells v7.cells 25)
      have HE7 := Lib.hid (encode_any v7 es7 fs7 (w7.alloc (.cells v7.cells 25)) (H7.out.1.keepN ((Keep.refl NoB w7).alloc _)) H7.out.2.2.2)
      rw [H7.out.2.1, chkI_ok hok, encI_ok hok, ← hbt] at HE7
      replace HB := Lib.hid (S.rd_n HB.out k7A)
      replace gK := keepN gK k7A
      clear k7 k7A H7 hok hbt hE
      obtain ⟨X7, nx7, cx7, Y7, ny7, cy7⟩ := v7
      dsimp only [IV.val, IV.cells] at *
      obtain ⟨r0, r1⟩ := blk2 (v := ⟨X7, nx7, cx7, Y7, ny7, cy7⟩) b7
      dsimp only at r0 r1
      clear b7
      go_wp2_with fail
      refine HE7.out.mono ?_
      rintro e w8 ⟨u8, rfl, h8, k8⟩
      obtain ⟨A8, c8, rfl, hc8, hr8, hadr, hcm8⟩ := h8.form
      have hcv8 := V.conv_rd (c := c8) hr8
      have hcvb := V.conv_rd (c := c) (S.rd_n HB.out k8)
      rw [HN.out] at hcv8 hcvb ⊢
      have HKF := Lib.hid (keepN gK k8)
      clear h8 hr8 hadr k8 HB HE7 r0 r1
      generalize V.str b = T at *
      go_wp2
      go_ret
      exact ⟨rfl, HKF.out⟩
  · rw [chkI_ok ho, encI_ok ho] at *
    have hlen : (bytesI (imOf es fs)).length ≤ 3000004 := by rw [bytesI_length]; have := inI_len ho; omega
    have h5 : (bytesI (imOf es fs)).take 5 = magicL := by unfold bytesI bodyI; rw [List.append_assoc]; exact List.take_left' rfl
    have HD := Lib.hid (decI_enc ho)
    have HO := Lib.hid ho
    have HPR := Lib.hid (fun W => pre_any _ h5 W)
    obtain ⟨A3, c3, rfl, hc3, hr3, hadr, hcm3⟩ := h3.form
    clear h3 hadr ho h5
    have HSMI := Lib.hid (fun W (hk : Keep NoB w W) => HI.out.keepN hk)
    clear HI
    generalize bytesI (imOf es fs) = u at *
    obtain ⟨L, hL⟩ : ∃ L, u.length = L := ⟨_, rfl⟩
    have HL := Lib.hid hL
    rw [hL] at hlen hc3
    have hcv := fun W (hk : Keep NoB w3 W) => V.conv_rd (c := c3) (S.rd_n hr3 hk)
    rw [hL] at hcv ⊢
    have HCV := Lib.hid hcv
    clear hL hcv
    obtain ⟨U, hU⟩ : ∃ U, V.str u = U := ⟨_, rfl⟩
    rw [hU] at HCV HPR
    clear hU
    go_wp2_with fail
    refine (decode_yes A3 u L c3 _ hr3 HL.out hc3 hcm3 (by omega) _ HD.out HO.out).mono ?_
    rintro e w4 ⟨v4, es4, fs4, rfl, H4, k4⟩
    have kA := (Keep.refl NoB w4).alloc (.cells v4.cells 25)
    have b4 := Blk.new w4 25 v4.cells
    have HS4 := Lib.hid (fun W (hk : Keep NoB w4 W) (hk2 : Keep NoB w W) => same_any v4 ⟨X, nx, cx, Y, ny, cy⟩ es4 es fs4 fs W (H4.out.1.keepN hk) (HSMI.out W hk2) H4.out.2.2.1 HSM.out)
    rw [H4.out.2.1, sameI_self] at HS4
    replace bx := bx.keep (keepN k4 kA) id
    replace gK := keepN gK (keepN k4 kA)
    have k3A := keepN k4 kA
    clear k4 H4 HD HO hr3
    obtain ⟨X4, nx4, cx4, Y4, ny4, cy4⟩ := v4
    dsimp only [IV.val, IV.cells] at *
    obtain ⟨p0, p1⟩ := blk2 (v := ⟨X, nx, cx, Y, ny, cy⟩) bx
    obtain ⟨r0, r1⟩ := blk2 (v := ⟨X4, nx4, cx4, Y4, ny4, cy4⟩) b4
    dsimp only at p0 p1 r0 r1
    go_wp2_with fail
    refine (HS4.out _ kA gK).mono ?_
    rintro e w5 ⟨rfl, k5⟩
    have hcv := HCV.out w5 (keepN k3A k5)
    replace gK := keepN gK k5
    clear k5 k3A kA HS4 bx b4 p0 p1 r0 r1 HCV HSMI HSM
    go_wp2_with fail
    refine (HPR.out _).mono ?_
    rintro e w6 ⟨rfl, rfl⟩
    clear hcv HPR
    replace HB := Lib.hid (S.rd_n HB.out gK)
    go_wp2_with fail
    rcases Classical.em ((decI b).2 = 0) with hE | hE
    rotate_left
    · refine (decode_no B b n c _ HB.out HN.out hc hcm (by omega) (decI b).2 (Prod.ext (decI_bad hE) rfl)).mono ?_
      have hE1 : ((decI b).2 == 0) = false := beq_false_of_ne hE
      have hE2 : ((decI b).2 != 0) = true := by rw [bne, hE1]; rfl
      generalize (decI b).2 = E at *
      rintro e w7 ⟨X7, Y7, cx7, cy7, rfl, k7⟩
      have b7 := Blk.new w7 25 #[.slice X7 0 cx7, .slice Y7 0 cy7]
      have HKF := Lib.hid (keepN gK (k7.alloc (.cells #[.slice X7 0 cx7, .slice Y7 0 cy7] 25)))
      obtain ⟨r0, r1⟩ := blk2 (v := ⟨X7, 0, cx7, Y7, 0, cy7⟩) b7
      dsimp only at r0 r1
      clear k7 b7 hE hE1
      go_wp2
      go_ret
      exact ⟨rfl, HKF.out⟩
    · obtain ⟨hok, hbt⟩ := decI_ok hE
      refine (decode_yes B b n c _ HB.out HN.out hc hcm (by omega) (decI b).1 (Prod.ext rfl hE) hok).mono ?_
      generalize (decI b).1 = q at *
      rintro e w7 ⟨v7, es7, fs7, rfl, H7, k7⟩
      have b7 := Blk.new w7 25 v7.cells
      have k7A := k7.alloc (.cells v7.cells 25)
      have HE7 := Lib.hid (encode_any v7 es7 fs7 (w7.alloc (.cells v7.cells 25)) (H7.out.1.keepN ((Keep.refl NoB w7).alloc _)) H7.out.2.2.2)
      rw [H7.out.2.1, chkI_ok hok, encI_ok hok, ← hbt] at HE7
      replace HB := Lib.hid (S.rd_n HB.out k7A)
      replace gK := keepN gK k7A
      clear k7 k7A H7 hok hbt hE
      obtain ⟨X7, nx7, cx7, Y7, ny7, cy7⟩ := v7
      dsimp only [IV.val, IV.cells] at *
      obtain ⟨r0, r1⟩ := blk2 (v := ⟨X7, nx7, cx7, Y7, ny7, cy7⟩) b7
      dsimp only at r0 r1
      clear b7
      go_wp2_with fail
      refine HE7.out.mono ?_
      rintro e w8 ⟨u8, rfl, h8, k8⟩
      obtain ⟨A8, c8, rfl, hc8, hr8, hadr, hcm8⟩ := h8.form
      have hcv8 := V.conv_rd (c := c8) hr8
      have hcvb := V.conv_rd (c := c) (S.rd_n HB.out k8)
      rw [HN.out] at hcv8 hcvb ⊢
      have HKF := Lib.hid (keepN gK k8)
      clear h8 hr8 hadr k8 HB HE7 r0 r1
      generalize V.str b = T at *
      go_wp2
      go_ret
      exact ⟨rfl, HKF.out⟩

end Go.Proofs.YtgifflfjhockaaaGreatDoor.I
