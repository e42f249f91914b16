/-
  What bodies may refer to: the program's Context, by the iterator. Conditions: the image's lists lie in memory; no more than 1000 functions, none greater than statements go through.
  Which parts may be: IndexFunc and ContainsFunc over what lies in memory, and may, of shapes and of functions. Conditions: what is asked answers by its contract.
  Parts read from a Reel: how many, and these: what read answers, of shapes and of functions. Conditions: the Reel reads bytes in memory, no more than 2^47.
  What stands between Magic and the sum: what inner answers. Conditions: the bytes lie in memory, no more than 2^47.
  Copies of functions: the program's and the document's. Conditions: the function's lists lie in memory, and are no longer than statements go through.
  The document's copy of a function. Conditions: the function's lists lie in memory, and are no longer than statements go through.
-/
import Derived.Laws.EntriesVeiled
import Derived.Test.YtgifflfjhockaaaGreatDoorQ3
import Derived.Test.YtgifflfjhockaaaGreatDoorQ2
namespace Go.Proofs.YtgifflfjhockaaaGreatDoor.I
open Go.RowKit Go.Shelf W
attribute [local go_sem] Oper.semAt_some

/-- A signature in memory: its lists, and what they hold. -/
abbrev GE := (SV × List Int) × (SV × List Int)
def gvs (gs : List GE) : List Value := gs.flatMap fun e => [e.1.1.val, e.2.1.val]
def gsg (e : GE) : List Int × List Int := (e.1.2, e.2.2)
structure OwnGE (W : World) (P : Nat → Prop) (e : GE) : Prop where
  a : Own W 3 1 P (.slice e.1.1.A e.1.1.n e.1.1.c) e.1.1.n (ivs e.1.2)
  b : Own W 3 1 P (.slice e.2.1.A e.2.1.n e.2.1.c) e.2.1.n (ivs e.2.2)
/-- The types of a number's function. -/
def sgx (fs : List FE) (x : Nat) : List Int × List Int := ((fnI fs x).2.ar, (fnI fs x).2.rs)
theorem gvs_length (gs : List GE) : (gvs gs).length = gs.length * 2 := by
  induction gs with
  | nil => rfl
  | cons e l ih => unfold gvs at ih ⊢; rw [List.flatMap_cons, List.length_append, ih]; simp; omega
theorem gvs_snoc (gs : List GE) (e : GE) : gvs (gs ++ [e]) = gvs gs ++ [e.1.1.val, e.2.1.val] := by simp [gvs]
/-- A row of another type stays as it was. -/
theorem own_other {W W' : World} {O P : Nat → Prop} {E sz n : Nat} {v : Value} {xs : List Value} (h : Own W E sz P v n xs) (hk : Keep O W W') (hO : ∀ k, O k → ∀ cs f, W.heap[k]? ≠ some (.cells cs E f)) : Own W' E sz P v n xs := by
  refine ⟨⟨h.1.1, ?_⟩, h.2⟩
  rcases h.1.2 with h2 | ⟨g, cap, cur, rfl, hb, hh, r⟩
  · exact .inl h2
  · exact .inr ⟨g, cap, cur, rfl, hb, (hk.block g (Array.getElem?_eq_some_iff.1 hh).1 (fun ho => hO g ho _ _ hh)).trans hh, r⟩
theorem OwnGE.other {W W' : World} {O P : Nat → Prop} {e : GE} (h : OwnGE W P e) (hk : Keep O W W') (hO : ∀ k, O k → ∀ cs f, W.heap[k]? ≠ some (.cells cs 3 f)) : OwnGE W' P e := ⟨own_other h.a hk hO, own_other h.b hk hO⟩
theorem OwnGE.keepN {W W' : World} {P : Nat → Prop} {e : GE} (h : OwnGE W P e) (hk : Keep NoB W W') : OwnGE W' P e := ⟨h.a.keepN hk, h.b.keepN hk⟩
theorem own_grownR {X Y : World} {row : Option Nat} {P : Nat → Prop} {E sz n : Nat} {v : Value} {xs : List Value} (h : Own X E sz P v n xs) (hg : X.grownBy Y row) (hr : ∀ r, row = some r → ∃ o : Obj, X.heap[r]? = some o ∧ o.isCells = false) : Own Y E sz P v n xs := by
  refine ⟨⟨h.1.1, ?_⟩, h.2⟩
  rcases h.1.2 with h2 | ⟨g, cap, cur, rfl, hb, hh, r⟩
  · exact .inl h2
  · refine .inr ⟨g, cap, cur, rfl, hb, (hg.block g (Array.getElem?_eq_some_iff.1 hh).1 (fun e => ?_)).trans hh, r⟩
    obtain ⟨o, ho, hc⟩ := hr g e.symm
    rw [hh] at ho; cases ho; cases hc
theorem own_putObj {W : World} {P : Nat → Prop} {E sz n D : Nat} {v : Value} {xs : List Value} {o : Obj} (o' : Obj) (h : Own W E sz P v n xs) (hl : W.heap[D]? = some o) (ho : o.isCells = false) : Own (W.putObj D o') E sz P v n xs :=
  own_grownR h (grownBy_putObj' W D o') (fun r e => by cases e; exact ⟨o, hl, ho⟩)
theorem keepsFrom_of {B : Nat} {O : Nat → Prop} {W W' : World} (hk : Keep O W W') (hO : ∀ k, O k → ∃ cs t f, W.heap[k]? = some (.cells cs t f)) : KeepsFrom B W W' :=
  ⟨hk.size, fun k o _ h hc => (hk.block k (Array.getElem?_eq_some_iff.1 h).1 (fun ho => by
    obtain ⟨cs, t, f, h2⟩ := hO k ho
    rw [h] at h2; cases h2; cases hc)).trans h⟩
theorem rd_keepO {A : Option Addr} {xs : List Value} {B : Nat} {O : Nat → Prop} {W W' : World} (hA : ∀ ad, A = some ad → 0 < xs.length → ad.block < B) (hk : Keep O W W') (hO : ∀ k, O k → B ≤ k) (hr : Rd W A xs) : Rd W' A xs := fun h0 => by
  obtain ⟨g, off, e, hc⟩ := hr h0
  have hb : g < B := hA ⟨g, off, none⟩ e h0
  exact ⟨g, off, e, fun j u hu => hk.cell (hc j u hu) (fun ho => by have := hO _ ho; simp at this; omega)⟩
/-- A slice in a box that gets longer. -/
theorem box_append {W w1 : World} {b bx : Nat} {T E : TypeId} {sz k m : Nat} {u u' : Value} {xs ys : List Value} (hv : Boxed W bx T u) (hte : T ≠ E) (hrow : W.ownsRow b E sz u k xs) (hown' : w1.ownsRow b E sz u' m ys) (hgrow : W.grownBy w1 u.ownBlock) :
    Boxed w1 bx T u ∧ Boxed (w1.setCell ⟨bx, 0, none⟩ u') bx T u' ∧ (w1.setCell ⟨bx, 0, none⟩ u').ownsRow b E sz u' m ys ∧ Keep (fun j => j = bx ∨ u.ownBlock = some j) W (w1.setCell ⟨bx, 0, none⟩ u') := by
  have hv1 : Boxed w1 bx T u := hv.kept hgrow (hv.not_row hte hrow)
  exact ⟨hv1, hv1.set u', hown'.kept (grownBy_setCell' w1 bx u') (.inr (hv1.not_row hte hown').symm), ((Keep.refl _ W).grown hgrow (fun g e _ => .inr e)).setCell (fun _ => .inl rfl) _⟩
/-- What the loop keeps. -/
def CxI (w : World) (v : IV) (fs : List FE) (pre : List Nat) (W : World) : Prop :=
  ∃ (u : Value) (gs : List GE), Boxed W (w.heap.size + 1 + 1 + 1) 50 u ∧ W.ownsRow w.heap.size 57 2 u gs.length (gvs gs) ∧ (∀ e ∈ gs, OwnGE W (Fresh w) e) ∧ gs.map gsg = pre.map (sgx fs) ∧ Keep NoB w W ∧
    Blk W w.heap.size 25 v.cells ∧ Blk W (w.heap.size + 1) 52 #[.slice none 0 0, .int .i64 0]
theorem cxI_own {w : World} {v : IV} {fs : List FE} {B : Nat} (hB : w.heap.size ≤ B) : OwnFrom B (CxI w v fs) := by
  intro s X Y row ⟨u, gs, h1, h2, h3, h4, h5, h6, h7⟩ hg hrow
  have hr : ∀ r, row = some r → ∃ o : Obj, X.heap[r]? = some o ∧ o.isCells = false := fun r e => (hrow r e).2
  have h2' : Y.ownsRow w.heap.size 57 2 u gs.length (gvs gs) := by
    refine ⟨h2.1, ?_⟩
    rcases h2.2 with h | ⟨g, cap, cur, rfl, hb, hh, r⟩
    · exact .inl h
    · refine .inr ⟨g, cap, cur, rfl, hb, (hg.block g (Array.getElem?_eq_some_iff.1 hh).1 (fun e => ?_)).trans hh, r⟩
      obtain ⟨o, ho, hc⟩ := hr g e.symm
      rw [hh] at ho; cases ho; cases hc
  exact ⟨u, gs, O.blk_own (β := Unit) _ _ _ (fun _ => _) () _ _ _ (show Blk X _ 50 #[u] from h1) hg hrow, h2', fun e he => ⟨own_grownR (h3 e he).a hg hr, own_grownR (h3 e he).b hg hr⟩, h4, O.keep_own (β := Unit) _ hB () _ _ _ h5 hg hrow, O.blk_own (β := Unit) _ _ _ (fun _ => _) () _ _ _ h6 hg hrow, O.blk_own (β := Unit) _ _ _ (fun _ => _) () _ _ _ h7 hg hrow⟩
/-- The activation at the head of the loop's body. -/
def CxA (v : IV) (fs : List FE) (b : Nat) (x : Nat) (Bo : Nat) : Act :=
  { tmps := #[v.val, .pointer (some ⟨b, 0, none⟩), .pointer (some ⟨b + 1, 0, none⟩), .pointer (some ⟨b + 1 + 1 + 1, 0, none⟩), undef, .pointer (some ⟨Bo, 0, none⟩), .pointer (some ⟨b, 1, none⟩), .slice v.Y v.ny v.cy, .int .i64 (v.ny : Int), .slice (some ⟨b + 1 + 1, 0, none⟩) 0 v.ny, v.val, .func (.func 104) #[] #[.pointer (some ⟨b + 1 + 1 + 1 + 1, 0, none⟩)], .int .i64 (x : Int), (fnI fs x).1.val, undef, undef, undef, undef, undef, undef, undef, undef, undef, undef, undef, undef, undef, undef, undef, undef, undef], defers := [] }
theorem ctx_size : (Tryz.prog.info? 52).map (·.size) = some 2 := by kernel_rfl
theorem run_ctx {w : World} {g : Nat} {x y : Value} (h : Blk w g 52 #[x, y]) : (loadVar 52 ⟨g, 0, none⟩).run Tryz.prog w = .ok (.agg #[x, y]) w :=
  run_loadVar_row w g 52 52 #[x, y] (0, 0) _ h Tryz.underlying52 rfl ctx_size
theorem sgx_range {fs : List FE} {n : Nat} (hn : fs.length = n) : (List.range n).map (sgx fs) = fs.map fun e => (e.2.ar, e.2.rs) := by
  apply List.ext_getElem?
  intro i
  unfold sgx
  by_cases h : i < fs.length
  · rw [List.getElem?_map, List.getElem?_range (by omega)]
    simp [fnI_at h, h]
  · rw [List.getElem?_eq_none (by simp; omega), List.getElem?_eq_none (by simp; omega)]
/-- What the values are that the region of a round yields. -/
def SCx (w : World) (u0 : Value) (Bo : Nat) (A : Option Addr) (na ca : Nat) (B : Option Addr) (nb cb : Nat) (a r : List Int) : Nat → Value → World → Prop
  | 0 => fun u _ => u = u0
  | 1 => fun u _ => u = .pointer (some ⟨Bo, 1, none⟩)
  | 2 => fun u _ => u = .pointer (some ⟨Bo, 1, none⟩)
  | 3 => fun u _ => u = .slice A na ca
  | 4 => fun u W => ∃ A1 c1, u = .slice A1 na c1 ∧ Own W 3 1 (Fresh w) (.slice A1 na c1) na (ivs a)
  | 5 => fun u _ => u = .pointer (some ⟨Bo, 1, none⟩)
  | 6 => fun u _ => u = .pointer (some ⟨Bo, 2, none⟩)
  | 7 => fun u _ => u = .slice B nb cb
  | 8 => fun u W => ∃ A1 c1, u = .slice A1 nb c1 ∧ Own W 3 1 (Fresh w) (.slice A1 nb c1) nb (ivs r)
  | 9 => fun u W => ∃ A1 c1 A2 c2, u = .agg #[.slice A1 na c1, .slice A2 nb c2] ∧ Own W 3 1 (Fresh w) (.slice A1 na c1) na (ivs a) ∧ Own W 3 1 (Fresh w) (.slice A2 nb c2) nb (ivs r)
  | 10 => fun u W => ∃ g A1 c1 A2 c2, u = .slice (some ⟨g, 0, none⟩) 1 1 ∧ Blk W g 57 #[.slice A1 na c1, .slice A2 nb c2] ∧ Own W 3 1 (Fresh w) (.slice A1 na c1) na (ivs a) ∧ Own W 3 1 (Fresh w) (.slice A2 nb c2) nb (ivs r)
  | _ => fun _ _ => True
theorem SCx_stable (w : World) (u0 : Value) (Bo : Nat) (A : Option Addr) (na ca : Nat) (B : Option Addr) (nb cb : Nat) (a r : List Int) : ∀ i u W W', SCx w u0 Bo A na ca B nb cb a r i u W → Keep NoB W W' → SCx w u0 Bo A na ca B nb cb a r i u W'
  | 0, _, _, _, h, _ | 1, _, _, _, h, _ | 2, _, _, _, h, _ | 3, _, _, _, h, _ => h
  | 4, _, _, _, ⟨A1, c1, e, h⟩, hk => ⟨A1, c1, e, h.keepN hk⟩
  | 5, _, _, _, h, _ | 6, _, _, _, h, _ | 7, _, _, _, h, _ => h
  | 8, _, _, _, ⟨A1, c1, e, h⟩, hk => ⟨A1, c1, e, h.keepN hk⟩
  | 9, _, _, _, ⟨A1, c1, A2, c2, e, h, h2⟩, hk => ⟨A1, c1, A2, c2, e, h.keepN hk, h2.keepN hk⟩
  | 10, _, _, _, ⟨g, A1, c1, A2, c2, e, hb, h, h2⟩, hk => ⟨g, A1, c1, A2, c2, e, hb.keep hk id, h.keepN hk, h2.keepN hk⟩
  | _ + 11, _, _, _, h, _ => h
theorem rd_blk2 {w : World} {g : Nat} {t : TypeId} {x y : Value} (h : Blk w g t #[x, y]) : ∀ (j : Nat) u, [x, y][j]? = some u → w.cell? ((⟨g, 0, none⟩ : Addr).add j) = some u := fun j u hu => by
  have ea : (⟨g, 0, none⟩ : Addr).add j = ⟨g, j, none⟩ := by unfold Addr.add; by_cases hj : j = 0 <;> simp [hj]
  rw [ea, h.cell j]; simpa using hu

/-- What is changed, where a slice in a box gets longer. -/
theorem box_at {W : World} {b bx : Nat} {T E : TypeId} {sz k : Nat} {u : Value} {xs : List Value} (hv : Boxed W bx T u) (hrow : W.ownsRow b E sz u k xs) (hb : b ≤ bx) : ∀ j, (j = bx ∨ u.ownBlock = some j) → b ≤ j ∧ ∃ cs t f, W.heap[j]? = some (.cells cs t f) ∧ (t = T ∨ t = E) := by
  rintro j (rfl | e)
  · exact ⟨hb, _, _, _, hv, .inl rfl⟩
  · rcases hrow.2 with ⟨rfl, _⟩ | ⟨g, cap, cur, rfl, hg, hh, _⟩
    · simp [Value.ownBlock] at e
    · obtain rfl : g = j := by simpa [Value.ownBlock] using e
      exact ⟨hg, _, _, _, hh, .inr rfl⟩
theorem blk_other {W W' : World} {O : Nat → Prop} {g : Nat} {t : TypeId} {cs : Array Value} (h : Blk W g t cs) (hk : Keep O W W') (hO : ∀ k, O k → ∀ cs f, W.heap[k]? ≠ some (.cells cs t f)) : Blk W' g t cs := h.keep hk (fun ho => hO g ho _ _ h)
theorem one_ivs (l : List Int) : ∀ u ∈ ivs l, u.oneCell' = true := fun u hu => by
  obtain ⟨z, _, rfl⟩ := List.mem_map.1 hu; rfl

set_option maxRecDepth 100000 in
set_option maxHeartbeats 4000000 in
theorem context_any (v : IV) (es : List SE) (fs : List FE) (w : World) (h : ImAt w v es fs) (hs : ∀ e ∈ fs, F.SmF e.1) (hn : v.ny ≤ 1000) :
    Calls Tryz.prog 24 #[v.val] w fun e w' => ∃ X cx gs, e = .returned (.agg #[.slice X v.ny cx, .int .i64 (v.nx : Int)]) ∧ Own w' 57 2 (Fresh w) (.slice X v.ny cx) v.ny (gvs gs) ∧ (∀ e ∈ gs, OwnGE w' (Fresh w) e) ∧ gs.map gsg = (fs.map fun e => (e.2.ar, e.2.rs)) ∧ Keep NoB w w' := by
  obtain ⟨i0, hi, hz0, hz1, hz2⟩ := info_parts F.sig_infoC
  have hly := h.ly
  have HB := Lib.hid (fun (ad : Addr) (e : v.Y = some ad) (h0 : 0 < (fvs fs).length) => rd_lt h.ry e h0)
  have HR := Lib.hid (fun W (hk : Keep NoB w W) => h.ry.keepN hk)
  have HF : Hid (∀ x W, Keep NoB w W → F.FnAt W (fnI fs x).1 (fnI fs x).2 ∧ F.SmF (fnI fs x).1) := fun x W hk => by
    by_cases hx : x < fs.length
    · rw [fnI_at hx]
      exact ⟨(h.hf _ (List.getElem_mem _)).keepN hk, hs _ (List.getElem_mem _)⟩
    · unfold fnI
      rw [List.getElem?_eq_none (by omega)]
      exact ⟨⟨rfl, Rd.none_ _ _, Rd.none_ _ _, Rd.none_ _ _, Rd.none_ _ _, rfl, rfl, rfl, rfl, fun x hx => nomatch hx⟩, ⟨Nat.zero_le _, Nat.zero_le _, Nat.zero_le _, Nat.zero_le _, Nat.zero_le _⟩⟩
  have HN := Lib.hid (sgx_range hly)
  clear h hs
  refine (callsIn_wide (n := 4)).1 ?_
  refine callsIn_of_wp_marks Tryz.func24 rfl trivial ?_ rfl
  have hst := Lib.hid (fun m hm b w hx hr => each_stops m hm b v fs hly hn w hx hr)
  have he1 := Lib.hid (fun m w => each_any m v w)
  have hmk0 := fun W => run_make (P := Tryz.prog) W 50 57 i0 (.agg #[.slice none 0 0, .slice none 0 0]) Tryz.underlying50 hi hz0 .i64 .i64 0 (v.ny : Int) (Int.le_refl _) (by omega) (by rw [hz2]; omega) (by omega)
  have hmk : ∀ W, (Instr.makeSlice 50 (.int .i64 0) (.int .i64 (v.ny : Int))).run Tryz.prog W = .ok (.slice (some ⟨W.heap.size, 0, none⟩) 0 v.ny) (W.alloc (.cells (madeCells #[.slice none 0 0, .slice none 0 0] (v.ny * 2)) 57)) := fun W => by
    rw [hmk0 W, hz1]; rfl
  clear hmk0
  obtain ⟨mc, hmc⟩ : ∃ mc, madeCells #[.slice none 0 0, .slice none 0 0] (v.ny * 2) = mc := ⟨_, rfl⟩
  have hmcs : mc.size = v.ny * 2 := by rw [← hmc]; simp [madeCells]
  rw [hmc] at hmk
  clear hmc
  have k1 := (Keep.refl NoB w).alloc (.cells v.cells 25)
  have k2 := k1.alloc (.cells #[.slice none 0 0, .int .i64 0] 52)
  have k3 := k2.alloc (.cells mc 57)
  have k4 := k3.alloc (.cells #[.slice (some ⟨w.heap.size + 1 + 1, 0, none⟩) 0 v.ny] 50)
  have hK := k4.alloc (.cells v.cells 25)
  have b0 := (((Blk.new w 25 v.cells).alloc (.cells #[.slice none 0 0, .int .i64 0] 52)).alloc (.cells mc 57)).alloc (.cells #[.slice (some ⟨w.heap.size + 1 + 1, 0, none⟩) 0 v.ny] 50)
  have b1 := ((Blk.new (w.alloc (.cells v.cells 25)) 52 #[.slice none 0 0, .int .i64 0]).alloc (.cells mc 57)).alloc (.cells #[.slice (some ⟨w.heap.size + 1 + 1, 0, none⟩) 0 v.ny] 50)
  have b2 := (Blk.new ((w.alloc (.cells v.cells 25)).alloc (.cells #[.slice none 0 0, .int .i64 0] 52)) 57 mc).alloc (.cells #[.slice (some ⟨w.heap.size + 1 + 1, 0, none⟩) 0 v.ny] 50)
  have b3 := Blk.new (((w.alloc (.cells v.cells 25)).alloc (.cells #[.slice none 0 0, .int .i64 0] 52)).alloc (.cells mc 57)) 50 #[.slice (some ⟨w.heap.size + 1 + 1, 0, none⟩) 0 v.ny]
  have b4 := Blk.new ((((w.alloc (.cells v.cells 25)).alloc (.cells #[.slice none 0 0, .int .i64 0] 52)).alloc (.cells mc 57)).alloc (.cells #[.slice (some ⟨w.heap.size + 1 + 1, 0, none⟩) 0 v.ny] 50)) 25 v.cells
  simp only [World.size_alloc] at b1 b2 b3 b4
  obtain ⟨z0, z1⟩ := blk2 b0
  have hr5 := HR.out _ hK
  have hI0 : CxI w v fs [] _ := ⟨_, [], b3.alloc (.cells v.cells 25), ⟨rfl, .inr ⟨w.heap.size + 1 + 1, v.ny, mc, rfl, by omega, b2.alloc (.cells v.cells 25), Nat.zero_le _, by unfold maxLen; omega, hmcs, by simp [gvs]⟩⟩, (fun _ h => nomatch h), rfl, hK, b0.alloc _, b1.alloc _⟩
  have HI0 := Lib.hid hI0
  have HX5 := Lib.hid b4
  have HR5 := Lib.hid hr5
  clear b1 b2 b3 b4 k1 k2 k3 k4 hK hr5 hI0 hmcs b0
  obtain ⟨X, nx, cx, Y, ny, cy⟩ := v
  dsimp only [IV.val, IV.cells] at *
  simp only [Tryz.ntmps24, List.size_toArray, List.length_cons, List.length_nil, Nat.reduceAdd, Nat.reduceSub, Array.replicate_succ, Array.replicate_zero, List.push_toArray, List.append_toArray, List.nil_append, List.cons_append]
  gi_wp2_with (refine ⟨trivial, ?_⟩; gi_at_call 57; refine (he1.out _ _).mono ?_; rintro e w1 ⟨rfl, rfl⟩)
  refine wpIn_rangeFunc_ownH rfl (by omega) (gf := 104) (lb := #[.pointer (some ⟨w.heap.size + 1 + 1 + 1 + 1, 0, none⟩)]) rfl trivial (enters_of Tryz.func104 (by kernel_rfl) rfl)
    (hst.out _ (by omega) _ _ HX5.out HR5.out) FsK.trans (fun W l o o' _ hl ho _ => FsK.putObj W l o o' hl ho) (Below.refl _ _) (fun _ => rfl)
    (CxI w ⟨X, nx, cx, Y, ny, cy⟩ fs) (fun _ _ _ => False) (cxI_own (by simp; omega)) (fun c => fun _ _ _ _ hf _ _ => hf) HI0.out
    (fun x a' W => ∃ Bo, Blk W Bo 61 (fnI fs x).1.cells ∧ a' = CxA ⟨X, nx, cx, Y, ny, cy⟩ fs w.heap.size x Bo) ?hax ?assign ?body ?done ?stop
  case hax =>
    rintro x a' s X Y row ⟨Bo, h1, h2⟩ hg hrow
    exact ⟨Bo, O.blk_own (β := Unit) _ _ _ (fun _ => _) () _ _ _ h1 hg hrow, h2⟩
  case assign =>
    intro l pre x W K hi hK
    have HI := Lib.hid (fun W' hk => cxI_own (w := w) (v := ⟨X, nx, cx, Y, ny, cy⟩) (fs := fs) (B := w.heap.size) (Nat.le_refl _) pre W W' none hi (Keep.grows hk) (fun r e => by cases e))
    have HB1 := Lib.hid (Blk.new W 61 (fnI fs x).1.cells)
    have HK2 := Lib.hid (fun a' W' h1 h2 h3 h4 => hK a' W' h1 h2 h3 h4)
    unfold CxA at HK2
    dsimp only [eaA]
    clear hi
    generalize fnI fs x = e at *
    obtain ⟨⟨S1, A1, na1, ca1, B1, nb1, cb1, L1, nl1, cl1, D1, nd1, cd1⟩, f⟩ := e
    dsimp only [F.FV.val, F.FV.cells, IV.val, IV.cells] at *
    clear hK
    gi_wp2
    exact HK2.out _ _ (keepsFrom_keep ((Keep.refl NoB W).alloc _)) (fun h => h.keepN ((Keep.refl NoB W).alloc _)) (HI.out _ ((Keep.refl NoB W).alloc _)) ⟨_, HB1.out, rfl⟩
  case body =>
    rintro l pre x a' W hl _ ⟨u0, gs, hv, hrow, hgs, hmap, hK, hb0, hb1⟩ ⟨Bo, hb, rfl⟩ hlt
    obtain ⟨hf, hsm⟩ := HF.out x W hK
    have HSG : Hid (sgx fs x = ((fnI fs x).2.ar, (fnI fs x).2.rs)) := rfl
    have cu := hv.cell
    have c1 : W.cell? ⟨Bo, 1, none⟩ = some (.slice (fnI fs x).1.A (fnI fs x).1.na (fnI fs x).1.ca) := hb.cell 1
    have c2 : W.cell? ⟨Bo, 2, none⟩ = some (.slice (fnI fs x).1.B (fnI fs x).1.nb (fnI fs x).1.cb) := hb.cell 2
    have HV := Lib.hid (And.intro hv (And.intro hrow (And.intro hgs (And.intro hmap (And.intro hK (And.intro hb0 hb1))))))
    have hgl : gs.length = pre.length := by have := congrArg List.length hmap; simpa using this
    have hgn : gs.length ≤ 1000 := by omega
    clear hv hrow hgs hmap hK hb0 hb1 hb hgl
    dsimp only [CxA, IV.val]
    generalize fnI fs x = e at *
    obtain ⟨⟨S1, A1, na1, ca1, B1, nb1, cb1, L1, nl1, cl1, D1, nd1, cd1⟩, f⟩ := e
    dsimp only [F.FV.val, F.FV.cells] at *
    have HC1 := Lib.hid (fun W' (hk : Keep NoB W W') => cloneInts_any W' A1 (ivs f.ar) na1 ca1 (hf.ra.keepN hk) (by have := hf.la; simp; omega) (one_ivs _) (by have := hsm.na; dsimp only at this; omega))
    have HC2 := Lib.hid (fun W' (hk : Keep NoB W W') => cloneInts_any W' B1 (ivs f.rs) nb1 cb1 (hf.rb.keepN hk) (by have := hf.lb; simp; omega) (one_ivs _) (by have := hsm.nb; dsimp only at this; omega))
    have HSZ := Lib.hid HV.out.2.2.2.2.1.size
    clear hf hsm
    gi_wp2_with fail
    refine wpIn_region_tail (fun i => [14, 15, 16, 17, 18, 19, 20, 21, 22, 23, 24].getD i 0) 11 (by kernel_rfl) (by kernel_rfl) (by kernel_rfl) (by kernel_rfl) (by kernel_rfl) (SCx w u0 Bo A1 na1 ca1 B1 nb1 cb1 f.ar f.rs) (fun i u x y h hk => SCx_stable _ _ _ _ _ _ _ _ _ _ _ i u x y h hk) rfl ?step ?fin
    case step =>
      intro i o a w' hoo hi hF hK hA
      by_cases h0 : i = 0
      · subst h0
        simp only [List.getElem?_toArray, List.getElem?_cons_zero, Option.some.injEq] at hoo
        subst hoo
        have e3 : a.tmps.getD 3 undef = .pointer (some ⟨w.heap.size + 1 + 1 + 1, 0, none⟩) := hF.2.2 3 (by decide)
        have q0 := Keep.cell hK cu id
        refine Does.plain rfl ?_
        unfold yieldsK
        go_simp
        exact ⟨rfl, Keep.refl _ _⟩
      by_cases h1 : i = 1
      · subst h1
        simp only [List.getElem?_toArray, List.getElem?_cons_zero, List.getElem?_cons_succ, Option.some.injEq] at hoo
        subst hoo
        have e5 : a.tmps.getD 5 undef = .pointer (some ⟨Bo, 0, none⟩) := hF.2.2 5 (by decide)
        refine Does.plain rfl ?_
        unfold yieldsK
        go_simp
        exact ⟨rfl, Keep.refl _ _⟩
      by_cases h2 : i = 2
      · subst h2
        simp only [List.getElem?_toArray, List.getElem?_cons_zero, List.getElem?_cons_succ, Option.some.injEq] at hoo
        subst hoo
        have e15 : a.tmps.getD 15 undef = .pointer (some ⟨Bo, 1, none⟩) := hA ⟨1, .data⟩ (by simp) rfl
        refine Does.plain rfl ?_
        unfold yieldsK
        go_simp
        exact ⟨rfl, Keep.refl _ _⟩
      by_cases h3 : i = 3
      · subst h3
        simp only [List.getElem?_toArray, List.getElem?_cons_zero, List.getElem?_cons_succ, Option.some.injEq] at hoo
        subst hoo
        have e16 : a.tmps.getD 16 undef = .pointer (some ⟨Bo, 1, none⟩) := hA ⟨2, .data⟩ (by simp) rfl
        have q0 := Keep.cell hK c1 id
        refine Does.plain rfl ?_
        unfold yieldsK
        go_simp
        exact ⟨rfl, Keep.refl _ _⟩
      by_cases h4 : i = 4
      · subst h4
        simp only [List.getElem?_toArray, List.getElem?_cons_zero, List.getElem?_cons_succ, Option.some.injEq] at hoo
        subst hoo
        have e17 : a.tmps.getD 17 undef = .slice A1 na1 ca1 := hA ⟨3, .data⟩ (by simp) rfl
        refine Does.plain rfl ?_
        unfold yieldsK
        go_simp
        refine (HC1.out w' hK).mono ?_
        rintro e w5 ⟨u5, rfl, h2, h3⟩
        obtain ⟨A5, c5, rfl, hc5, hr5, had5⟩ := h2.form
        exact ⟨_, rfl, ⟨A5, c5, rfl, h2.mono (fun k (hk : Fresh w' k) _ => (Nat.le_trans HSZ.out (Nat.le_trans hK.size hk) : w.heap.size ≤ k))⟩, h3⟩
      by_cases h5 : i = 5
      · subst h5
        simp only [List.getElem?_toArray, List.getElem?_cons_zero, List.getElem?_cons_succ, Option.some.injEq] at hoo
        subst hoo
        have e5 : a.tmps.getD 5 undef = .pointer (some ⟨Bo, 0, none⟩) := hF.2.2 5 (by decide)
        refine Does.plain rfl ?_
        unfold yieldsK
        go_simp
        exact ⟨rfl, Keep.refl _ _⟩
      by_cases h6 : i = 6
      · subst h6
        simp only [List.getElem?_toArray, List.getElem?_cons_zero, List.getElem?_cons_succ, Option.some.injEq] at hoo
        subst hoo
        have e19 : a.tmps.getD 19 undef = .pointer (some ⟨Bo, 1, none⟩) := hA ⟨5, .data⟩ (by simp) rfl
        refine Does.plain rfl ?_
        unfold yieldsK
        go_simp
        exact ⟨rfl, Keep.refl _ _⟩
      by_cases h7 : i = 7
      · subst h7
        simp only [List.getElem?_toArray, List.getElem?_cons_zero, List.getElem?_cons_succ, Option.some.injEq] at hoo
        subst hoo
        have e20 : a.tmps.getD 20 undef = .pointer (some ⟨Bo, 2, none⟩) := hA ⟨6, .data⟩ (by simp) rfl
        have q0 := Keep.cell hK c2 id
        refine Does.plain rfl ?_
        unfold yieldsK
        go_simp
        exact ⟨rfl, Keep.refl _ _⟩
      by_cases h8 : i = 8
      · subst h8
        simp only [List.getElem?_toArray, List.getElem?_cons_zero, List.getElem?_cons_succ, Option.some.injEq] at hoo
        subst hoo
        have e21 : a.tmps.getD 21 undef = .slice B1 nb1 cb1 := hA ⟨7, .data⟩ (by simp) rfl
        refine Does.plain rfl ?_
        unfold yieldsK
        go_simp
        refine (HC2.out w' hK).mono ?_
        rintro e w5 ⟨u5, rfl, h2, h3⟩
        obtain ⟨A5, c5, rfl, hc5, hr5, had5⟩ := h2.form
        exact ⟨_, rfl, ⟨A5, c5, rfl, h2.mono (fun k (hk : Fresh w' k) _ => (Nat.le_trans HSZ.out (Nat.le_trans hK.size hk) : w.heap.size ≤ k))⟩, h3⟩
      by_cases h9 : i = 9
      · subst h9
        simp only [List.getElem?_toArray, List.getElem?_cons_zero, List.getElem?_cons_succ, Option.some.injEq] at hoo
        subst hoo
        obtain ⟨A5, c5, e18, h5⟩ := hA ⟨4, .data⟩ (by simp) rfl
        have e18 : a.tmps.getD 18 undef = .slice A5 na1 c5 := e18
        obtain ⟨A6, c6, e22, h6⟩ := hA ⟨8, .data⟩ (by simp) rfl
        have e22 : a.tmps.getD 22 undef = .slice A6 nb1 c6 := e22
        refine Does.plain rfl ?_
        unfold yieldsK
        simp only [Array.getD_eq_getD_getElem?] at e18 e22
        go_simp
        exact ⟨⟨A5, c5, A6, c6, rfl, h5, h6⟩, Keep.refl _ _⟩
      by_cases h10 : i = 10
      · subst h10
        simp only [List.getElem?_toArray, List.getElem?_cons_zero, List.getElem?_cons_succ, Option.some.injEq] at hoo
        subst hoo
        obtain ⟨A5, c5, A6, c6, e23, h5, h6⟩ := hA ⟨9, .data⟩ (by simp) rfl
        have e23 : a.tmps.getD 23 undef = .agg #[.slice A5 na1 c5, .slice A6 nb1 c6] := e23
        refine Does.plain rfl ?_
        unfold yieldsK
        simp only [Array.getD_eq_getD_getElem?] at e23
        go_simp
        exact ⟨⟨w'.heap.size, A5, c5, A6, c6, rfl, Blk.new _ _ _, h5.keepN ((Keep.refl _ _).alloc _), h6.keepN ((Keep.refl _ _).alloc _)⟩, (Keep.refl _ _).alloc _⟩
      omega
    case fin =>
      intro a w' hF gK hA
      have e14 : a.tmps.getD 14 undef = u0 := hA 0 (by decide)
      obtain ⟨g, A5, c5, A6, c6, e24, hb2, ho5, ho6⟩ := hA 10 (by decide)
      have e24 : a.tmps.getD 24 undef = .slice (some ⟨g, 0, none⟩) 1 1 := e24
      have ha := frameD_list (l := [14, 15, 16, 17, 18, 19, 20, 21, 22, 23, 24]) rfl hF
      rw [ha]
      simp only [List.map_cons, List.map_nil, e14, e24]
      generalize a.tmps.getD 15 undef = u1
      generalize a.tmps.getD 16 undef = u2
      generalize a.tmps.getD 17 undef = u3
      generalize a.tmps.getD 18 undef = u4
      generalize a.tmps.getD 19 undef = u5
      generalize a.tmps.getD 20 undef = u6
      generalize a.tmps.getD 21 undef = u7
      generalize a.tmps.getD 22 undef = u8
      generalize a.tmps.getD 23 undef = u9
      simp only [fillD, List.setIfInBounds_toArray, List.set_cons_zero, List.set_cons_succ]
      obtain ⟨hv, hrow, hgs, hmap, hK, hb0, hb1⟩ := HV.out
      have hv2 : Boxed w' (w.heap.size + 1 + 1 + 1) 50 u0 := (show Blk w' _ _ _ from (show Blk W _ 50 #[u0] from hv).keep gK id)
      have hrow2 := ownsRow_keep hrow gK (fun _ _ => id)
      have HFIN : Hid (∀ u' w2, w2.ownsRow w.heap.size 57 2 u' (gs.length + 1) (gvs gs ++ [.slice A5 na1 c5, .slice A6 nb1 c6]) → w'.grownBy w2 u0.ownBlock →
          KeepsFrom (w.heap.size + 1 + 1 + 1 + 1 + 1) W (w2.setCell ⟨w.heap.size + 1 + 1 + 1, 0, none⟩ u') ∧ FsK Y fs W (w2.setCell ⟨w.heap.size + 1 + 1 + 1, 0, none⟩ u') ∧ CxI w ⟨X, nx, cx, Y, ny, cy⟩ fs (pre ++ [x]) (w2.setCell ⟨w.heap.size + 1 + 1 + 1, 0, none⟩ u')) := fun u' w2 hown' hgrow => by
        obtain ⟨_, hv3, hr3, hk3⟩ := box_append hv2 (by decide) hrow2 hown' hgrow
        have hat := box_at hv2 hrow2 (by omega)
        have hty : ∀ E : TypeId, E ≠ 50 → E ≠ 57 → ∀ k, (k = w.heap.size + 1 + 1 + 1 ∨ u0.ownBlock = some k) → ∀ cs f, w'.heap[k]? ≠ some (.cells cs E f) := fun E h1 h2 k hk cs f h3 => by
          obtain ⟨_, cs2, t, f2, h4, h5⟩ := hat k hk
          rw [h4] at h3
          cases h3
          exact h5.elim h1 h2
        refine ⟨(keepsFrom_keep gK).trans (keepsFrom_of hk3 (fun k hk => by
          obtain ⟨_, cs2, t, f2, h4, _⟩ := hat k hk
          exact ⟨cs2, t, f2, h4⟩)), fun hr => rd_keepO HB.out hk3 (fun k hk => (hat k hk).1) (hr.keepN gK), u', gs ++ [((⟨A5, na1, c5⟩, f.ar), (⟨A6, nb1, c6⟩, f.rs))], hv3, ?_, ?_, ?_, ?_, ?_, ?_⟩
        · rw [List.length_append, gvs_snoc]; exact hr3
        · intro e he
          rcases List.mem_append.1 he with h | h
          · exact ((hgs e h).keepN gK).other hk3 (hty _ (by decide) (by decide))
          · obtain rfl := List.mem_singleton.1 h
            exact ⟨own_other ho5 hk3 (hty _ (by decide) (by decide)), own_other ho6 hk3 (hty _ (by decide) (by decide))⟩
        · rw [List.map_append, List.map_append, hmap]
          congr 1
          exact congrArg (fun z => [z]) HSG.out.symm
        · exact (keepN hK gK).trans hk3 (fun k hk hl => by have := (hat k hk).1; omega)
        · exact blk_other (hb0.keep gK id) hk3 (hty _ (by decide) (by decide))
        · exact blk_other (hb1.keep gK id) hk3 (hty _ (by decide) (by decide))
      have hsz2 : w.heap.size ≤ w'.heap.size := Nat.le_trans hK.size gK.size
      clear HV hv hrow hgs hmap hK hb0 hb1 ho5 ho6 HC1 HC2 cu c1 c2 hA hF ha e14 e24
      simp only [List.drop_succ_cons, List.drop_zero]
      generalize gvs gs = xs at *
      gi_wp2_with (gi_at_builtin; refine wpListIn_append_own _ rfl _ _ 50 rfl w.heap.size 57 i0 _ 2 48 Tryz.underlying50 hi hz0 hz1 hz2 rfl (by decide) u0 gs.length xs rfl hrow2 ⟨g, 0, none⟩ 1 1 [.slice A5 na1 c5, .slice A6 nb1 c6] rfl rfl (rd_blk2 hb2) (by simp [Value.oneCell']) (by unfold maxLen; omega) (by omega) hsz2 ?_; intro u' w2 hown' hgrow _; obtain ⟨A9, c9, rfl⟩ := own_form hown'; have hfin := Lib.hid (HFIN.out _ _ hown' hgrow); have hv3 := hv2.kept hgrow (hv2.not_row (by decide) hrow2); have hc1 := hv3.cell; have hf1 := hv3.frozen)
      exact ⟨by simpa using hfin.out.1, hfin.out.2⟩
  case done =>
    rintro D ys W hD rfl ⟨u0, gs, hv, hrow, hgs, hmap, hK, hb0, hb1⟩ hDf
    rw [HN.out] at hmap
    have hgl : gs.length = ny := by have := congrArg List.length hmap; simpa [hly] using this
    rw [hgl] at hrow
    obtain ⟨A0, c0, rfl⟩ := own_form hrow
    have cv := hv.cell
    obtain ⟨z0, z1⟩ := blk2 hb0
    dsimp only at z0 z1
    have f3 := fun i => hb1.frozen i
    have q0 := hb1.cell 0
    have q1 := hb1.cell 1
    simp only [List.getElem?_toArray, List.getElem?_cons_zero, List.getElem?_cons_succ] at q0 q1
    have hlt := hb1.lt
    have HP : Hid (Blk ((W.setCell ⟨w.heap.size + 1, 0, none⟩ (.slice A0 ny c0)).setCell ⟨w.heap.size + 1, 1, none⟩ (.int .i64 (nx : Int))) (w.heap.size + 1) 52 #[.slice A0 ny c0, .int .i64 (nx : Int)]) := by
      have := (hb1.put 0 (.slice A0 ny c0)).put 1 (.int .i64 (nx : Int))
      show Blk _ _ _ _
      simpa using this
    have kq : Keep (fun k => k = w.heap.size + 1) W ((W.setCell ⟨w.heap.size + 1, 0, none⟩ (.slice A0 ny c0)).setCell ⟨w.heap.size + 1, 1, none⟩ (.int .i64 (nx : Int))) := ((Keep.refl (fun k => k = w.heap.size + 1) W).setCell (p := ⟨w.heap.size + 1, 0, none⟩) (fun _ => rfl) _).setCell (p := ⟨w.heap.size + 1, 1, none⟩) (fun _ => rfl) _
    have hot : ∀ (E : TypeId), E ≠ 52 → ∀ k, k = w.heap.size + 1 → ∀ cs f, W.heap[k]? ≠ some (.cells cs E f) := fun E hE k hk cs f h2 => by
      subst hk
      rw [show W.heap[w.heap.size + 1]? = _ from hb1] at h2
      cases h2; exact hE rfl
    have HO := Lib.hid (own_other (Own.of_row (O := Fresh w) hrow (fun k hk => hk)) kq (hot _ (by decide)))
    have HG := Lib.hid (fun e he => OwnGE.other (hgs e he) kq (hot _ (by decide)))
    have HK := Lib.hid (hK.trans kq (fun k e hl => by omega))
    have HDf : Hid (((W.setCell ⟨w.heap.size + 1, 0, none⟩ (.slice A0 ny c0)).setCell ⟨w.heap.size + 1, 1, none⟩ (.int .i64 (nx : Int))).heap[D]? = some (.deferred (some []))) := (Below.heap_setCell _ _ _ _ (by show D ≠ w.heap.size + 1; simp at hD; omega)).trans ((Below.heap_setCell _ _ _ _ (by show D ≠ w.heap.size + 1; simp at hD; omega)).trans hDf)
    have HMP := Lib.hid hmap
    clear hb1 hv hrow hgs hb0 hmap kq hot hK
    gi_wp2
    refine ⟨by simp, .inl ⟨_, _, rfl, run_takeDeferred HDf.out, ?_⟩⟩
    refine ⟨_, O.results_cell rfl rfl (run_ctx (blk_putObj HP.out HDf.out rfl)), A0, c0, gs, rfl, own_putObj _ HO.out HDf.out rfl, fun e he => ⟨own_putObj _ (HG.out e he).a HDf.out rfl, own_putObj _ (HG.out e he).b HDf.out rfl⟩, HMP.out, O.Keep_putObj HK.out (by simp at hD; omega)⟩
  case stop =>
    rintro D c pre W _ _ hf _
    exact hf.elim

end Go.Proofs.YtgifflfjhockaaaGreatDoor.I

namespace Go.Proofs.YtgifflfjhockaaaGreatDoor.I
open Go.RowKit W

/-- What an image's parts of this kind have. -/
def partS : Value := .agg #[.int .i64 0, .int .i64 64, F.fnV 72, F.fnV 73, F.fnV 74, F.fnV 75]
theorem partS_size : (Tryz.prog.info? 86).map (·.size) = some 6 := by kernel_rfl
set_option maxRecDepth 100000 in
set_option maxHeartbeats 2000000 in
theorem partsS_any (w : World) : Calls Tryz.prog 37 #[] w fun e w' => e = .returned partS ∧ Keep NoB w w' := by
  have bz := Blk.new w 86 #[.int .i64 0, .int .i64 64, F.fnV 72, F.fnV 73, F.fnV 74, F.fnV 75]
  have k0 := (Keep.refl NoB w).alloc (.cells #[.int .i64 0, .int .i64 64, F.fnV 72, F.fnV 73, F.fnV 74, F.fnV 75] 86)
  have HB := Lib.hid bz
  have HK := Lib.hid k0
  unfold partS F.fnV at *
  clear bz k0
  go_enter Tryz.func37, Tryz.ntmps37
  go_wp2
  refine bodyPost_ret (results_cell_row rfl _ _ w.heap.size 86 _ (0, 0) _ rfl HB.out Tryz.underlying86 rfl partS_size) rfl ?_
  exact ⟨rfl, HK.out⟩

/-- What an image's parts of this kind have. -/
def partF : Value := .agg #[.int .i64 1, .int .i64 64, F.fnV 76, F.fnV 77, F.fnV 78, F.fnV 79]
theorem partF_size : (Tryz.prog.info? 93).map (·.size) = some 6 := by kernel_rfl
set_option maxRecDepth 100000 in
set_option maxHeartbeats 2000000 in
theorem partsF_any (w : World) : Calls Tryz.prog 39 #[] w fun e w' => e = .returned partF ∧ Keep NoB w w' := by
  have bz := Blk.new w 93 #[.int .i64 1, .int .i64 64, F.fnV 76, F.fnV 77, F.fnV 78, F.fnV 79]
  have k0 := (Keep.refl NoB w).alloc (.cells #[.int .i64 1, .int .i64 64, F.fnV 76, F.fnV 77, F.fnV 78, F.fnV 79] 93)
  have HB := Lib.hid bz
  have HK := Lib.hid k0
  unfold partF F.fnV at *
  clear bz k0
  go_enter Tryz.func39, Tryz.ntmps39
  go_wp2
  refine bodyPost_ret (results_cell_row rfl _ _ w.heap.size 93 _ (0, 0) _ rfl HB.out Tryz.underlying93 rfl partF_size) rfl ?_
  exact ⟨rfl, HK.out⟩

end Go.Proofs.YtgifflfjhockaaaGreatDoor.I

namespace Go.Proofs.YtgifflfjhockaaaGreatDoor.I
open Go.RowKit W

theorem shape_info : (Tryz.prog.info? 58).map (fun i => (i.zero, i.size, i.bytes)) = some (some (.slice none 0 0), 1, 24) := by kernel_rfl
theorem fun_info : (Tryz.prog.info? 61).map (fun i => (i.zero, i.size, i.bytes)) = some (some (.agg F.nilV.cells), 5, 112) := by kernel_rfl
/-- Parts that are owned, each. -/
def OwnS (W : World) (P : Nat → Prop) (e : SE) : Prop := Own W 3 1 P (.slice e.1.A e.1.n e.1.c) e.1.n (ivs e.2)
theorem OwnS.keep {W W' : World} {P O : Nat → Prop} {e : SE} (h : OwnS W P e) (hk : Keep O W W') (hn : ∀ k, P k → ¬ O k) : OwnS W' P e := by
  unfold OwnS at *
  exact h.keep hk hn
theorem OwnS.mono {W : World} {P P' : Nat → Prop} {e : SE} (h : OwnS W P e) (hP : ∀ k, P k → k < W.heap.size → P' k) : OwnS W P' e := by
  unfold OwnS at *
  exact h.mono hP
/-- Parts that are owned, each. -/
def OwnF (W : World) (P : Nat → Prop) (e : FE) : Prop := F.OwnF W P e.1 e.2
theorem OwnF.keep {W W' : World} {P O : Nat → Prop} {e : FE} (h : OwnF W P e) (hk : Keep O W W') (hn : ∀ k, P k → ¬ O k) : OwnF W' P e := by
  unfold OwnF at *
  exact h.keep hk hn
theorem OwnF.mono {W : World} {P P' : Nat → Prop} {e : FE} (h : OwnF W P e) (hP : ∀ k, P k → k < W.heap.size → P' k) : OwnF W P' e := by
  unfold OwnF at *
  exact h.mono hP
end Go.Proofs.YtgifflfjhockaaaGreatDoor.I

namespace Go.Proofs.YtgifflfjhockaaaGreatDoor.I
open Go.RowKit W

theorem img_size : (Tryz.prog.info? 25).map (·.size) = some 2 := by kernel_rfl
theorem ret_img {fn : Func} {p : Tmp} {tmps : Array Value} {w : World} {g : Nat} {v : IV} (h : fn.results = #[.cell p 25]) (hp : tmps.getD p undef = .pointer (some ⟨g, 0, none⟩)) (hb : Blk w g 25 v.cells) :
    (results fn tmps).run Tryz.prog w = .ok v.val w :=
  results_cell_row h tmps w g 25 v.cells (0, 0) _ hp hb Tryz.underlying25 rfl img_size
theorem put2_img {W : World} {g : Nat} {x y : Value} (h : Blk W g 25 #[x, y]) (u v : Value) : Blk ((W.setCell ⟨g, 0, none⟩ u).setCell ⟨g, 1, none⟩ v) g 25 #[u, v] := by
  have := (h.put 0 u).put 1 v
  simpa using this
theorem keep2_img (W : World) (g : Nat) (u v : Value) : Keep (fun k => k = g) W ((W.setCell ⟨g, 0, none⟩ u).setCell ⟨g, 1, none⟩ v) :=
  ((Keep.refl (fun k => k = g) W).setCell (p := ⟨g, 0, none⟩) (fun _ => rfl) u).setCell (p := ⟨g, 1, none⟩) (fun _ => rfl) v
end Go.Proofs.YtgifflfjhockaaaGreatDoor.I

namespace Go.Proofs.YtgifflfjhockaaaGreatDoor.F
open Go.RowKit W

theorem rd_older {w0 w w' : World} {O : Nat → Prop} {A : Option Addr} {xs : List Value} (h2 : Rd w0 A xs) (h1 : Rd w A xs) (hk : Keep O w w') (hO : ∀ k, k < w0.heap.size → ¬ O k) : Rd w' A xs := fun hx => by
  obtain ⟨g, off, e, hc⟩ := h2 hx
  obtain ⟨g', off', e', hc'⟩ := h1 hx
  rw [e] at e'
  injection e' with e'
  injection e' with e1 e2
  subst e1 e2
  refine ⟨g, off, e, fun j u hu => hk.cell (hc' j u hu) (fun ho => ?_)⟩
  have := World.block_lt_of_cell? w0 _ (hc j u hu)
  exact hO _ this ho
/-- How Copy ends. -/
def CpyR (w : World) (f : Fu) (e : Ending) (w' : World) : Prop := ∃ u, e = .returned (FV.val u) ∧ OwnF w' (Fresh w) u f ∧ Keep NoB w w'
theorem iis_one (l : List C.I3) : ∀ u ∈ C.iis l, u.oneCell' = true := by
  intro u hu
  obtain ⟨b, _, hb⟩ := List.mem_flatMap.1 hu
  simp only [List.mem_cons, List.not_mem_nil, or_false] at hb
  rcases hb with rfl | rfl | rfl <;> rfl
/-- What the values are that Copy's region yields. -/
def SP (v : FV) (f : Fu) (x m : Nat) : Nat → Value → World → Prop
  | 0 => fun u _ => u = .pointer (some ⟨x, 0, none⟩)
  | 1 => fun u _ => u = .string v.S
  | 2 => fun u _ => u = .pointer (some ⟨x, 1, none⟩)
  | 3 => fun u _ => u = .pointer (some ⟨x, 1, none⟩)
  | 4 => fun u _ => u = .slice v.A v.na v.ca
  | 5 => fun u w => ∃ A c, u = .slice A v.na c ∧ Own w 3 1 (fun k => m ≤ k) (.slice A v.na c) v.na (ivs f.ar)
  | 6 => fun u _ => u = .pointer (some ⟨x, 1, none⟩)
  | 7 => fun u _ => u = .pointer (some ⟨x, 2, none⟩)
  | 8 => fun u _ => u = .slice v.B v.nb v.cb
  | 9 => fun u w => ∃ A c, u = .slice A v.nb c ∧ Own w 3 1 (fun k => m ≤ k) (.slice A v.nb c) v.nb (ivs f.rs)
  | 10 => fun u w => ∃ A c B d, u = .agg #[.slice A v.na c, .slice B v.nb d] ∧ Own w 3 1 (fun k => m ≤ k) (.slice A v.na c) v.na (ivs f.ar) ∧ Own w 3 1 (fun k => m ≤ k) (.slice B v.nb d) v.nb (ivs f.rs)
  | 11 => fun u _ => u = .pointer (some ⟨x, 3, none⟩)
  | 12 => fun u _ => u = .slice v.L v.nl v.cl
  | 13 => fun u w => ∃ A c, u = .slice A v.nl c ∧ Own w 3 1 (fun k => m ≤ k) (.slice A v.nl c) v.nl (ivs f.lc)
  | 14 => fun u _ => u = .pointer (some ⟨x, 4, none⟩)
  | 15 => fun u _ => u = .slice v.D v.nd v.cd
  | 16 => fun u w => ∃ A c, u = .slice A v.nd c ∧ Own w 63 3 (fun k => m ≤ k) (.slice A v.nd c) v.nd (C.iis f.bd)
  | 17 => fun u w => ∃ z : FV, u = .agg z.cells ∧ OwnF w (fun k => m ≤ k) z f
  | 18 => fun _ w => ∃ z : FV, Blk w (x + 1) 61 z.cells ∧ OwnF w (fun k => m ≤ k) z f
  | _ => fun _ _ => True
theorem SP_stable1 (v : FV) (f : Fu) (x m : Nat) (O : Nat → Prop) (hO : ∀ k, m ≤ k → ¬ O k) : ∀ i u w w', i ≠ 18 → SP v f x m i u w → Keep O w w' → SP v f x m i u w'
  | 0, _, _, _, _, h, _ => h
  | 1, _, _, _, _, h, _ => h
  | 2, _, _, _, _, h, _ => h
  | 3, _, _, _, _, h, _ => h
  | 4, _, _, _, _, h, _ => h
  | 5, _, _, _, _, ⟨A, c, e, h⟩, hk => ⟨A, c, e, h.keep hk hO⟩
  | 6, _, _, _, _, h, _ => h
  | 7, _, _, _, _, h, _ => h
  | 8, _, _, _, _, h, _ => h
  | 9, _, _, _, _, ⟨A, c, e, h⟩, hk => ⟨A, c, e, h.keep hk hO⟩
  | 10, _, _, _, _, ⟨A, c, B, d, e, h1, h2⟩, hk => ⟨A, c, B, d, e, h1.keep hk hO, h2.keep hk hO⟩
  | 11, _, _, _, _, h, _ => h
  | 12, _, _, _, _, h, _ => h
  | 13, _, _, _, _, ⟨A, c, e, h⟩, hk => ⟨A, c, e, h.keep hk hO⟩
  | 14, _, _, _, _, h, _ => h
  | 15, _, _, _, _, h, _ => h
  | 16, _, _, _, _, ⟨A, c, e, h⟩, hk => ⟨A, c, e, h.keep hk hO⟩
  | 17, _, _, _, _, ⟨z, e, h⟩, hk => ⟨z, e, h.keep hk hO⟩
  | 18, _, _, _, h, _, _ => absurd rfl h
  | _ + 19, _, _, _, _, h, _ => h
theorem SP_stable2 (v : FV) (f : Fu) (x m : Nat) (i : Nat) (u : Value) (w w' : World) (h : SP v f x m i u w) (hk : Keep NoB w w') : SP v f x m i u w' := by
  by_cases e : i = 18
  · subst e
    obtain ⟨z, h1, h2⟩ := h
    exact ⟨z, h1.keep hk id, h2.keepN hk⟩
  · exact SP_stable1 v f x m NoB (fun _ _ => id) i u w w' e h hk
theorem ret_fun1 {fn : Func} {p : Tmp} {tmps : Array Value} {w : World} {g : Nat} {v : FV} (h : fn.results = #[.cell p 61]) (hp : tmps.getD p undef = .pointer (some ⟨g, 0, none⟩)) (hb : Blk w g 61 v.cells) :
    (results fn tmps).run Tryz.prog w = .ok v.val w := ret_fun h hp hb

set_option maxRecDepth 100000 in
set_option maxHeartbeats 8000000 in
theorem copyF_any (v : FV) (f : Fu) (w : World) (h : FnAt w v f) (hs : SmF v) :
    Calls Tryz.prog 79 #[v.val] w (CpyR w f) := by
  have bx := (Blk.new w 61 v.cells).alloc (.cells nilV.cells 61)
  have by0 := Blk.new (w.alloc (.cells v.cells 61)) 61 nilV.cells
  have k0 := ((Keep.refl NoB w).alloc (.cells v.cells 61)).alloc (.cells nilV.cells 61)
  rw [World.size_alloc] at by0
  have HF := Lib.hid (h.keepN k0)
  have hlo : w.heap.size + 2 ≤ ((w.alloc (.cells v.cells 61)).alloc (.cells nilV.cells 61)).heap.size := by simp
  obtain ⟨S, A, na, ca, B, nb, cb, L, nl, cl, D, nd, cd⟩ := v
  obtain ⟨q0, q1, q2, q3, q4⟩ := blk5 bx
  obtain ⟨p1, p2, p3, p4⟩ : na ≤ 100 ∧ nb ≤ 100 ∧ nl ≤ 100 ∧ nd ≤ 600 := ⟨hs.na, hs.nb, hs.nl, hs.nd⟩
  dsimp only [FV.val, FV.cells, nilV] at bx by0 k0 HF hlo q0 q1 q2 q3 q4 ⊢
  generalize hw1 : (w.alloc (.cells #[.string S, .slice A na ca, .slice B nb cb, .slice L nl cl, .slice D nd cd] 61)).alloc (.cells #[.string ⟨#[]⟩, .slice none 0 0, .slice none 0 0, .slice none 0 0, .slice none 0 0] 61) = w1 at bx by0 k0 HF hlo q0 q1 q2 q3 q4
  have HY := Lib.hid by0
  have h0 := h
  have HLar : Hid (∀ W, Keep (fun k => k = w.heap.size + 1) w1 W → Rd W A (ivs f.ar)) := fun W hW => rd_older h0.ra HF.out.ra hW (fun k hk e => by omega)
  have HLrs : Hid (∀ W, Keep (fun k => k = w.heap.size + 1) w1 W → Rd W B (ivs f.rs)) := fun W hW => rd_older h0.rb HF.out.rb hW (fun k hk e => by omega)
  have HLlc : Hid (∀ W, Keep (fun k => k = w.heap.size + 1) w1 W → Rd W L (ivs f.lc)) := fun W hW => rd_older h0.rl HF.out.rl hW (fun k hk e => by omega)
  have HLbd : Hid (∀ W, Keep (fun k => k = w.heap.size + 1) w1 W → Rd W D (C.iis f.bd)) := fun W hW => rd_older h0.rd HF.out.rd hW (fun k hk e => by omega)
  clear bx by0 hs h h0
  go_enter Tryz.func79, Tryz.ntmps79
  go_wp2_with fail
  clear hw1
  refine wp_region_props5 (fun i => [3, 4, 5, 6, 7, 8, 9, 10, 11, 12, 13, 14, 15, 16, 17, 18, 19, 20, 999].getD i 0) 18 (fun k => k = w.heap.size + 1) (fun _ => false) (by kernel_rfl) (by kernel_rfl) (by kernel_rfl) (SP ⟨S, A, na, ca, B, nb, cb, L, nl, cl, D, nd, cd⟩ f w.heap.size (w.heap.size + 2)) (fun i u x y h1 _ _ h hk => SP_stable1 _ _ _ _ _ (fun k hk e => by omega) i u x y h1 h hk) (fun i u x y _ h hk => SP_stable2 _ _ _ _ i u x y h hk) rfl ?step ?spec ?fin
  case step =>
    intro i o a w' hoo hic hF hK hA
    have hi : i < 19 := by simpa using (Array.getElem?_eq_some_iff.1 hoo).1
    by_cases h0 : i = 0
    · subst h0
      simp only [List.getElem?_toArray, List.getElem?_cons_zero, Option.some.injEq] at hoo
      subst hoo
      have e1 : a.tmps.getD 1 undef = .pointer (some ⟨w.heap.size, 0, none⟩) := hF.2.2 1 (by decide)
      refine Does.plain rfl ?_
      unfold yieldsK
      go_simp
      exact ⟨rfl, Keep.refl _ _⟩
    by_cases h1 : i = 1
    · subst h1
      simp only [List.getElem?_toArray, List.getElem?_cons_zero, List.getElem?_cons_succ, Option.some.injEq] at hoo
      subst hoo
      have e3 : a.tmps.getD 3 undef = .pointer (some ⟨w.heap.size, 0, none⟩) := hA ⟨0, .data⟩ (by simp) rfl
      have c0 := Keep.cell hK q0 (fun e => by simp at e)
      refine Does.plain rfl ?_
      unfold yieldsK
      go_simp
      exact ⟨rfl, Keep.refl _ _⟩
    by_cases h2 : i = 2
    · subst h2
      simp only [List.getElem?_toArray, List.getElem?_cons_zero, List.getElem?_cons_succ, Option.some.injEq] at hoo
      subst hoo
      have e1 : a.tmps.getD 1 undef = .pointer (some ⟨w.heap.size, 0, none⟩) := hF.2.2 1 (by decide)
      refine Does.plain rfl ?_
      unfold yieldsK
      go_simp
      exact ⟨rfl, Keep.refl _ _⟩
    by_cases h3 : i = 3
    · subst h3
      simp only [List.getElem?_toArray, List.getElem?_cons_zero, List.getElem?_cons_succ, Option.some.injEq] at hoo
      subst hoo
      have e5 : a.tmps.getD 5 undef = .pointer (some ⟨w.heap.size, 1, none⟩) := hA ⟨2, .data⟩ (by simp) rfl
      refine Does.plain rfl ?_
      unfold yieldsK
      go_simp
      exact ⟨rfl, Keep.refl _ _⟩
    by_cases h4 : i = 4
    · subst h4
      simp only [List.getElem?_toArray, List.getElem?_cons_zero, List.getElem?_cons_succ, Option.some.injEq] at hoo
      subst hoo
      have e6 : a.tmps.getD 6 undef = .pointer (some ⟨w.heap.size, 1, none⟩) := hA ⟨3, .data⟩ (by simp) rfl
      have c1 := Keep.cell hK q1 (fun e => by simp at e)
      refine Does.plain rfl ?_
      unfold yieldsK
      go_simp
      exact ⟨rfl, Keep.refl _ _⟩
    by_cases h5 : i = 5
    · subst h5
      simp only [List.getElem?_toArray, List.getElem?_cons_zero, List.getElem?_cons_succ, Option.some.injEq] at hoo
      subst hoo
      have e7 : a.tmps.getD 7 undef = .slice A na ca := hA ⟨4, .data⟩ (by simp) rfl
      refine Does.plain rfl ?_
      unfold yieldsK
      go_simp
      refine (cloneInts_any w' A (ivs f.ar) na ca (HLar.out w' hK) (by have := HF.out.la; simpa using this) (ivs_one _) (by omega)).mono ?_
      rintro e w2 ⟨u, rfl, h1, h2⟩
      obtain ⟨A9, c9, rfl, _⟩ := h1.form
      exact ⟨_, rfl, ⟨A9, c9, rfl, h1.mono (fun k (hk : Fresh w' k) _ => (Nat.le_trans (Nat.le_trans hlo hK.size) hk : w.heap.size + 2 ≤ k))⟩, h2⟩
    by_cases h6 : i = 6
    · subst h6
      simp only [List.getElem?_toArray, List.getElem?_cons_zero, List.getElem?_cons_succ, Option.some.injEq] at hoo
      subst hoo
      have e1 : a.tmps.getD 1 undef = .pointer (some ⟨w.heap.size, 0, none⟩) := hF.2.2 1 (by decide)
      refine Does.plain rfl ?_
      unfold yieldsK
      go_simp
      exact ⟨rfl, Keep.refl _ _⟩
    by_cases h7 : i = 7
    · subst h7
      simp only [List.getElem?_toArray, List.getElem?_cons_zero, List.getElem?_cons_succ, Option.some.injEq] at hoo
      subst hoo
      have e9 : a.tmps.getD 9 undef = .pointer (some ⟨w.heap.size, 1, none⟩) := hA ⟨6, .data⟩ (by simp) rfl
      refine Does.plain rfl ?_
      unfold yieldsK
      go_simp
      exact ⟨rfl, Keep.refl _ _⟩
    by_cases h8 : i = 8
    · subst h8
      simp only [List.getElem?_toArray, List.getElem?_cons_zero, List.getElem?_cons_succ, Option.some.injEq] at hoo
      subst hoo
      have e10 : a.tmps.getD 10 undef = .pointer (some ⟨w.heap.size, 2, none⟩) := hA ⟨7, .data⟩ (by simp) rfl
      have c2 := Keep.cell hK q2 (fun e => by simp at e)
      refine Does.plain rfl ?_
      unfold yieldsK
      go_simp
      exact ⟨rfl, Keep.refl _ _⟩
    by_cases h9 : i = 9
    · subst h9
      simp only [List.getElem?_toArray, List.getElem?_cons_zero, List.getElem?_cons_succ, Option.some.injEq] at hoo
      subst hoo
      have e11 : a.tmps.getD 11 undef = .slice B nb cb := hA ⟨8, .data⟩ (by simp) rfl
      refine Does.plain rfl ?_
      unfold yieldsK
      go_simp
      refine (cloneInts_any w' B (ivs f.rs) nb cb (HLrs.out w' hK) (by have := HF.out.lb; simpa using this) (ivs_one _) (by omega)).mono ?_
      rintro e w2 ⟨u, rfl, h1, h2⟩
      obtain ⟨A9, c9, rfl, _⟩ := h1.form
      exact ⟨_, rfl, ⟨A9, c9, rfl, h1.mono (fun k (hk : Fresh w' k) _ => (Nat.le_trans (Nat.le_trans hlo hK.size) hk : w.heap.size + 2 ≤ k))⟩, h2⟩
    by_cases h10 : i = 10
    · subst h10
      simp only [List.getElem?_toArray, List.getElem?_cons_zero, List.getElem?_cons_succ, Option.some.injEq] at hoo
      subst hoo
      obtain ⟨A5, c5, e8, h5⟩ := hA ⟨5, .data⟩ (by simp) rfl
      have e8 : a.tmps.getD 8 undef = .slice A5 na c5 := e8
      obtain ⟨A9, c9, e12, h9⟩ := hA ⟨9, .data⟩ (by simp) rfl
      have e12 : a.tmps.getD 12 undef = .slice A9 nb c9 := e12
      refine Does.plain rfl ?_
      unfold yieldsK
      simp only [Array.getD_eq_getD_getElem?] at e8 e12
      go_simp
      exact ⟨⟨A5, c5, A9, c9, rfl, h5, h9⟩, Keep.refl _ _⟩
    by_cases h11 : i = 11
    · subst h11
      simp only [List.getElem?_toArray, List.getElem?_cons_zero, List.getElem?_cons_succ, Option.some.injEq] at hoo
      subst hoo
      have e1 : a.tmps.getD 1 undef = .pointer (some ⟨w.heap.size, 0, none⟩) := hF.2.2 1 (by decide)
      refine Does.plain rfl ?_
      unfold yieldsK
      go_simp
      exact ⟨rfl, Keep.refl _ _⟩
    by_cases h12 : i = 12
    · subst h12
      simp only [List.getElem?_toArray, List.getElem?_cons_zero, List.getElem?_cons_succ, Option.some.injEq] at hoo
      subst hoo
      have e14 : a.tmps.getD 14 undef = .pointer (some ⟨w.heap.size, 3, none⟩) := hA ⟨11, .data⟩ (by simp) rfl
      have c3 := Keep.cell hK q3 (fun e => by simp at e)
      refine Does.plain rfl ?_
      unfold yieldsK
      go_simp
      exact ⟨rfl, Keep.refl _ _⟩
    by_cases h13 : i = 13
    · subst h13
      simp only [List.getElem?_toArray, List.getElem?_cons_zero, List.getElem?_cons_succ, Option.some.injEq] at hoo
      subst hoo
      have e15 : a.tmps.getD 15 undef = .slice L nl cl := hA ⟨12, .data⟩ (by simp) rfl
      refine Does.plain rfl ?_
      unfold yieldsK
      go_simp
      refine (cloneInts_any w' L (ivs f.lc) nl cl (HLlc.out w' hK) (by have := HF.out.ll; simpa using this) (ivs_one _) (by omega)).mono ?_
      rintro e w2 ⟨u, rfl, h1, h2⟩
      obtain ⟨A9, c9, rfl, _⟩ := h1.form
      exact ⟨_, rfl, ⟨A9, c9, rfl, h1.mono (fun k (hk : Fresh w' k) _ => (Nat.le_trans (Nat.le_trans hlo hK.size) hk : w.heap.size + 2 ≤ k))⟩, h2⟩
    by_cases h14 : i = 14
    · subst h14
      simp only [List.getElem?_toArray, List.getElem?_cons_zero, List.getElem?_cons_succ, Option.some.injEq] at hoo
      subst hoo
      have e1 : a.tmps.getD 1 undef = .pointer (some ⟨w.heap.size, 0, none⟩) := hF.2.2 1 (by decide)
      refine Does.plain rfl ?_
      unfold yieldsK
      go_simp
      exact ⟨rfl, Keep.refl _ _⟩
    by_cases h15 : i = 15
    · subst h15
      simp only [List.getElem?_toArray, List.getElem?_cons_zero, List.getElem?_cons_succ, Option.some.injEq] at hoo
      subst hoo
      have e17 : a.tmps.getD 17 undef = .pointer (some ⟨w.heap.size, 4, none⟩) := hA ⟨14, .data⟩ (by simp) rfl
      have c4 := Keep.cell hK q4 (fun e => by simp at e)
      refine Does.plain rfl ?_
      unfold yieldsK
      go_simp
      exact ⟨rfl, Keep.refl _ _⟩
    by_cases h16 : i = 16
    · subst h16
      simp only [List.getElem?_toArray, List.getElem?_cons_zero, List.getElem?_cons_succ, Option.some.injEq] at hoo
      subst hoo
      have e18 : a.tmps.getD 18 undef = .slice D nd cd := hA ⟨15, .data⟩ (by simp) rfl
      refine Does.plain rfl ?_
      unfold yieldsK
      go_simp
      refine (cloneIns_any w' D (C.iis f.bd) nd cd (HLbd.out w' hK) (by have := HF.out.ld; rw [C.iis_length]; dsimp only at this; omega) (iis_one _) (by omega)).mono ?_
      rintro e w2 ⟨u, rfl, h1, h2⟩
      obtain ⟨A9, c9, rfl, _⟩ := h1.form
      exact ⟨_, rfl, ⟨A9, c9, rfl, h1.mono (fun k (hk : Fresh w' k) _ => (Nat.le_trans (Nat.le_trans hlo hK.size) hk : w.heap.size + 2 ≤ k))⟩, h2⟩
    by_cases h17 : i = 17
    · subst h17
      simp only [List.getElem?_toArray, List.getElem?_cons_zero, List.getElem?_cons_succ, Option.some.injEq] at hoo
      subst hoo
      have e4 : a.tmps.getD 4 undef = .string S := hA ⟨1, .data⟩ (by simp) rfl
      obtain ⟨A5, c5, B5, d5, e13, h5, h6⟩ := hA ⟨10, .data⟩ (by simp) rfl
      have e13 : a.tmps.getD 13 undef = .agg #[.slice A5 na c5, .slice B5 nb d5] := e13
      obtain ⟨A7, c7, e16, h7⟩ := hA ⟨13, .data⟩ (by simp) rfl
      have e16 : a.tmps.getD 16 undef = .slice A7 nl c7 := e16
      obtain ⟨A8, c8, e19, h8⟩ := hA ⟨16, .data⟩ (by simp) rfl
      have e19 : a.tmps.getD 19 undef = .slice A8 nd c8 := e19
      refine Does.plain rfl ?_
      unfold yieldsK
      simp only [Array.getD_eq_getD_getElem?] at e4 e13 e16 e19
      go_simp
      exact ⟨⟨⟨S, A5, na, c5, B5, nb, d5, A7, nl, c7, A8, nd, c8⟩, rfl, ⟨HF.out.nm, h5, h6, h7, h8, HF.out.hI⟩⟩, Keep.refl _ _⟩
    omega
  case spec =>
    intro o a w' hoo hF hK hA
    simp only [List.getElem?_toArray, List.getElem?_cons_zero, List.getElem?_cons_succ, Option.some.injEq] at hoo
    subst hoo
    obtain ⟨z, e20, hz⟩ := hA ⟨17, .data⟩ (by simp) rfl
    have e20 : a.tmps.getD 20 undef = .agg z.cells := e20
    have e2 : a.tmps.getD 2 undef = .pointer (some ⟨w.heap.size + 1, 0, none⟩) := hF.2.2 2 (by decide)
    have hb := HY.out.keep hK id
    have HB := Lib.hid (And.intro (blk_put5 hb z) (And.intro (hz.keep (keep_at5 w' (w.heap.size + 1) z) (fun k hk e => by omega)) (keep_at5 w' (w.heap.size + 1) z)))
    have ⟨d0, d1, d2, d3, d4⟩ := blk5 (v := nilV) hb
    have fz := fun i => hb.frozen i
    refine Does.plain rfl ?_
    unfold yieldsK
    unfold FV.cells at e20
    simp only [Array.getD_eq_getD_getElem?] at e20 e2
    clear hz hb
    go_simp
    exact ⟨fun _ => ⟨z, HB.out.1, HB.out.2.1⟩, HB.out.2.2⟩
  case fin =>
    intro a w' hF gK hA
    obtain ⟨z, hb, hz⟩ := hA 18 (by decide)
    have ha := frameD_list (l := [3, 4, 5, 6, 7, 8, 9, 10, 11, 12, 13, 14, 15, 16, 17, 18, 19, 20, 999]) rfl hF
    rw [ha]
    simp only [List.map_cons, List.map_nil]
    generalize a.tmps.getD 3 undef = u0
    generalize a.tmps.getD 4 undef = u1
    generalize a.tmps.getD 5 undef = u2
    generalize a.tmps.getD 6 undef = u3
    generalize a.tmps.getD 7 undef = u4
    generalize a.tmps.getD 8 undef = u5
    generalize a.tmps.getD 9 undef = u6
    generalize a.tmps.getD 10 undef = u7
    generalize a.tmps.getD 11 undef = u8
    generalize a.tmps.getD 12 undef = u9
    generalize a.tmps.getD 13 undef = u10
    generalize a.tmps.getD 14 undef = u11
    generalize a.tmps.getD 15 undef = u12
    generalize a.tmps.getD 16 undef = u13
    generalize a.tmps.getD 17 undef = u14
    generalize a.tmps.getD 18 undef = u15
    generalize a.tmps.getD 19 undef = u16
    generalize a.tmps.getD 20 undef = u17
    generalize a.tmps.getD 999 undef = u18
    simp only [fillD, List.setIfInBounds_toArray, List.set_cons_zero, List.set_cons_succ, List.set_nil]
    have HB := Lib.hid hb
    have HK9 := Lib.hid (k0.trans gK (fun k e hk => by omega))
    have HO9 := Lib.hid (hz.mono (P' := Fresh w) (fun k hk _ => by unfold Fresh; omega))
    clear gK hA hF ha HF HY q0 q1 q2 q3 q4 hb hz k0 hlo HLar HLrs HLlc HLbd
    go_wp2
    refine bodyPost_ret (ret_fun1 (v := z) rfl rfl HB.out) rfl ?_
    exact ⟨z, rfl, HO9.out, HK9.out⟩

end Go.Proofs.YtgifflfjhockaaaGreatDoor.F

namespace Go.Proofs.YtgifflfjhockaaaGreatDoor.F
open Go.RowKit W

/-- What the values are that the document's Copy's region yields. -/
def SQ (v : FV) (f : Fu) (x m : Nat) : Nat → Value → World → Prop
  | 0 => fun u _ => u = .pointer (some ⟨x, 0, none⟩)
  | 1 => fun u _ => u = .string v.S
  | 2 => fun u _ => u = .pointer (some ⟨x, 1, none⟩)
  | 3 => fun u _ => u = .agg #[.slice v.A v.na v.ca, .slice v.B v.nb v.cb]
  | 4 => fun u w => ∃ A c B d, u = .agg #[.slice A v.na c, .slice B v.nb d] ∧ Own w 3 1 (fun k => m ≤ k) (.slice A v.na c) v.na (ivs f.ar) ∧ Own w 3 1 (fun k => m ≤ k) (.slice B v.nb d) v.nb (ivs f.rs)
  | 5 => fun u w => ∃ A c B d, u = .agg #[.string v.S, .slice A v.na c, .slice B v.nb d, .slice none 0 0, .slice none 0 0] ∧ Own w 3 1 (fun k => m ≤ k) (.slice A v.na c) v.na (ivs f.ar) ∧ Own w 3 1 (fun k => m ≤ k) (.slice B v.nb d) v.nb (ivs f.rs)
  | 6 => fun u w => ∃ g, u = .pointer (some ⟨g, 0, none⟩) ∧ m ≤ g ∧ Blk w g 61 #[.string ⟨#[]⟩, .slice none 0 0, .slice none 0 0, .slice none 0 0, .slice none 0 0]
  | _ => fun _ _ => True
theorem SQ_stable (v : FV) (f : Fu) (x m : Nat) : ∀ i u w w', SQ v f x m i u w → Keep NoB w w' → SQ v f x m i u w'
  | 0, _, _, _, h, _ => h
  | 1, _, _, _, h, _ => h
  | 2, _, _, _, h, _ => h
  | 3, _, _, _, h, _ => h
  | 4, _, _, _, ⟨A, c, B, d, e, h1, h2⟩, hk => ⟨A, c, B, d, e, h1.keepN hk, h2.keepN hk⟩
  | 5, _, _, _, ⟨A, c, B, d, e, h1, h2⟩, hk => ⟨A, c, B, d, e, h1.keepN hk, h2.keepN hk⟩
  | 6, _, _, _, ⟨g, e, hm, hb⟩, hk => ⟨g, e, hm, hb.keep hk id⟩
  | _ + 7, _, _, _, h, _ => h

/-- A row that is owned lies in no block of another type. -/
theorem own_off {w : World} {E t size n g c : Nat} {P : Nat → Prop} {A : Option Addr} {xs : List Value} {cs : Array Value} (h : Own w E size P (.slice A n c) n xs) (hb : Blk w g t cs) (hne : E ≠ t) : Own w E size (fun k => P k ∧ k ≠ g) (.slice A n c) n xs :=
  ⟨h.1, fun k e => ⟨h.2 k e, fun ek => by
    subst ek
    rcases h.1.2 with ⟨h2, _⟩ | ⟨g', cap, cur, h2, _, hh, _⟩
    · rw [h2] at e; cases e
    · rw [h2] at e
      injection e with e
      subst e
      have hbb : w.heap[g']? = some (.cells cs t (0, 0)) := hb
      rw [hh] at hbb
      injection hbb with hbb
      injection hbb with _ h4 _
      exact hne h4⟩⟩
/-- A row that append has made of nothing. -/
theorem own_app {w w' : World} {E size n c : Nat} {P : Nat → Prop} {A : Option Addr} {xs : List Value} (h : w'.ownsRow 0 E size (.slice A n c) n ([] ++ xs)) (hv : (Value.slice A n c).ownBlock = (Value.slice none 0 0).ownBlock ∨ (Value.slice A n c).ownBlock = some w.heap.size) (hP : ∀ k, w.heap.size ≤ k → P k) : Own w' E size P (.slice A n c) n xs := by
  rw [List.nil_append] at h
  refine ⟨h, fun k e => ?_⟩
  rcases hv with h1 | h1
  · rw [h1] at e; cases e
  · rw [h1] at e
    injection e with e
    exact hP k (by omega)

set_option maxRecDepth 100000 in
set_option maxHeartbeats 8000000 in
theorem rcopyF_any (v : FV) (f : Fu) (w : World) (h : FnAt w v f) (hs : SmF v) :
    Calls Tryz.prog 34 #[v.val] w (CpyR w f) := by
  obtain ⟨i0, hi, hz0, hz1, hz2⟩ := info_parts int_info
  obtain ⟨j0, hj, hy0, hy1, hy2⟩ := info_parts inst_info
  have bx := (Blk.new w 61 v.cells).alloc (.cells nilV.cells 61)
  have by0 := Blk.new (w.alloc (.cells v.cells 61)) 61 nilV.cells
  have k0 := ((Keep.refl NoB w).alloc (.cells v.cells 61)).alloc (.cells nilV.cells 61)
  rw [World.size_alloc] at by0
  have HF := Lib.hid (h.keepN k0)
  have hlo : w.heap.size + 2 ≤ ((w.alloc (.cells v.cells 61)).alloc (.cells nilV.cells 61)).heap.size := by simp
  obtain ⟨S, A, na, ca, B, nb, cb, L, nl, cl, D, nd, cd⟩ := v
  obtain ⟨q0, q1, q2, q3, q4⟩ := blk5 bx
  obtain ⟨p1, p2, p3, p4⟩ : na ≤ 100 ∧ nb ≤ 100 ∧ nl ≤ 100 ∧ nd ≤ 600 := ⟨hs.na, hs.nb, hs.nl, hs.nd⟩
  dsimp only [FV.val, FV.cells, nilV] at bx by0 k0 HF hlo q0 q1 q2 q3 q4 ⊢
  generalize hw1 : (w.alloc (.cells #[.string S, .slice A na ca, .slice B nb cb, .slice L nl cl, .slice D nd cd] 61)).alloc (.cells #[.string ⟨#[]⟩, .slice none 0 0, .slice none 0 0, .slice none 0 0, .slice none 0 0] 61) = w1 at bx by0 k0 HF hlo q0 q1 q2 q3 q4
  have HX := Lib.hid bx
  have HY := Lib.hid by0
  have HG := Lib.hid (fun W hk => rcopyG_any A f.ar na ca B f.rs nb cb W (HF.out.keepN hk).ra (HF.out.keepN hk).rb h.la h.lb p1 p2)
  have hbl := by0.lt
  have HRL : Hid (Rd w L (ivs f.lc)) := h.rl
  have HRD : Hid (Rd w D (C.iis f.bd)) := h.rd
  clear bx by0 hs h
  go_enter Tryz.func34, Tryz.ntmps34
  go_wp2_with fail
  clear hw1
  refine wp_region_tail (fun i => [4, 5, 6, 7, 8, 9, 3].getD i 0) 7 (by kernel_rfl) (by kernel_rfl) (by kernel_rfl) (by kernel_rfl) (by kernel_rfl) (SQ ⟨S, A, na, ca, B, nb, cb, L, nl, cl, D, nd, cd⟩ f w.heap.size (w.heap.size + 2)) (fun i u x y h hk => SQ_stable _ _ _ _ i u x y h hk) rfl ?step ?fin
  case step =>
    intro i o a w' hoo hi hF hK hA
    by_cases h0 : i = 0
    · subst h0
      simp only [List.getElem?_toArray, List.getElem?_cons_zero, Option.some.injEq] at hoo
      subst hoo
      have e1 : a.tmps.getD 1 undef = .pointer (some ⟨w.heap.size, 0, none⟩) := hF.2.2 1 (by decide)
      refine Does.plain rfl ?_
      unfold yieldsK
      go_simp
      exact ⟨rfl, Keep.refl _ _⟩
    by_cases h1 : i = 1
    · subst h1
      simp only [List.getElem?_toArray, List.getElem?_cons_zero, List.getElem?_cons_succ, Option.some.injEq] at hoo
      subst hoo
      have e4 : a.tmps.getD 4 undef = .pointer (some ⟨w.heap.size, 0, none⟩) := hA ⟨0, .data⟩ (by simp) rfl
      have c0 := Keep.cell hK q0 id
      refine Does.plain rfl ?_
      unfold yieldsK
      go_simp
      exact ⟨rfl, Keep.refl _ _⟩
    by_cases h2 : i = 2
    · subst h2
      simp only [List.getElem?_toArray, List.getElem?_cons_zero, List.getElem?_cons_succ, Option.some.injEq] at hoo
      subst hoo
      have e1 : a.tmps.getD 1 undef = .pointer (some ⟨w.heap.size, 0, none⟩) := hF.2.2 1 (by decide)
      refine Does.plain rfl ?_
      unfold yieldsK
      go_simp
      exact ⟨rfl, Keep.refl _ _⟩
    by_cases h3 : i = 3
    · subst h3
      simp only [List.getElem?_toArray, List.getElem?_cons_zero, List.getElem?_cons_succ, Option.some.injEq] at hoo
      subst hoo
      have e6 : a.tmps.getD 6 undef = .pointer (some ⟨w.heap.size, 1, none⟩) := hA ⟨2, .data⟩ (by simp) rfl
      have c1 := Keep.cell hK q1 id
      have c2 := Keep.cell hK q2 id
      refine Does.plain rfl ?_
      unfold yieldsK
      go_simp
      exact ⟨rfl, Keep.refl _ _⟩
    by_cases h4 : i = 4
    · subst h4
      simp only [List.getElem?_toArray, List.getElem?_cons_zero, List.getElem?_cons_succ, Option.some.injEq] at hoo
      subst hoo
      have e7 : a.tmps.getD 7 undef = .agg #[.slice A na ca, .slice B nb cb] := hA ⟨3, .data⟩ (by simp) rfl
      refine Does.plain rfl ?_
      unfold yieldsK
      go_simp
      refine (HG.out w' hK).mono ?_
      rintro e w2 ⟨v1, v2, rfl, h1, h2, h3⟩
      obtain ⟨A1, c1, rfl, _⟩ := h1.form
      obtain ⟨A2, c2, rfl, _⟩ := h2.form
      exact ⟨_, rfl, ⟨A1, c1, A2, c2, rfl, h1.mono (fun k (hk : Fresh w' k) _ => (Nat.le_trans (Nat.le_trans hlo hK.size) hk : w.heap.size + 2 ≤ k)), h2.mono (fun k (hk : Fresh w' k) _ => (Nat.le_trans (Nat.le_trans hlo hK.size) hk : w.heap.size + 2 ≤ k))⟩, h3⟩
    by_cases h5 : i = 5
    · subst h5
      simp only [List.getElem?_toArray, List.getElem?_cons_zero, List.getElem?_cons_succ, Option.some.injEq] at hoo
      subst hoo
      have e5 : a.tmps.getD 5 undef = .string S := hA ⟨1, .data⟩ (by simp) rfl
      obtain ⟨A5, c5, B5, d5, e8, h5, h6⟩ := hA ⟨4, .data⟩ (by simp) rfl
      have e8 : a.tmps.getD 8 undef = .agg #[.slice A5 na c5, .slice B5 nb d5] := e8
      refine Does.plain rfl ?_
      unfold yieldsK
      simp only [Array.getD_eq_getD_getElem?] at e5 e8
      go_simp
      exact ⟨⟨A5, c5, B5, d5, rfl, h5, h6⟩, Keep.refl _ _⟩
    by_cases h6 : i = 6
    · subst h6
      simp only [List.getElem?_toArray, List.getElem?_cons_zero, List.getElem?_cons_succ, Option.some.injEq] at hoo
      subst hoo
      refine Does.plain rfl ?_
      unfold yieldsK
      go_simp
      exact ⟨⟨w'.heap.size, rfl, Nat.le_trans hlo hK.size, Blk.new _ _ _⟩, (Keep.refl _ _).alloc _⟩
    omega
  case fin =>
    intro a w' hF gK hA
    obtain ⟨A5, c5, B5, d5, e9, h5, h6⟩ := hA 5 (by decide)
    obtain ⟨g, e3, hg, hb⟩ := hA 6 (by decide)
    have e9 : a.tmps.getD 9 undef = .agg #[.string S, .slice A5 na c5, .slice B5 nb d5, .slice none 0 0, .slice none 0 0] := e9
    have e3 : a.tmps.getD 3 undef = .pointer (some ⟨g, 0, none⟩) := e3
    have ha := frameD_list (l := [4, 5, 6, 7, 8, 9, 3]) rfl hF
    rw [ha]
    simp only [List.map_cons, List.map_nil, e9, e3]
    generalize a.tmps.getD 4 undef = u0
    generalize a.tmps.getD 5 undef = u1
    generalize a.tmps.getD 6 undef = u2
    generalize a.tmps.getD 7 undef = u3
    generalize a.tmps.getD 8 undef = u4
    simp only [fillD, List.setIfInBounds_toArray, List.set_cons_zero, List.set_cons_succ]
    simp only [List.drop_succ_cons, List.drop_zero]
    have bg0 := blk_put5 hb ⟨S, A5, na, c5, B5, nb, d5, none, 0, 0, none, 0, 0⟩
    have kg0 := keep_at5 w' g ⟨S, A5, na, c5, B5, nb, d5, none, 0, 0, none, 0, 0⟩
    have hgl := hb.lt
    have hxl := (HX.out.keep gK id).lt
    have hO5 := (own_off h5 hb (by decide)).keep kg0 (fun k hk e => hk.2 e)
    have hO6 := (own_off h6 hb (by decide)).keep kg0 (fun k hk e => hk.2 e)
    have bx0 := (HX.out.keep gK id).keep kg0 (fun e => by omega)
    have bs0 := (HY.out.keep gK id).keep kg0 (fun e => by omega)
    have hrl := rd_older HRL.out (HF.out.keepN gK).rl kg0 (fun k hk e => by omega)
    have hrd := rd_older HRD.out (HF.out.keepN gK).rd kg0 (fun k hk e => by omega)
    have HN := Lib.hid (And.intro HF.out.nm (And.intro HF.out.hI (And.intro HF.out.ll HF.out.ld)))
    have hsz0 := kg0.size
    have HK0 := (keepN k0 gK).trans kg0 (fun k e hk => by omega)
    obtain ⟨d0, d1, d2, d3, d4⟩ := blk5 (v := nilV) hb
    obtain ⟨x0, x1, x2, x3, x4⟩ := blk5 (v := ⟨S, A, na, ca, B, nb, cb, L, nl, cl, D, nd, cd⟩) (HX.out.keep gK id)
    have fz := fun i => hb.frozen i
    have hgx : w.heap.size ≠ g := by omega
    have hl1 : (ivs f.lc).length = nl * 1 := by have := HN.out.2.2.1; simpa using this
    have hl2 : (C.iis f.bd).length = nd * 3 := by have := HN.out.2.2.2; rw [C.iis_length]; dsimp only at this; omega
    have HALL := Lib.hid (And.intro hO5 (And.intro hO6 (And.intro bx0 (And.intro bs0 (And.intro hrl (And.intro hrd (And.intro HK0 (And.intro bg0 (And.intro hl1 (And.intro hl2 (And.intro hsz0 (And.intro (ivs_one f.lc) (iis_one f.bd)))))))))))))
    clear hA hF ha hb gK HX HY HF h5 h6 HG q0 q1 q2 q3 q4 k0 hO5 hO6 bx0 bs0 hrl hrd HK0 bg0 hl1 hl2 hsz0 kg0 HRL
    unfold nilV at d0 d1 d2 d3 d4
    dsimp only at d0 d1 d2 d3 d4 x0 x1 x2 x3 x4
    go_wp2_with (first
      | (at_builtin; obtain ⟨hO5, hO6, bx0, bs0, hrl, hrd, HK0, bg0, hl1, hl2, hsz0, ho1, ho2⟩ := HALL.out; refine wpList_append_rd (put5 w' g ⟨S, A5, na, c5, B5, nb, d5, none, 0, 0, none, 0, 0⟩) rfl (.tmp 11) (.tmp 13) _ rfl 3 1 8 i0 _ Tryz.underlying55 hi hz0 hz1 hz2 rfl (by decide) (.slice none 0 0) 0 [] L nl cl (ivs f.lc) rfl (World.ownsRow_nil _ _ _ _) rfl hrl hl1 ho1 (by unfold maxLen; omega) (by omega) ?_; intro A7 c7 w7 hrow7 hg7 hv7; rw [Nat.zero_add] at hrow7 hv7 ⊢; clear d0 d1 d2 d3 d4 x0 x1 x2 x3 x4 fz HALL; have k7 : Keep NoB _ w7 := (Keep.refl NoB _).grown hg7 (fun g e _ => by cases e); have bg7 := bg0.keep k7 id; have bx7 := bx0.keep k7 id; obtain ⟨d0, d1, d2, d3, d4⟩ := blk5 (v := ⟨S, A5, na, c5, B5, nb, d5, none, 0, 0, none, 0, 0⟩) bg7; obtain ⟨x0, x1, x2, x3, x4⟩ := blk5 (v := ⟨S, A, na, ca, B, nb, cb, L, nl, cl, D, nd, cd⟩) bx7; have fz := fun i => bg7.frozen i; have hO7 : Own w7 3 1 (fun k => w.heap.size + 2 ≤ k ∧ k ≠ g) (.slice A7 nl c7) nl (ivs f.lc) := own_app hrow7 hv7 (fun k hk => ⟨by omega, by omega⟩); have HALL := Lib.hid (And.intro (hO5.keepN k7) (And.intro (hO6.keepN k7) (And.intro hO7 (And.intro bx7 (And.intro (bs0.keep k7 id) (And.intro (hrd.keepN k7) (And.intro (keepN HK0 k7) (And.intro bg7 (And.intro hl2 (And.intro (Nat.le_trans hsz0 k7.size) ho2)))))))))); clear hO5 hO6 bx0 bs0 hrl hrd HK0 bg0 hl1 hl2 hsz0 ho1 ho2 k7 bg7 bx7 hO7 hrow7 hg7 hv7)
      | (at_builtin; obtain ⟨hO5, hO6, hO7, bx7, bs7, hrd, HK7, bg7, hl2, hsz7, ho2⟩ := HALL.out; have kp := keep_one w7 g 3 (.slice A7 nl c7); have hp := Nat.le_trans hsz7 kp.size; refine wpList_append_rd (w7.setCell ⟨g, 3, none⟩ (.slice A7 nl c7)) rfl (.tmp 17) (.tmp 19) _ rfl 63 3 24 j0 _ Tryz.underlying59 hj hy0 hy1 hy2 rfl (by decide) (.slice none 0 0) 0 [] D nd cd (C.iis f.bd) rfl (World.ownsRow_nil _ _ _ _) rfl (rd_older HRD.out hrd kp (fun k hk e => by omega)) hl2 ho2 (by unfold maxLen; omega) (by omega) ?_; intro A9 c9 w9 hrow9 hg9 hv9; rw [Nat.zero_add] at hrow9 hv9 ⊢; clear d0 d1 d2 d3 d4 x0 x1 x2 x3 x4 fz HALL; have k9 : Keep NoB _ w9 := (Keep.refl NoB _).grown hg9 (fun g e _ => by cases e); have bg9 : Blk w9 g 61 (FV.cells ⟨S, A5, na, c5, B5, nb, d5, A7, nl, c7, none, 0, 0⟩) := (bg7.put 3 (.slice A7 nl c7)).keep k9 id; have bs9 := (bs7.keep kp (fun e => by omega)).keep k9 id; obtain ⟨d0, d1, d2, d3, d4⟩ := blk5 (v := ⟨S, A5, na, c5, B5, nb, d5, A7, nl, c7, none, 0, 0⟩) bg9; obtain ⟨x0, x1, x2, x3, x4⟩ := blk5 (v := nilV) bs9; unfold nilV at x0 x1 x2 x3 x4; dsimp only at x0 x1 x2 x3 x4; have fz := fun i => bg9.frozen i; have fy := fun i => bs9.frozen i; have hO9 : Own w9 63 3 (fun k => w.heap.size + 2 ≤ k ∧ k ≠ g) (.slice A9 nd c9) nd (C.iis f.bd) := own_app hrow9 hv9 (fun k hk => ⟨by omega, by omega⟩); have HALL := Lib.hid (And.intro ((hO5.keep kp (fun k hk e => hk.2 e)).keepN k9) (And.intro ((hO6.keep kp (fun k hk e => hk.2 e)).keepN k9) (And.intro ((hO7.keep kp (fun k hk e => hk.2 e)).keepN k9) (And.intro hO9 (And.intro bs9 (And.intro (keepN (HK7.trans kp (fun k e hk => by omega)) k9) bg9)))))); clear hO5 hO6 hO7 bx7 bs7 hrd HK7 bg7 hl2 hsz7 ho2 k9 bg9 bs9 hO9 hrow9 hg9 hv9 kp hp))
    obtain ⟨hO5, hO6, hO7, hO9, bs9, HK9, _⟩ := HALL.out
    have kp := keep_one w9 g 4 (.slice A9 nd c9)
    have bsp := bs9.keep kp (fun e => by omega)
    have kq := keep_at5 (w9.setCell ⟨g, 4, none⟩ (.slice A9 nd c9)) (w.heap.size + 1) ⟨S, A5, na, c5, B5, nb, d5, A7, nl, c7, A9, nd, c9⟩
    have hOF : OwnF (put5 (w9.setCell ⟨g, 4, none⟩ (.slice A9 nd c9)) (w.heap.size + 1) ⟨S, A5, na, c5, B5, nb, d5, A7, nl, c7, A9, nd, c9⟩) (Fresh w) ⟨S, A5, na, c5, B5, nb, d5, A7, nl, c7, A9, nd, c9⟩ f :=
      ((OwnF.keep (W := w9) ⟨HN.out.1, hO5, hO6, hO7, hO9, HN.out.2.1⟩ kp (fun k hk e => hk.2 e)).keep kq (fun k hk e => by omega)).mono (fun k hk _ => by unfold Fresh; omega)
    refine bodyPost_ret (ret_fun1 (v := ⟨S, A5, na, c5, B5, nb, d5, A7, nl, c7, A9, nd, c9⟩) rfl rfl (blk_put5 bsp ⟨S, A5, na, c5, B5, nb, d5, A7, nl, c7, A9, nd, c9⟩)) rfl ?_
    exact ⟨⟨S, A5, na, c5, B5, nb, d5, A7, nl, c7, A9, nd, c9⟩, rfl, hOF, (HK9.trans kp (fun k e hk => by omega)).trans kq (fun k e hk => by omega)⟩

end Go.Proofs.YtgifflfjhockaaaGreatDoor.F
