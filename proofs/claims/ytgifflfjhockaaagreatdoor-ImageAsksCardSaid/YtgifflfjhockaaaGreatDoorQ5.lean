/-
  The document's copy of an image. Conditions: the image's lists lie in memory, and are no greater than statements go through.
  Which images may be: what Check of layer image answers. Conditions: the image's lists lie in memory, each below 2^47.
  Which function has a name: the program's Find, by the iterator, left by a label, and the document's. Conditions: the image's lists lie in memory; no more than 1000 functions.
  Are two functions the same: the program's Same and the document's. Conditions: the functions' lists lie in memory, and are no longer than statements go through.
-/
import Derived.Test.YtgifflfjhockaaaGreatDoorQ4
import Derived.Test.YtgifflfjhockaaaGreatDoorQ3
import Derived.Test.YtgifflfjhockaaaGreatDoorQ2
namespace Go.Proofs.YtgifflfjhockaaaGreatDoor.I
open Go.RowKit W

/-- append of a list of another name. -/
theorem run_app_named (w : World) (S S2 E : TypeId) (hS : Tryz.prog.underlying S = some (.slice E)) (hS2 : Tryz.prog.underlying S2 = some (.slice E)) (ty : TypeId) (args : Array Value) : (Builtin.append_ #[S, S2] ty args).run Tryz.prog w = (Builtin.append_ #[S, S] ty args).run Tryz.prog w := by
  cases h0 : args[0]? with
  | none => simp [Builtin.append_, h0]
  | some s =>
    cases h1 : args[1]? with
    | none => simp [Builtin.append_, h0, h1]
    | some x => cases s <;> simp [Builtin.append_, h0, h1, run_underlying hS, run_underlying hS2]
theorem yields_app {o : Oper} {a : Act} {w w' : World} {R : Value → World → Prop} (s x : Operand) (S S2 : TypeId) (ho : o.op = .call { callee := .builtin .append, args := #[s, x], argTypes := #[S, S2] }) (u v : Value) {v' : Value} (hs : a.eval s = u) (hx : a.eval x = v)
    (hrun : (Builtin.append_ #[S, S2] o.type #[u, v]).run Tryz.prog w = .ok v' w') (h : R v' w') : yieldsK Tryz.prog o a w R := by
  unfold yieldsK execOp
  simp only [ho, resolve, invoke, builtin, Sem.run_bind, Sem.run_pure, Result.andThen_ok, List.map_toArray, List.map_cons, List.map_nil, hs, hx, hrun]
  exact h
/-- A field's row that gets longer. -/
theorem row_append {W W5 : World} {g i : Nat} {T E : TypeId} {sz k m : Nat} {P : Nat → Prop} {cs : Array Value} {v v' : Value} {xs ys : List Value} (hb : Blk W g T cs) (hrow : Own W E sz P v k xs) (hPg : ∀ j, P j → j ≠ g) (hg : W.grownBy W5 v.ownBlock) (hrow5 : W5.ownsRow 0 E sz v' m ys)
    (hv5 : v'.ownBlock = v.ownBlock ∨ v'.ownBlock = some W.heap.size) (hPn : P W.heap.size) :
    Blk W5 g T cs ∧ Own (W5.setCell ⟨g, i, none⟩ v') E sz P v' m ys ∧ Blk (W5.setCell ⟨g, i, none⟩ v') g T (cs.setIfInBounds i v') ∧ Keep (fun j => j = g ∨ v.ownBlock = some j) W (W5.setCell ⟨g, i, none⟩ v') := by
  have hb5 : Blk W5 g T cs := hb.grown hg (fun e => hPg g (hrow.2 g e.symm) rfl)
  have h5 : Own W5 E sz P v' m ys := ⟨hrow5, fun j e => by
    rcases hv5 with h | h
    · exact hrow.2 j (h ▸ e)
    · rw [h] at e; cases e; exact hPn⟩
  have hkk : Keep (fun j => j = g) W5 (W5.setCell ⟨g, i, none⟩ v') := (Keep.refl (fun j => j = g) W5).setCell (p := ⟨g, i, none⟩) (fun _ => rfl) v'
  refine ⟨hb5, h5.keep hkk (fun j hj e => hPg j hj e), hb5.put i v', ((Keep.refl _ W).grown hg (fun j e _ => .inr e)).setCell (fun _ => .inl rfl) v'⟩
theorem row_at {W : World} {g : Nat} {T E : TypeId} {sz k : Nat} {P : Nat → Prop} {cs : Array Value} {v : Value} {xs : List Value} (hb : Blk W g T cs) (hrow : Own W E sz P v k xs) : ∀ j, (j = g ∨ v.ownBlock = some j) → (j = g ∨ P j) ∧ ∃ cs t f, W.heap[j]? = some (.cells cs t f) ∧ (t = T ∨ t = E) := by
  rintro j (rfl | e)
  · exact ⟨.inl rfl, _, _, _, hb, .inl rfl⟩
  · rcases hrow.1.2 with ⟨rfl, _⟩ | ⟨g2, cap, cur, rfl, _, hh, _⟩
    · simp [Value.ownBlock] at e
    · obtain rfl : g2 = j := by simpa [Value.ownBlock] using e
      exact ⟨.inr (hrow.2 _ rfl), _, _, _, hh, .inr rfl⟩
theorem row_ty {W : World} {g : Nat} {T E F : TypeId} {sz k : Nat} {P : Nat → Prop} {cs : Array Value} {v : Value} {xs : List Value} (hb : Blk W g T cs) (hrow : Own W E sz P v k xs) (h1 : F ≠ T) (h2 : F ≠ E) : ∀ j, (j = g ∨ v.ownBlock = some j) → ∀ cs f, W.heap[j]? ≠ some (.cells cs F f) := fun j hj cs f h3 => by
  obtain ⟨_, cs2, t, f2, h4, h5⟩ := row_at hb hrow j hj
  rw [h4] at h3
  cases h3
  exact h5.elim h1 h2
theorem ownF_other {W W' : World} {O P : Nat → Prop} {v : F.FV} {f : F.Fu} (h : F.OwnF W P v f) (hk : Keep O W W') (h1 : ∀ k, O k → ∀ cs f, W.heap[k]? ≠ some (.cells cs 3 f)) (h2 : ∀ k, O k → ∀ cs f, W.heap[k]? ≠ some (.cells cs 63 f)) : F.OwnF W' P v f :=
  ⟨h.nm, own_other h.oa hk h1, own_other h.ob hk h1, own_other h.ol hk h1, own_other h.od hk h2, h.hI⟩
/-- What the values are that a round of shapes yields. -/
def SCs (b m : Nat) (u0 : Value) (X : Option Addr) (nx cx k : Nat) (g off : Nat) (A : Option Addr) (n c : Nat) (l : List Int) : Nat → Value → World → Prop
  | 0 => fun u _ => u = .pointer (some ⟨b + 1 + 1, 0, none⟩)
  | 1 => fun u _ => u = u0
  | 2 => fun u _ => u = .slice none 0 0
  | 3 => fun u _ => u = .pointer (some ⟨b, 0, none⟩)
  | 4 => fun u _ => u = .slice X nx cx
  | 5 => fun u _ => u = .int .i64 (k : Int)
  | 6 => fun u _ => u = .pointer (some ⟨g, off + k, none⟩)
  | 7 => fun u _ => u = .slice A n c
  | 8 => fun u W => ∃ A1 c1, u = .slice A1 n c1 ∧ Own W 3 1 (fun j => m ≤ j) (.slice A1 n c1) n (ivs l)
  | 9 => fun u W => ∃ h A1 c1, u = .slice (some ⟨h, 0, none⟩) 1 1 ∧ Blk W h 58 #[.slice A1 n c1] ∧ Own W 3 1 (fun j => m ≤ j) (.slice A1 n c1) n (ivs l)
  | _ => fun _ _ => True
theorem SCs_stable (b m : Nat) (u0 : Value) (X : Option Addr) (nx cx k : Nat) (g off : Nat) (A : Option Addr) (n c : Nat) (l : List Int) : ∀ i u W W', SCs b m u0 X nx cx k g off A n c l i u W → Keep NoB W W' → SCs b m u0 X nx cx k g off A n c l i u W'
  | 0, _, _, _, h, _ | 1, _, _, _, h, _ | 2, _, _, _, h, _ | 3, _, _, _, h, _ | 4, _, _, _, h, _ | 5, _, _, _, h, _ | 6, _, _, _, h, _ | 7, _, _, _, h, _ => h
  | 8, _, _, _, ⟨A1, c1, e, h⟩, hk => ⟨A1, c1, e, h.keepN hk⟩
  | 9, _, _, _, ⟨h, A1, c1, e, hb, ho⟩, hk => ⟨h, A1, c1, e, hb.keep hk id, ho.keepN hk⟩
  | _ + 10, _, _, _, h, _ => h
/-- What the values are that a round of functions yields. -/
def SCf (b m : Nat) (u0 : Value) (Y : Option Addr) (ny cy k : Nat) (g off : Nat) (fv : F.FV) (f : F.Fu) : Nat → Value → World → Prop
  | 0 => fun u _ => u = .pointer (some ⟨b + 1 + 1, 1, none⟩)
  | 1 => fun u _ => u = u0
  | 2 => fun u _ => u = .pointer (some ⟨b, 1, none⟩)
  | 3 => fun u _ => u = .slice Y ny cy
  | 4 => fun u _ => u = .int .i64 (k : Int)
  | 5 => fun u _ => u = .pointer (some ⟨g, off + k * 5, none⟩)
  | 6 => fun u _ => u = fv.val
  | 7 => fun u W => ∃ q : F.FV, u = q.val ∧ F.OwnF W (fun j => m ≤ j) q f
  | 8 => fun u W => ∃ h, ∃ q : F.FV, u = .slice (some ⟨h, 0, none⟩) 1 1 ∧ Blk W h 61 q.cells ∧ F.OwnF W (fun j => m ≤ j) q f
  | _ => fun _ _ => True
theorem SCf_stable (b m : Nat) (u0 : Value) (Y : Option Addr) (ny cy k : Nat) (g off : Nat) (fv : F.FV) (f : F.Fu) : ∀ i u W W', SCf b m u0 Y ny cy k g off fv f i u W → Keep NoB W W' → SCf b m u0 Y ny cy k g off fv f i u W'
  | 0, _, _, _, h, _ | 1, _, _, _, h, _ | 2, _, _, _, h, _ | 3, _, _, _, h, _ | 4, _, _, _, h, _ | 5, _, _, _, h, _ | 6, _, _, _, h, _ => h
  | 7, _, _, _, ⟨q, e, h⟩, hk => ⟨q, e, h.keepN hk⟩
  | 8, _, _, _, ⟨h, q, e, hb, ho⟩, hk => ⟨h, q, e, hb.keep hk id, ho.keepN hk⟩
  | _ + 9, _, _, _, h, _ => h
theorem rd_blkN {w : World} {g : Nat} {t : TypeId} {cs : Array Value} (h : Blk w g t cs) : Rd w (some ⟨g, 0, none⟩) cs.toList := fun _ => ⟨g, 0, rfl, fun j u hu => by
  rw [Nat.zero_add, h.cell j]; simpa using hu⟩

/-- How Copy ends. -/
def CpI (w : World) (p : Im) (e : Ending) (w' : World) : Prop := ∃ v es fs, e = .returned (IV.val v) ∧ OwnIm w' (Fresh w) v es fs ∧ imOf es fs = p ∧ Keep NoB w w'
/-- What a round leaves. -/
structure CpS (wb W : World) (b k : Nat) (A : Option Addr) (c : Nat) (w2 : Value) (m : Nat) (es es' : List SE) : Prop where
  hb : Blk W (b + 1 + 1) 25 #[.slice A k c, w2]
  hr : Own W 58 1 (fun j => m ≤ j) (.slice A k c) k (svs es')
  hs : ∀ e ∈ es', OwnS W (fun j => m ≤ j) e
  he : (es'.map fun e => e.2) = (es.take k).map fun e => e.2
  hk : Keep (fun j => j = b + 1 + 1) wb W
structure CpF (wb W : World) (b k j : Nat) (A A2 : Option Addr) (c c2 m : Nat) (es' : List SE) (fs fs' : List FE) : Prop where
  hb : Blk W (b + 1 + 1) 25 #[.slice A k c, .slice A2 j c2]
  hr : Own W 58 1 (fun j => m ≤ j) (.slice A k c) k (svs es')
  hs : ∀ e ∈ es', OwnS W (fun j => m ≤ j) e
  hr2 : Own W 61 5 (fun j => m ≤ j) (.slice A2 j c2) j (fvs fs')
  hf : ∀ e ∈ fs', F.OwnF W (fun j => m ≤ j) e.1 e.2
  he : (fs'.map fun e => e.2) = (fs.take j).map fun e => e.2
  hk : Keep (fun j => j = b + 1 + 1) wb W

set_option maxRecDepth 100000 in
set_option maxHeartbeats 4000000 in
theorem rcopyI_any (v : IV) (es : List SE) (fs : List FE) (w : World) (h : ImAt w v es fs) (hs : SmI es fs) :
    Calls Tryz.prog 11 #[v.val] w (CpI w (imOf es fs)) := by
  obtain ⟨i0, hi, hz0, hz1, hz2⟩ := info_parts shape_info
  obtain ⟨j0, hj, hy0, hy1, hy2⟩ := info_parts fun_info
  obtain ⟨n0, hni, hn0, hn1, hn2⟩ := info_parts int_info
  have bx := ((Blk.new w 25 v.cells).alloc (.cells #[.slice none 0 0, .slice none 0 0] 25)).alloc (.cells #[.slice none 0 0, .slice none 0 0] 25)
  have bz := (Blk.new (w.alloc (.cells v.cells 25)) 25 #[.slice none 0 0, .slice none 0 0]).alloc (.cells #[.slice none 0 0, .slice none 0 0] 25)
  have bc := Blk.new ((w.alloc (.cells v.cells 25)).alloc (.cells #[.slice none 0 0, .slice none 0 0] 25)) 25 #[.slice none 0 0, .slice none 0 0]
  have gK := (((Keep.refl NoB w).alloc (.cells v.cells 25)).alloc (.cells #[.slice none 0 0, .slice none 0 0] 25)).alloc (.cells #[.slice none 0 0, .slice none 0 0] 25)
  simp only [World.size_alloc] at bz bc
  have HIW := Lib.hid h
  have hlx := h.lx
  have hly := h.ly
  have HSM := Lib.hid hs
  have hnx := hs.ns
  have hny := hs.nf
  rw [hlx] at hnx
  rw [hly] at hny
  have hmz : ((((w.alloc (.cells v.cells 25)).alloc (.cells #[.slice none 0 0, .slice none 0 0] 25)).alloc (.cells #[.slice none 0 0, .slice none 0 0] 25))).heap.size = w.heap.size + 1 + 1 + 1 := by simp
  clear h hs
  obtain ⟨X, nx, cx, Y, ny, cy⟩ := v
  dsimp only [IV.val, IV.cells] at *
  have gK2 := gK
  obtain ⟨p0, p1⟩ := blk2 (v := ⟨X, nx, cx, Y, ny, cy⟩) bx
  dsimp only at p0 p1
  have HIK := Lib.hid (fun W (hk : Keep (fun j => j = w.heap.size + 1 + 1) _ W) => HIW.out.keep ((gK.mono (fun _ hf _ => hf.elim)).trans hk (fun _ h _ => h)) (fun k hl e => by omega))
  have HBX := Lib.hid bx
  have HBZ := Lib.hid bz
  have HC0 : Hid (CpS (((w.alloc (.cells #[.slice X nx cx, .slice Y ny cy] 25)).alloc (.cells #[.slice none 0 0, .slice none 0 0] 25)).alloc (.cells #[.slice none 0 0, .slice none 0 0] 25)) (((w.alloc (.cells #[.slice X nx cx, .slice Y ny cy] 25)).alloc (.cells #[.slice none 0 0, .slice none 0 0] 25)).alloc (.cells #[.slice none 0 0, .slice none 0 0] 25)) w.heap.size 0 none 0 (.slice none 0 0) (w.heap.size + 1 + 1 + 1) es []) := ⟨bc, Own.nil _ _ _ _, (fun _ h => nomatch h), by simp, Keep.refl _ _⟩
  clear bx bz bc
  go_enter Tryz.func11, Tryz.ntmps11
  go_wp2_with fail
  generalize (((w.alloc (.cells #[.slice X nx cx, .slice Y ny cy] 25)).alloc (.cells #[.slice none 0 0, .slice none 0 0] 25)).alloc (.cells #[.slice none 0 0, .slice none 0 0] 25)) = wb at *
  clear gK2
  go_loopw [4] (fun i wr => ∃ k : Nat, k ≤ nx ∧ i = .int .i64 k ∧ ∃ A c es', Hid (CpS wb wr w.heap.size k A c (.slice none 0 0) (w.heap.size + 1 + 1 + 1) es es')) (fun i _ => nx - (intOf i).toNat)
  case atStart => exact ⟨0, Nat.zero_le _, rfl, _, _, _, HC0.out⟩
  case round =>
    obtain ⟨k, hk, rfl, A, c, es', HC⟩ := hrel
    clear HC0
    have s0 := HC.out.hk.cell p0 (by show ¬ (w.heap.size = w.heap.size + 1 + 1); omega)
    by_cases hlt : k < nx
    · have hke : k < es.length := by omega
      obtain ⟨g, off, rfl, d0⟩ := shape_at (HIK.out wr HC.out.hk).rx hke
      have hsh := (HIK.out wr HC.out.hk).hs _ (List.getElem_mem hke)
      have hsz := HSM.out.sh _ (List.getElem_mem hke)
      obtain ⟨c0, c1⟩ := blk2 (v := ⟨A, k, c, none, 0, 0⟩) HC.out.hb
      dsimp only at c0 c1
      have HT : Hid ((es.take (k + 1)).map (fun e => e.2) = (es.take k).map (fun e => e.2) ++ [es[k].2]) := by
        show _ = _
        rw [List.take_succ_eq_append_getElem hke, List.map_append]; rfl
      have hwz := HC.out.hk.size
      have hel : es'.length = k := by have := congrArg List.length HC.out.he; simp at this; omega
      have HAP := Lib.hid (fun W (hk : Keep NoB wr W) ty => run_append_rd W 55 3 1 8 n0 (.int .i64 0) Tryz.underlying55 hni hn0 hn1 hn2 rfl (by decide) (.slice none 0 0) 0 [] es[k].1.A es[k].1.n es[k].1.c (ivs es[k].2) ty (World.ownsRow_nil _ _ _ _) (hsh.1.keepN hk) (by rw [Nat.mul_one, ← hsh.2]; simp) (one_ivs _) (by unfold maxLen; omega) (by omega))
      clear hsh
      generalize es[k] = e at *
      obtain ⟨⟨A1, n1, c1'⟩, l⟩ := e
      dsimp only at *
      go_wp2_with fail
      refine wp_region_tail (fun i => [15, 16, 17, 18, 19, 20, 21, 22, 23, 24].getD i 0) 10 (by kernel_rfl) (by kernel_rfl) (by kernel_rfl) (by kernel_rfl) (by kernel_rfl) (SCs w.heap.size (w.heap.size + 1 + 1 + 1) (.slice A k c) (some ⟨g, off, none⟩) nx cx k g off A1 n1 c1' l) (fun i u x y h hk => SCs_stable _ _ _ _ _ _ _ _ _ _ _ _ _ i u x y h hk) rfl ?step ?fin
      case step =>
        intro i o a w' hoo hi hF hK hA
        by_cases h0 : i = 0
        · subst h0
          simp only [List.getElem?_toArray, List.getElem?_cons_zero, Option.some.injEq] at hoo
          subst hoo
          have e3 : a.tmps.getD 3 undef = .pointer (some ⟨w.heap.size + 1 + 1, 0, none⟩) := hF.2.2 3 (by decide)
          refine Does.plain rfl ?_
          unfold yieldsK
          go_simp
          exact ⟨rfl, Keep.refl _ _⟩
        by_cases h1 : i = 1
        · subst h1
          simp only [List.getElem?_toArray, List.getElem?_cons_zero, List.getElem?_cons_succ, Option.some.injEq] at hoo
          subst hoo
          have e15 : a.tmps.getD 15 undef = .pointer (some ⟨w.heap.size + 1 + 1, 0, none⟩) := hA ⟨0, .data⟩ (by simp) rfl
          have q0 := Keep.cell hK c0 id
          refine Does.plain rfl ?_
          unfold yieldsK
          go_simp
          exact ⟨rfl, Keep.refl _ _⟩
        by_cases h2 : i = 2
        · subst h2
          simp only [List.getElem?_toArray, List.getElem?_cons_zero, List.getElem?_cons_succ, Option.some.injEq] at hoo
          subst hoo
          have e5 : a.tmps.getD 5 undef = .slice none 0 0 := hF.2.2 5 (by decide)
          refine Does.plain rfl ?_
          unfold yieldsK
          go_simp
          exact ⟨rfl, Keep.refl _ _⟩
        by_cases h3 : i = 3
        · subst h3
          simp only [List.getElem?_toArray, List.getElem?_cons_zero, List.getElem?_cons_succ, Option.some.injEq] at hoo
          subst hoo
          have e1 : a.tmps.getD 1 undef = .pointer (some ⟨w.heap.size, 0, none⟩) := hF.2.2 1 (by decide)
          refine Does.plain rfl ?_
          unfold yieldsK
          go_simp
          exact ⟨rfl, Keep.refl _ _⟩
        by_cases h4 : i = 4
        · subst h4
          simp only [List.getElem?_toArray, List.getElem?_cons_zero, List.getElem?_cons_succ, Option.some.injEq] at hoo
          subst hoo
          have e18 : a.tmps.getD 18 undef = .pointer (some ⟨w.heap.size, 0, none⟩) := hA ⟨3, .data⟩ (by simp) rfl
          have q0 := Keep.cell hK s0 id
          refine Does.plain rfl ?_
          unfold yieldsK
          go_simp
          exact ⟨rfl, Keep.refl _ _⟩
        by_cases h5 : i = 5
        · subst h5
          simp only [List.getElem?_toArray, List.getElem?_cons_zero, List.getElem?_cons_succ, Option.some.injEq] at hoo
          subst hoo
          have e4 : a.tmps.getD 4 undef = .int .i64 (k : Int) := hF.2.2 4 (by decide)
          refine Does.plain rfl ?_
          unfold yieldsK
          go_simp
          exact ⟨rfl, Keep.refl _ _⟩
        by_cases h6 : i = 6
        · subst h6
          simp only [List.getElem?_toArray, List.getElem?_cons_zero, List.getElem?_cons_succ, Option.some.injEq] at hoo
          subst hoo
          have e19 : a.tmps.getD 19 undef = .slice (some ⟨g, off, none⟩) nx cx := hA ⟨4, .data⟩ (by simp) rfl
          have e20 : a.tmps.getD 20 undef = .int .i64 (k : Int) := hA ⟨5, .data⟩ (by simp) rfl
          have hkn : (k : Int) < (nx : Int) := by omega
          refine Does.plain rfl ?_
          unfold yieldsK
          go_simp
          exact ⟨rfl, Keep.refl _ _⟩
        by_cases h7 : i = 7
        · subst h7
          simp only [List.getElem?_toArray, List.getElem?_cons_zero, List.getElem?_cons_succ, Option.some.injEq] at hoo
          subst hoo
          have e21 : a.tmps.getD 21 undef = .pointer (some ⟨g, off + k, none⟩) := hA ⟨6, .data⟩ (by simp) rfl
          have q0 := Keep.cell hK d0 id
          refine Does.plain rfl ?_
          unfold yieldsK
          go_simp
          exact ⟨rfl, Keep.refl _ _⟩
        by_cases h8 : i = 8
        · subst h8
          simp only [List.getElem?_toArray, List.getElem?_cons_zero, List.getElem?_cons_succ, Option.some.injEq] at hoo
          subst hoo
          have e17 : a.tmps.getD 17 undef = .slice none 0 0 := hA ⟨2, .data⟩ (by simp) rfl
          have e22 : a.tmps.getD 22 undef = .slice A1 n1 c1' := hA ⟨7, .data⟩ (by simp) rfl
          have ⟨v9, w9, hrun, hown, hg, hv⟩ := HAP.out w' hK 55
          have hnm := run_app_named w' 55 58 3 Tryz.underlying55 Tryz.underlying58 55 #[.slice none 0 0, .slice A1 n1 c1']
          refine Does.plain rfl ?_
          rw [hrun] at hnm
          refine yields_app (.tmp 17) (.tmp 22) 55 58 rfl _ _ e17 e22 hnm ?_
          have h9 : Own w9 3 1 (fun j => w.heap.size + 1 + 1 + 1 ≤ j) v9 n1 (ivs l) := by
            rw [List.nil_append, Nat.zero_add] at hown
            refine ⟨hown, fun j e => ?_⟩
            rcases hv with h | h
            · rw [h] at e; cases e
            · rw [h] at e; injection e with e; have := hK.size; omega
          obtain ⟨A9, c9, rfl, _, _, _, _⟩ := h9.form
          exact ⟨⟨A9, c9, rfl, h9⟩, (Keep.refl NoB w').grown hg (fun j e => by cases e)⟩
        by_cases h9 : i = 9
        · subst h9
          simp only [List.getElem?_toArray, List.getElem?_cons_zero, List.getElem?_cons_succ, Option.some.injEq] at hoo
          subst hoo
          obtain ⟨A9, c9, e23, h9⟩ := hA ⟨8, .data⟩ (by simp) rfl
          have e23 : a.tmps.getD 23 undef = .slice A9 n1 c9 := e23
          refine Does.plain rfl ?_
          unfold yieldsK
          simp only [Array.getD_eq_getD_getElem?] at e23
          go_simp
          exact ⟨⟨w'.heap.size, A9, c9, rfl, Blk.new _ _ _, h9.keepN ((Keep.refl _ _).alloc _)⟩, (Keep.refl _ _).alloc _⟩
        omega
      case fin =>
        intro a w' hF gK hA
        have e16 : a.tmps.getD 16 undef = .slice A k c := hA 1 (by decide)
        obtain ⟨h24, A9, c9, e24, hb24, h9⟩ := hA 9 (by decide)
        have e24 : a.tmps.getD 24 undef = .slice (some ⟨h24, 0, none⟩) 1 1 := e24
        have ha := frameD_list (l := [15, 16, 17, 18, 19, 20, 21, 22, 23, 24]) rfl hF
        rw [ha]
        simp only [List.map_cons, List.map_nil, e16, e24]
        generalize a.tmps.getD 15 undef = u0
        generalize a.tmps.getD 17 undef = u2
        generalize a.tmps.getD 18 undef = u3
        generalize a.tmps.getD 19 undef = u4
        generalize a.tmps.getD 20 undef = u5
        generalize a.tmps.getD 21 undef = u6
        generalize a.tmps.getD 22 undef = u7
        generalize a.tmps.getD 23 undef = u8
        simp only [fillD, List.setIfInBounds_toArray, List.set_cons_zero, List.set_cons_succ]
        have hbW := HC.out.hb.keep gK id
        have hrW := HC.out.hr.keepN gK
        have hwz2 := gK.size
        have hPn : w.heap.size + 1 + 1 + 1 ≤ w'.heap.size := by omega
        have HFIN : Hid (∀ v' W5, W5.ownsRow 0 58 1 v' (k + 1) (svs es' ++ [.slice A9 n1 c9]) → w'.grownBy W5 (Value.slice A k c).ownBlock → (v'.ownBlock = (Value.slice A k c).ownBlock ∨ v'.ownBlock = some w'.heap.size) →
            Blk W5 (w.heap.size + 1 + 1) 25 #[.slice A k c, .slice none 0 0] ∧ ∀ A5 c5, v' = .slice A5 (k + 1) c5 → CpS wb (W5.setCell ⟨w.heap.size + 1 + 1, 0, none⟩ v') w.heap.size (k + 1) A5 c5 (.slice none 0 0) (w.heap.size + 1 + 1 + 1) es (es' ++ [(⟨A9, n1, c9⟩, l)])) := fun v' W5 hown hg hv => by
          obtain ⟨h1, h2, h3, h4⟩ := row_append (i := 0) hbW hrW (fun j (hj : w.heap.size + 1 + 1 + 1 ≤ j) => by omega) hg hown hv hPn
          have hty := row_ty (F := 3) hbW hrW (by decide) (by decide)
          refine ⟨h1, fun A5 c5 e => ?_⟩
          subst e
          refine ⟨by simpa using h3, by rw [svs_append]; exact h2, fun e he => ?_, by rw [List.map_append, HC.out.he, HT.out]; rfl, (HC.out.hk.trans (gK.mono (fun _ hf _ => hf.elim)) (fun _ h _ => h)).trans h4 (fun j hj hl => by
            rcases (row_at hbW hrW j hj).1 with h | h
            · exact h
            · exfalso
              have : w.heap.size + 1 + 1 + 1 ≤ j := h
              omega)⟩
          rcases List.mem_append.1 he with he | he
          · exact own_other ((HC.out.hs e he).keep gK (fun _ _ => id)) h4 hty
          · rw [List.mem_singleton.1 he]; exact own_other h9 h4 hty
        have HBW := Lib.hid hrW
        clear hA hF ha e16 e24 HC h9 HAP hbW hrW HT s0 c0 c1 d0
        simp only [List.drop_succ_cons, List.drop_zero]
        have hrb := rd_blkN hb24
        generalize svs es' = xs at *
        go_wp2_with (at_builtin; refine wpList_append_rd _ rfl (.tmp 16) (.tmp 24) _ rfl 58 1 24 i0 _ Tryz.underlying22 hi hz0 hz1 hz2 rfl (by decide) (.slice A k c) k xs (some ⟨h24, 0, none⟩) 1 1 [.slice A9 n1 c9] rfl HBW.out.1 rfl hrb rfl (by simp [Value.oneCell']) (by unfold maxLen; omega) (by omega) ?_; intro B5 d5 W5 hrow5 hg5 hv5; obtain ⟨hb5, hfin⟩ := HFIN.out _ _ hrow5 hg5 hv5; have t0 := hb5.cell 0; have f0 := fun i => hb5.frozen i; have l0 := hb5.lt; simp only [List.getElem?_toArray, List.getElem?_cons_zero] at t0)
        go_roundw
        case rel => exact ⟨k + 1, by omega, by go_num, B5, d5, _, hfin _ _ rfl⟩
        case measure => simp [intOf]; omega
    · obtain rfl : k = nx := by omega
      have HES : Hid ((es'.map fun e => e.2) = es.map fun e => e.2) := by
        show _ = _
        rw [HC.out.he, List.take_of_length_le (by omega)]
      have HF0 : Hid (CpF wb wr w.heap.size k 0 A none c 0 (w.heap.size + 1 + 1 + 1) es' fs []) := ⟨HC.out.hb, HC.out.hr, HC.out.hs, Own.nil _ _ _ _, (fun _ h => nomatch h), by simp, HC.out.hk⟩
      clear HC
      go_wp2_with fail
      clear s0
      go_loopw [6] (fun i wr => ∃ j : Nat, j ≤ ny ∧ i = .int .i64 j ∧ ∃ A2 c2 fs', Hid (CpF wb wr w.heap.size k j A A2 c c2 (w.heap.size + 1 + 1 + 1) es' fs fs')) (fun i _ => ny - (intOf i).toNat)
      case atStart => exact ⟨0, Nat.zero_le _, rfl, _, _, _, HF0.out⟩
      case round =>
        obtain ⟨j, hjn, rfl, A2, c2, fs', HC⟩ := hrel
        clear HF0
        have s0 := HC.out.hk.cell p0 (by show ¬ (w.heap.size = w.heap.size + 1 + 1); omega)
        have s1 := HC.out.hk.cell p1 (by show ¬ (w.heap.size = w.heap.size + 1 + 1); omega)
        obtain ⟨c0, c1⟩ := blk2 (v := ⟨A, k, c, A2, j, c2⟩) HC.out.hb
        dsimp only at c0 c1
        by_cases hlt : j < ny
        · have hje : j < fs.length := by omega
          obtain ⟨g, off, rfl, d0, d1, d2, d3, d4⟩ := fun_at (HIK.out wr HC.out.hk).ry hje
          have hfn := (HIK.out wr HC.out.hk).hf _ (List.getElem_mem hje)
          have hsm := HSM.out.fn _ (List.getElem_mem hje)
          have HT : Hid ((fs.take (j + 1)).map (fun e => e.2) = (fs.take j).map (fun e => e.2) ++ [fs[j].2]) := by
            show _ = _
            rw [List.take_succ_eq_append_getElem hje, List.map_append]; rfl
          have hwz := HC.out.hk.size
          have hfl : fs'.length = j := by have := congrArg List.length HC.out.he; simp at this; omega
          have HCP := Lib.hid (fun W (hk : Keep NoB wr W) => F.rcopyF_any fs[j].1 fs[j].2 W (hfn.keepN hk) hsm)
          clear hfn hsm
          generalize fs[j] = e at *
          obtain ⟨⟨S1, A1, na1, ca1, B1, nb1, cb1, L1, nl1, cl1, D1, nd1, cd1⟩, f⟩ := e
          dsimp only [F.FV.val, F.FV.cells] at *
          go_wp2_with fail
          refine wp_region_tail (fun i => [34, 35, 36, 37, 38, 39, 40, 41, 42].getD i 0) 9 (by kernel_rfl) (by kernel_rfl) (by kernel_rfl) (by kernel_rfl) (by kernel_rfl) (SCf w.heap.size (w.heap.size + 1 + 1 + 1) (.slice A2 j c2) (some ⟨g, off, none⟩) ny cy j g off ⟨S1, A1, na1, ca1, B1, nb1, cb1, L1, nl1, cl1, D1, nd1, cd1⟩ f) (fun i u x y h hk => SCf_stable _ _ _ _ _ _ _ _ _ _ _ i u x y h hk) rfl ?step ?fin
          case step =>
            intro i o a w' hoo hi hF hK hA
            by_cases h0 : i = 0
            · subst h0
              simp only [List.getElem?_toArray, List.getElem?_cons_zero, Option.some.injEq] at hoo
              subst hoo
              have e3 : a.tmps.getD 3 undef = .pointer (some ⟨w.heap.size + 1 + 1, 0, none⟩) := hF.2.2 3 (by decide)
              refine Does.plain rfl ?_
              unfold yieldsK
              go_simp
              exact ⟨rfl, Keep.refl _ _⟩
            by_cases h1 : i = 1
            · subst h1
              simp only [List.getElem?_toArray, List.getElem?_cons_zero, List.getElem?_cons_succ, Option.some.injEq] at hoo
              subst hoo
              have e34 : a.tmps.getD 34 undef = .pointer (some ⟨w.heap.size + 1 + 1, 1, none⟩) := hA ⟨0, .data⟩ (by simp) rfl
              have q0 := Keep.cell hK c1 id
              refine Does.plain rfl ?_
              unfold yieldsK
              go_simp
              exact ⟨rfl, Keep.refl _ _⟩
            by_cases h2 : i = 2
            · subst h2
              simp only [List.getElem?_toArray, List.getElem?_cons_zero, List.getElem?_cons_succ, Option.some.injEq] at hoo
              subst hoo
              have e1 : a.tmps.getD 1 undef = .pointer (some ⟨w.heap.size, 0, none⟩) := hF.2.2 1 (by decide)
              refine Does.plain rfl ?_
              unfold yieldsK
              go_simp
              exact ⟨rfl, Keep.refl _ _⟩
            by_cases h3 : i = 3
            · subst h3
              simp only [List.getElem?_toArray, List.getElem?_cons_zero, List.getElem?_cons_succ, Option.some.injEq] at hoo
              subst hoo
              have e36 : a.tmps.getD 36 undef = .pointer (some ⟨w.heap.size, 1, none⟩) := hA ⟨2, .data⟩ (by simp) rfl
              have q0 := Keep.cell hK s1 id
              refine Does.plain rfl ?_
              unfold yieldsK
              go_simp
              exact ⟨rfl, Keep.refl _ _⟩
            by_cases h4 : i = 4
            · subst h4
              simp only [List.getElem?_toArray, List.getElem?_cons_zero, List.getElem?_cons_succ, Option.some.injEq] at hoo
              subst hoo
              have e6 : a.tmps.getD 6 undef = .int .i64 (j : Int) := hF.2.2 6 (by decide)
              refine Does.plain rfl ?_
              unfold yieldsK
              go_simp
              exact ⟨rfl, Keep.refl _ _⟩
            by_cases h5 : i = 5
            · subst h5
              simp only [List.getElem?_toArray, List.getElem?_cons_zero, List.getElem?_cons_succ, Option.some.injEq] at hoo
              subst hoo
              have e37 : a.tmps.getD 37 undef = .slice (some ⟨g, off, none⟩) ny cy := hA ⟨3, .data⟩ (by simp) rfl
              have e38 : a.tmps.getD 38 undef = .int .i64 (j : Int) := hA ⟨4, .data⟩ (by simp) rfl
              have hkn : (j : Int) < (ny : Int) := by omega
              refine Does.plain rfl ?_
              unfold yieldsK
              go_simp
              exact ⟨rfl, Keep.refl _ _⟩
            by_cases h6 : i = 6
            · subst h6
              simp only [List.getElem?_toArray, List.getElem?_cons_zero, List.getElem?_cons_succ, Option.some.injEq] at hoo
              subst hoo
              have e39 : a.tmps.getD 39 undef = .pointer (some ⟨g, off + j * 5, none⟩) := hA ⟨5, .data⟩ (by simp) rfl
              have q0 := Keep.cell hK d0 id
              have q1 := Keep.cell hK d1 id
              have q2 := Keep.cell hK d2 id
              have q3 := Keep.cell hK d3 id
              have q4 := Keep.cell hK d4 id
              refine Does.plain rfl ?_
              unfold yieldsK
              go_simp
              exact ⟨rfl, Keep.refl _ _⟩
            by_cases h7 : i = 7
            · subst h7
              simp only [List.getElem?_toArray, List.getElem?_cons_zero, List.getElem?_cons_succ, Option.some.injEq] at hoo
              subst hoo
              have e40 : a.tmps.getD 40 undef = .agg #[.string S1, .slice A1 na1 ca1, .slice B1 nb1 cb1, .slice L1 nl1 cl1, .slice D1 nd1 cd1] := hA ⟨6, .data⟩ (by simp) rfl
              refine Does.plain rfl ?_
              unfold yieldsK
              go_simp
              refine (HCP.out w' hK).mono ?_
              rintro e w9 ⟨q, rfl, hq, hk9⟩
              exact ⟨_, rfl, ⟨q, rfl, hq.mono (fun i (hi : Fresh w' i) _ => by have := hK.size; unfold Fresh at hi; omega)⟩, hk9⟩
            by_cases h8 : i = 8
            · subst h8
              simp only [List.getElem?_toArray, List.getElem?_cons_zero, List.getElem?_cons_succ, Option.some.injEq] at hoo
              subst hoo
              obtain ⟨q, e41, hq⟩ := hA ⟨7, .data⟩ (by simp) rfl
              have e41 : a.tmps.getD 41 undef = q.val := e41
              refine Does.plain rfl ?_
              obtain ⟨S9, A9, na9, ca9, B9, nb9, cb9, L9, nl9, cl9, D9, nd9, cd9⟩ := q
              dsimp only [F.FV.val, F.FV.cells] at e41
              simp only [Array.getD_eq_getD_getElem?] at e41
              unfold yieldsK
              go_simp
              exact ⟨⟨w'.heap.size, ⟨S9, A9, na9, ca9, B9, nb9, cb9, L9, nl9, cl9, D9, nd9, cd9⟩, rfl, Blk.new _ _ _, hq.keepN ((Keep.refl _ _).alloc _)⟩, (Keep.refl _ _).alloc _⟩
            omega
          case fin =>
            intro a w' hF gK hA
            have e35 : a.tmps.getD 35 undef = .slice A2 j c2 := hA 1 (by decide)
            obtain ⟨h42, q, e42, hb42, hq⟩ := hA 8 (by decide)
            have e42 : a.tmps.getD 42 undef = .slice (some ⟨h42, 0, none⟩) 1 1 := e42
            have ha := frameD_list (l := [34, 35, 36, 37, 38, 39, 40, 41, 42]) rfl hF
            rw [ha]
            simp only [List.map_cons, List.map_nil, e35, e42]
            generalize a.tmps.getD 34 undef = u0
            generalize a.tmps.getD 36 undef = u2
            generalize a.tmps.getD 37 undef = u3
            generalize a.tmps.getD 38 undef = u4
            generalize a.tmps.getD 39 undef = u5
            generalize a.tmps.getD 40 undef = u6
            generalize a.tmps.getD 41 undef = u7
            simp only [fillD, List.setIfInBounds_toArray, List.set_cons_zero, List.set_cons_succ]
            have hbW := HC.out.hb.keep gK id
            have hrW := HC.out.hr2.keepN gK
            have hwz2 := gK.size
            have hPn : w.heap.size + 1 + 1 + 1 ≤ w'.heap.size := by omega
            have HFIN : Hid (∀ v' W5, W5.ownsRow 0 61 5 v' (j + 1) (fvs fs' ++ q.cells.toList) → w'.grownBy W5 (Value.slice A2 j c2).ownBlock → (v'.ownBlock = (Value.slice A2 j c2).ownBlock ∨ v'.ownBlock = some w'.heap.size) →
                Blk W5 (w.heap.size + 1 + 1) 25 #[.slice A k c, .slice A2 j c2] ∧ ∀ A5 c5, v' = .slice A5 (j + 1) c5 → CpF wb (W5.setCell ⟨w.heap.size + 1 + 1, 1, none⟩ v') w.heap.size k (j + 1) A A5 c c5 (w.heap.size + 1 + 1 + 1) es' fs (fs' ++ [(q, f)])) := fun v' W5 hown hg hv => by
              obtain ⟨h1, h2, h3, h4⟩ := row_append (i := 1) hbW hrW (fun j (hj : w.heap.size + 1 + 1 + 1 ≤ j) => by omega) hg hown hv hPn
              have hty := row_ty (F := 3) hbW hrW (by decide) (by decide)
              have hti := row_ty (F := 63) hbW hrW (by decide) (by decide)
              have hts := row_ty (F := 58) hbW hrW (by decide) (by decide)
              refine ⟨h1, fun A5 c5 e => ?_⟩
              subst e
              refine ⟨by simpa using h3, own_other (HC.out.hr.keepN gK) h4 hts, fun e he => own_other ((HC.out.hs e he).keep gK (fun _ _ => id)) h4 hty, by rw [fvs_append]; simpa [fvs] using h2, fun e he => ?_, by rw [List.map_append, HC.out.he, HT.out]; rfl, (HC.out.hk.trans (gK.mono (fun _ hf _ => hf.elim)) (fun _ h _ => h)).trans h4 (fun i hi hl => by
                rcases (row_at hbW hrW i hi).1 with h | h
                · exact h
                · exfalso
                  have : w.heap.size + 1 + 1 + 1 ≤ i := h
                  omega)⟩
              rcases List.mem_append.1 he with he | he
              · exact ownF_other ((HC.out.hf e he).keepN gK) h4 hty hti
              · rw [List.mem_singleton.1 he]; exact ownF_other hq h4 hty hti
            have HBW := Lib.hid hrW
            clear hA hF ha e35 e42 HC hq HCP hbW hrW HT s0 s1 c0 c1 d0 d1 d2 d3 d4
            simp only [List.drop_succ_cons, List.drop_zero]
            have hrb := rd_blkN hb42
            have HQ1 : Hid (q.cells.toList.length = 1 * 5 ∧ ∀ u ∈ q.cells.toList, u.oneCell' = true) := ⟨cells_len q, fun u hu => by
              unfold F.FV.cells at hu
              simp only [List.mem_cons, List.not_mem_nil, or_false] at hu
              rcases hu with rfl | rfl | rfl | rfl | rfl <;> rfl⟩
            generalize fvs fs' = xs at *
            generalize q.cells = qc at *
            go_wp2_with (at_builtin; refine wpList_append_rd _ rfl (.tmp 35) (.tmp 42) _ rfl 61 5 112 j0 _ Tryz.underlying23 hj hy0 hy1 hy2 rfl (by decide) (.slice A2 j c2) j xs (some ⟨h42, 0, none⟩) 1 1 qc.toList rfl HBW.out.1 rfl hrb HQ1.out.1 HQ1.out.2 (by unfold maxLen; omega) (by omega) ?_; intro B5 d5 W5 hrow5 hg5 hv5; obtain ⟨hb5, hfin⟩ := HFIN.out _ _ hrow5 hg5 hv5; have t0 := hb5.cell 1; have f0 := fun i => hb5.frozen i; have l0 := hb5.lt; simp only [List.getElem?_toArray, List.getElem?_cons_zero, List.getElem?_cons_succ] at t0)
            go_roundw
            case rel => exact ⟨j + 1, by omega, by go_num, B5, d5, _, hfin _ _ rfl⟩
            case measure => simp [intOf]; omega
        · obtain rfl : j = ny := by omega
          have bz2 := HBZ.out.keep HC.out.hk (by show ¬ (w.heap.size + 1 = w.heap.size + 1 + 1); omega)
          have f3 := fun i => bz2.frozen i
          have q0 := bz2.cell 0
          have q1 := bz2.cell 1
          simp only [List.getElem?_toArray, List.getElem?_cons_zero, List.getElem?_cons_succ] at q0 q1
          have hlt2 := bz2.lt
          have HP := Lib.hid (put2_img bz2 (.slice A k c) (.slice A2 j c2))
          have kq := keep2_img wr (w.heap.size + 1) (.slice A k c) (.slice A2 j c2)
          have HK : Hid (Keep NoB w ((wr.setCell ⟨w.heap.size + 1, 0, none⟩ (.slice A k c)).setCell ⟨w.heap.size + 1, 1, none⟩ (.slice A2 j c2))) := (gK.trans HC.out.hk (fun k e hl => by omega)).trans kq (fun k e hl => by omega)
          have HO : Hid (OwnIm ((wr.setCell ⟨w.heap.size + 1, 0, none⟩ (.slice A k c)).setCell ⟨w.heap.size + 1, 1, none⟩ (.slice A2 j c2)) (Fresh w) ⟨A, k, c, A2, j, c2⟩ es' fs') :=
            ((⟨HC.out.hr, HC.out.hr2, HC.out.hs, HC.out.hf⟩ : OwnIm wr (fun j => w.heap.size + 1 + 1 + 1 ≤ j) ⟨A, k, c, A2, j, c2⟩ es' fs').keep kq (fun i hi e => by omega)).mono (fun i hi _ => by unfold Fresh; omega)
          have HM : Hid (imOf es' fs' = imOf es fs) := by
            show _ = _
            unfold imOf
            rw [HES.out, HC.out.he, List.take_of_length_le (by omega)]
          clear HC bz2 s0 kq HES
          go_wp2
          refine bodyPost_ret (ret_img (v := ⟨A, k, c, A2, j, c2⟩) rfl rfl HP.out) rfl ?_
          exact ⟨⟨A, k, c, A2, j, c2⟩, es', fs', rfl, HO.out, HM.out, HK.out⟩

end Go.Proofs.YtgifflfjhockaaaGreatDoor.I

namespace Go.Proofs.YtgifflfjhockaaaGreatDoor.I
open Go.RowKit W

end Go.Proofs.YtgifflfjhockaaaGreatDoor.I

namespace Go.Proofs.YtgifflfjhockaaaGreatDoor.I
open Go.RowKit Go.Shelf W
attribute [local go_sem] Oper.semAt_some

theorem findI_none {l : List F.Fu} {s : List UInt8} (h : ∀ i (hi : i < l.length), l[i].nm ≠ s) : findI l s = none := by
  unfold findI
  rw [List.findIdx?_eq_none_iff]
  intro f hf
  obtain ⟨i, hi, rfl⟩ := List.getElem_of_mem hf
  exact decide_eq_false (h i hi)
theorem findI_some {l : List F.Fu} {s : List UInt8} {i : Nat} (hi : i < l.length) (h : l[i].nm = s) (h2 : ∀ j (hj : j < i), l[j].nm ≠ s) : findI l s = some i := by
  unfold findI
  rw [List.findIdx?_eq_some_iff_getElem]
  exact ⟨hi, decide_eq_true h, fun j hj => by rw [Bool.not_eq_true, decide_eq_false_iff_not]; exact h2 j hj⟩
theorem find_no {l : List F.Fu} {s : List UInt8} (h : findI l s = none) : findN l s = 0 ∧ findE l s = 83 := by unfold findN findE; rw [h]; exact ⟨rfl, rfl⟩
theorem find_yes {l : List F.Fu} {s : List UInt8} {i : Nat} (h : findI l s = some i) : findN l s = (i : Int) ∧ findE l s = 0 := by unfold findN findE; rw [h]; exact ⟨rfl, rfl⟩
/-- Functions and their names. -/
def NmsI (fs : List FE) : Prop := ∀ e ∈ fs, e.1.S.data.toList = e.2.nm
theorem nms_of {w : World} {v : IV} {es : List SE} {fs : List FE} (h : ImAt w v es fs) : NmsI fs := fun e he => (h.hf e he).nm
theorem nm_at {fs : List FE} (h : NmsI fs) {i : Nat} (hi : i < fs.length) {S : ByteArray} {s : List UInt8} (hS : S.data.toList = s) : fs[i].1.S = S ↔ ((imOf [] fs).fn[i]'(by simp [imOf, hi])).nm = s := by
  have h1 := h _ (List.getElem_mem hi)
  have e : ((imOf [] fs).fn[i]'(by simp [imOf, hi])) = fs[i].2 := by simp [imOf]
  rw [e, ← h1, ← hS]
  constructor
  · intro h; rw [h]
  · intro h
    generalize fs[i].1.S = T at h
    cases T; cases S; simp at h; rw [h]
theorem str_ne {S T : ByteArray} (h : T ≠ S) : (T.toList == S.toList) = false := by
  rw [beq_eq_false_iff_ne]
  intro e
  rw [ByteArray.toList_eq, ByteArray.toList_eq] at e
  exact h (by cases T; cases S; simp at e; rw [e])
/-- What the loop keeps: none that has come has the name. -/
def FdI (w : World) (bs bn be : Nat) (S : ByteArray) (fs : List FE) (pre : List Nat) (W : World) : Prop :=
  (Blk W bs 9 #[.string S] ∧ Blk W bn 3 #[.int .i64 0] ∧ Blk W be 31 #[.int .i64 83]) ∧ Keep NoB w W ∧ ∀ x ∈ pre, (fnI fs x).1.S ≠ S
/-- Where it is left: one has it. -/
def FdX (w : World) (bn be : Nat) (S : ByteArray) (fs : List FE) (c : Code) (pre : List Nat) (W : World) : Prop :=
  c = .exit 0 ∧ ∃ pre0 x, pre = pre0 ++ [x] ∧ (fnI fs x).1.S = S ∧ (∀ y ∈ pre0, (fnI fs y).1.S ≠ S) ∧ (Blk W bn 3 #[.int .i64 (x : Int)] ∧ Blk W be 31 #[.int .i64 0]) ∧ Keep NoB w W
/-- The activation at the head of the loop's body. -/
def FdA (v : IV) (S : ByteArray) (fs : List FE) (b : Nat) (x : Nat) (Bo : Nat) : Act :=
  { tmps := #[v.val, .string S, .pointer (some ⟨b, 0, none⟩), .pointer (some ⟨b + 1, 0, none⟩), .int .i64 0, .int .i64 0, .pointer (some ⟨b + 1 + 1, 0, none⟩), .pointer (some ⟨b + 1 + 1 + 1, 0, none⟩), .int .i64 (x : Int), .pointer (some ⟨Bo, 0, none⟩), v.val, .func (.func 104) #[] #[.pointer (some ⟨b + 1 + 1 + 1 + 1, 0, none⟩)], .int .i64 (x : Int), (fnI fs x).1.val, undef, undef, undef, undef, undef, undef, undef], defers := [] }
theorem fdI_own {w : World} {bs bn be B : Nat} {S : ByteArray} {fs : List FE} (hB : w.heap.size ≤ B) : OwnFrom B (FdI w bs bn be S fs) := by
  intro s X Y row ⟨⟨h1, h2, h3⟩, h4, h5⟩ hg hrow
  exact ⟨⟨O.blk_own (β := Unit) _ _ _ (fun _ => _) () _ _ _ h1 hg hrow, O.blk_own (β := Unit) _ _ _ (fun _ => _) () _ _ _ h2 hg hrow, O.blk_own (β := Unit) _ _ _ (fun _ => _) () _ _ _ h3 hg hrow⟩, O.keep_own (β := Unit) _ hB () _ _ _ h4 hg hrow, h5⟩
theorem fdX_own {w : World} {bn be B : Nat} {S : ByteArray} {fs : List FE} (hB : w.heap.size ≤ B) (c : Code) : OwnFrom B (fun (pre : List Nat) W => FdX w bn be S fs c pre W) := by
  intro s X Y row ⟨h0, p0, x, h5, h1, h6, ⟨h2, h3⟩, h4⟩ hg hrow
  exact ⟨h0, p0, x, h5, h1, h6, ⟨O.blk_own (β := Unit) _ _ _ (fun _ => _) () _ _ _ h2 hg hrow, O.blk_own (β := Unit) _ _ _ (fun _ => _) () _ _ _ h3 hg hrow⟩, O.keep_own (β := Unit) _ hB () _ _ _ h4 hg hrow⟩

set_option maxRecDepth 100000 in
set_option maxHeartbeats 4000000 in
theorem find_any (v : IV) (es : List SE) (fs : List FE) (S : ByteArray) (s : List UInt8) (w : World) (h : ImAt w v es fs) (hn : v.ny ≤ 1000) (hS : S.data.toList = s) :
    Calls Tryz.prog 22 #[v.val, .string S] w fun e w' => e = .returned (.tuple #[.int .i64 (findN (imOf [] fs).fn s), .int .i64 (findE (imOf [] fs).fn s)]) ∧ Keep NoB w w' := by
  have hly := h.ly
  have HB := Lib.hid (fun (ad : Addr) (e : v.Y = some ad) (h0 : 0 < (fvs fs).length) => rd_lt h.ry e h0)
  have HR := Lib.hid (fun W (hk : Keep NoB w W) => h.ry.keepN hk)
  have HN := Lib.hid (nms_of h)
  clear h
  refine (callsIn_wide (n := 4)).1 ?_
  refine callsIn_of_wp_marks Tryz.func22 rfl trivial ?_ rfl
  have hst := Lib.hid (fun m hm b w hx hr => each_stops m hm b v fs hly hn w hx hr)
  have he1 := Lib.hid (fun m w => each_any m v w)
  have hkk := ((((Keep.refl NoB w).alloc (.cells v.cells 25)).alloc (.cells #[.string S] 9)).alloc (.cells #[.int .i64 0] 3)).alloc (.cells #[.int .i64 83] 31)
  have hs := ((((Blk.new (w.alloc (.cells v.cells 25)) 9 #[.string S]).alloc (.cells #[.int .i64 0] 3)).alloc (.cells #[.int .i64 83] 31))).alloc (.cells v.cells 25)
  have hn0 := ((Blk.new ((w.alloc (.cells v.cells 25)).alloc (.cells #[.string S] 9)) 3 #[.int .i64 0]).alloc (.cells #[.int .i64 83] 31)).alloc (.cells v.cells 25)
  have he := (Blk.new (((w.alloc (.cells v.cells 25)).alloc (.cells #[.string S] 9)).alloc (.cells #[.int .i64 0] 3)) 31 #[.int .i64 83]).alloc (.cells v.cells 25)
  have hi5 := Blk.new ((((w.alloc (.cells v.cells 25)).alloc (.cells #[.string S] 9)).alloc (.cells #[.int .i64 0] 3)).alloc (.cells #[.int .i64 83] 31)) 25 v.cells
  simp only [World.size_alloc] at hs hn0 he hi5
  have hK := hkk.alloc (.cells v.cells 25)
  have hr5 := HR.out _ hK
  have hI0 : FdI w (w.heap.size + 1) (w.heap.size + 1 + 1) (w.heap.size + 1 + 1 + 1) S fs [] _ := ⟨⟨hs, hn0, he⟩, hK, fun x hx => by simp at hx⟩
  have HI0 := Lib.hid hI0
  have HX5 := Lib.hid hi5
  have HR5 := Lib.hid hr5
  have hsz : ((((w.alloc (.cells v.cells 25)).alloc (.cells #[.string S] 9)).alloc (.cells #[.int .i64 0] 3)).alloc (.cells #[.int .i64 83] 31)).heap.size = w.heap.size + 1 + 1 + 1 + 1 := by simp
  clear hs hn0 he hi5 hkk hK hr5 hI0
  obtain ⟨X, nx, cx, Y, ny, cy⟩ := v
  dsimp only [IV.val, IV.cells] at *
  simp only [Tryz.ntmps22, List.size_toArray, List.length_cons, List.length_nil, Nat.reduceAdd, Nat.reduceSub, Array.replicate_succ, Array.replicate_zero, List.push_toArray, List.append_toArray, List.nil_append, List.cons_append]
  gi_wp2
  refine V.wpIn_scope_wide ?_
  gi_wp2
  refine wpIn_label ?_
  gi_wp2_with (refine ⟨trivial, ?_⟩; gi_at_call 57; refine (he1.out _ _).mono ?_; rintro e w1 ⟨rfl, rfl⟩)
  refine wpIn_rangeFunc_ownH rfl (by omega) (gf := 104) (lb := #[.pointer (some ⟨w.heap.size + 1 + 1 + 1 + 1, 0, none⟩)]) rfl trivial (enters_of Tryz.func104 (by kernel_rfl) rfl)
    (hst.out _ (by omega) _ _ HX5.out HR5.out) FsK.trans (fun W l o o' _ hl ho _ => FsK.putObj W l o o' hl ho) (Below.refl _ _) (fun _ => rfl)
    (FdI w (w.heap.size + 1) (w.heap.size + 1 + 1) (w.heap.size + 1 + 1 + 1) S fs) (fun c pre W => FdX w (w.heap.size + 1 + 1) (w.heap.size + 1 + 1 + 1) S fs c pre W) (fdI_own (by simp; omega)) (fun c => fdX_own (by simp; omega) c) HI0.out
    (fun x a' W => ∃ Bo, Blk W Bo 61 (fnI fs x).1.cells ∧ a' = FdA ⟨X, nx, cx, Y, ny, cy⟩ S fs w.heap.size x Bo) ?hax ?assign ?body ?done ?stop
  case hax =>
    rintro x a' s X Y row ⟨Bo, h1, h2⟩ hg hrow
    exact ⟨Bo, O.blk_own (β := Unit) _ _ _ (fun _ => _) () _ _ _ h1 hg hrow, h2⟩
  case assign =>
    intro l pre x W K hi hK
    have HI := Lib.hid (fun W' hk => fdI_own (w := w) (bs := w.heap.size + 1) (bn := w.heap.size + 1 + 1) (be := w.heap.size + 1 + 1 + 1) (S := S) (fs := fs) (Nat.le_refl _) pre W W' none hi (Keep.grows hk) (fun r e => by cases e))
    have HB1 := Lib.hid (Blk.new W 61 (fnI fs x).1.cells)
    have HA : Hid (∀ Bo, FdA ⟨X, nx, cx, Y, ny, cy⟩ S fs w.heap.size x Bo = FdA ⟨X, nx, cx, Y, ny, cy⟩ S fs w.heap.size x Bo) := fun _ => rfl
    have HK2 := Lib.hid (fun a' W' h1 h2 h3 h4 => hK a' W' h1 h2 h3 h4)
    unfold FdA at HA HK2
    dsimp only [eaA]
    clear hi
    generalize fnI fs x = e at *
    obtain ⟨⟨S1, A1, na1, ca1, B1, nb1, cb1, L1, nl1, cl1, D1, nd1, cd1⟩, f⟩ := e
    dsimp only [F.FV.val, F.FV.cells, IV.val, IV.cells] at *
    clear hK
    gi_wp2
    exact HK2.out _ _ (keepsFrom_keep ((Keep.refl NoB W).alloc _)) (fun h => h.keepN ((Keep.refl NoB W).alloc _)) (HI.out _ ((Keep.refl NoB W).alloc _)) ⟨_, HB1.out, rfl⟩
  case body =>
    rintro l pre x a' W hl _ ⟨⟨hs, hn, he⟩, hK, hall⟩ ⟨Bo, hb, rfl⟩ _
    have cs : W.cell? ⟨w.heap.size + 1, 0, none⟩ = some (.string S) := hs.cell 0
    have cb : W.cell? ⟨Bo, 0, none⟩ = some (.string (fnI fs x).1.S) := hb.cell 0
    have hzn := hn.lt
    have hze := he.lt
    have fn := fun i => hn.frozen i
    have fe := fun i => he.frozen i
    have cn := hn.cell 0
    have ce := he.cell 0
    dsimp only [FdA, IV.val, IV.cells]
    by_cases hx : (fnI fs x).1.S = S
    · have hq : ((fnI fs x).1.S.toList == S.toList) = true := by rw [hx]; simp
      have hn2 := (hn.put 0 (.int .i64 (x : Int))).far (p := ⟨w.heap.size + 1 + 1 + 1, 0, none⟩) (by simp) (.int .i64 0)
      have he2 := (he.far (p := ⟨w.heap.size + 1 + 1, 0, none⟩) (by simp) (.int .i64 (x : Int))).put 0 (.int .i64 0)
      have HX : Hid (FdX w (w.heap.size + 1 + 1) (w.heap.size + 1 + 1 + 1) S fs (.exit 0) (pre ++ [x]) ((W.setCell ⟨w.heap.size + 1 + 1, 0, none⟩ (.int .i64 (x : Int))).setCell ⟨w.heap.size + 1 + 1 + 1, 0, none⟩ (.int .i64 0))) :=
        ⟨rfl, pre, x, rfl, hx, hall, ⟨hn2, he2⟩, (hK.setCell (fun h => absurd h (by simp; omega)) _).setCell (fun h => absurd h (by simp; omega)) _⟩
      clear hx hs hn he hn2 he2 hK hall hb
      generalize fnI fs x = e at *
      obtain ⟨⟨S1, A1, na1, ca1, B1, nb1, cb1, L1, nl1, cl1, D1, nd1, cd1⟩, f⟩ := e
      dsimp only [F.FV.val, F.FV.cells] at *
      gi_wp2
      refine ⟨⟨?_, ?_⟩, HX.out⟩
      · simp
      · intro k o hk1 hk2 hk3
        have hk1' : w.heap.size + 4 ≤ k := by simp at hk1; omega
        exact ((Below.heap_setCell _ _ _ _ (by show k ≠ w.heap.size + 1 + 1 + 1; omega)).trans (Below.heap_setCell _ _ _ _ (by show k ≠ w.heap.size + 1 + 1; omega))).trans hk2
    · have hq := str_ne hx
      have HX : Hid (FdI w (w.heap.size + 1) (w.heap.size + 1 + 1) (w.heap.size + 1 + 1 + 1) S fs (pre ++ [x]) W) := ⟨⟨hs, hn, he⟩, hK, fun y hy => by
        rcases List.mem_append.1 hy with h | h
        · exact hall y h
        · rw [List.mem_singleton.1 h]; exact hx⟩
      clear hx hs hn he hK hall hb
      generalize fnI fs x = e at *
      obtain ⟨⟨S1, A1, na1, ca1, B1, nb1, cb1, L1, nl1, cl1, D1, nd1, cd1⟩, f⟩ := e
      dsimp only [F.FV.val, F.FV.cells] at *
      gi_wp2
      exact ⟨KeepsFrom.refl _ _, fun h => h, HX.out⟩
  case done =>
    rintro D ys W hD hS2 ⟨⟨hs, hn, he⟩, hK, hall⟩ hDf
    have HX := Lib.hid (find_no (findI_none (l := (imOf [] fs).fn) (s := s) fun i hi => by
      have hif : i < fs.length := by simpa [imOf] using hi
      have h1 := hall i (by rw [hS2]; simp; omega)
      rw [fnI_at hif] at h1
      exact fun h2 => h1 ((nm_at HN.out hif hS).2 h2)))
    have cn : W.cell? ⟨w.heap.size + 1 + 1, 0, none⟩ = some (.int .i64 0) := hn.cell 0
    have ce : W.cell? ⟨w.heap.size + 1 + 1 + 1, 0, none⟩ = some (.int .i64 83) := he.cell 0
    have hmix : Tryz.prog.follows .mixedOrders = true := by kernel_rfl
    gi_wp2
    gi_region
    gi_wp2
    refine ⟨by simp, .inl ⟨_, _, rfl, run_takeDeferred (w := W.drew) hDf, ?_⟩⟩
    refine ⟨_, results_tmp2 rfl _ _ _, ?_, O.Keep_putObj hK.drew (by simp at hD; omega)⟩
    exact O.pr_ii HX.out.1.symm HX.out.2.symm
  case stop =>
    rintro D c pre W hD ⟨k, hk, hpre⟩ ⟨rfl, p0, x, hp, hx, hp0, ⟨hn, he⟩, hK⟩ hDf
    have hxk : p0 = List.range x ∧ x < fs.length := by
      rw [hpre] at hp
      rcases Nat.eq_zero_or_pos k with h0 | h0
      · subst h0; exact absurd hp (by simp)
      · obtain ⟨j, rfl⟩ : ∃ j, k = j + 1 := ⟨k - 1, by omega⟩
        rw [List.range_succ] at hp
        obtain ⟨h1, h2⟩ := List.append_inj' hp rfl
        simp at h2
        subst h2
        exact ⟨h1.symm, by omega⟩
    have HX := Lib.hid (find_yes (findI_some (l := (imOf [] fs).fn) (s := s) (i := x) (by simpa [imOf] using hxk.2) ((nm_at HN.out hxk.2 hS).1 (by rw [← fnI_at hxk.2]; exact hx)) fun j hj h2 => by
      have hjf : j < fs.length := by have := hxk.2; omega
      have h3 := hp0 j (by rw [hxk.1]; simpa using hj)
      rw [fnI_at hjf] at h3
      exact h3 ((nm_at HN.out hjf hS).2 h2)))
    have cn : W.cell? ⟨w.heap.size + 1 + 1, 0, none⟩ = some (.int .i64 (x : Int)) := hn.cell 0
    have ce : W.cell? ⟨w.heap.size + 1 + 1 + 1, 0, none⟩ = some (.int .i64 0) := he.cell 0
    have hmix : Tryz.prog.follows .mixedOrders = true := by kernel_rfl
    gi_wp2
    gi_region
    gi_wp2
    refine ⟨by simp, .inl ⟨_, _, rfl, run_takeDeferred (w := W.drew) hDf, ?_⟩⟩
    refine ⟨_, results_tmp2 rfl _ _ _, ?_, O.Keep_putObj hK.drew (by simp at hD; omega)⟩
    exact O.pr_ii HX.out.1.symm HX.out.2.symm

set_option maxRecDepth 100000 in
set_option maxHeartbeats 4000000 in
theorem rfind_any (v : IV) (es : List SE) (fs : List FE) (S : ByteArray) (s : List UInt8) (w : World) (h : ImAt w v es fs) (hn : v.ny ≤ 1000) (hS : S.data.toList = s) :
    Calls Tryz.prog 23 #[v.val, .string S] w fun e w' => e = .returned (.tuple #[.int .i64 (findN (imOf [] fs).fn s), .int .i64 (findE (imOf [] fs).fn s)]) ∧ Keep NoB w w' := by
  have hly := h.ly
  have bx := Blk.new w 25 v.cells
  have k0 := (Keep.refl NoB w).alloc (.cells v.cells 25)
  have HI := Lib.hid (h.keepN k0)
  have HN := Lib.hid (nms_of h)
  obtain ⟨q0, q1⟩ := blk2 bx
  obtain ⟨N, hN1⟩ : ∃ N, findN (imOf [] fs).fn s = N := ⟨_, rfl⟩
  obtain ⟨E, hE1⟩ : ∃ E, findE (imOf [] fs).fn s = E := ⟨_, rfl⟩
  rw [hN1, hE1]
  have HNE := Lib.hid (And.intro hN1 hE1)
  clear h bx hN1 hE1
  obtain ⟨X, nx, cx, Y, ny, cy⟩ := v
  dsimp only [IV.val, IV.cells] at *
  go_enter Tryz.func23, Tryz.ntmps23
  go_wp2
  go_loop [6] (fun i => ∃ k : Nat, k ≤ ny ∧ i = .int .i64 k ∧ Hid (∀ j (hj : j < fs.length), j < k → fs[j].1.S ≠ S)) (fun i => ny - (intOf i).toNat)
  case atStart => exact ⟨0, Nat.zero_le _, rfl, fun j _ h => absurd h (by omega)⟩
  case round =>
    obtain ⟨k, hk, rfl, hT⟩ := hrel
    by_cases hlt : k < ny
    · have hke : k < fs.length := by omega
      obtain ⟨g, off, rfl, c0, c1, c2, c3, c4⟩ := fun_at HI.out.ry hke
      by_cases hx : fs[k].1.S = S
      · have HX := Lib.hid (find_yes (findI_some (l := (imOf [] fs).fn) (s := s) (i := k) (by simpa [imOf] using hke) ((nm_at HN.out hke hS).1 hx) fun j hj h2 => hT.out j (by omega) hj ((nm_at HN.out (by omega) hS).2 h2)))
        obtain rfl : (k : Int) = N := HX.out.1.symm.trans HNE.out.1
        obtain rfl : (0 : Int) = E := HX.out.2.symm.trans HNE.out.2
        have hq : (fs[k].1.S.toList == S.toList) = true := by rw [hx]; simp
        clear hx hT HX HN HNE
        generalize fs[k] = e at *
        obtain ⟨⟨S1, A1, na1, ca1, B1, nb1, cb1, L1, nl1, cl1, D1, nd1, cd1⟩, f⟩ := e
        dsimp only at *
        go_wp2
        go_ret2
        exact ⟨rfl, k0⟩
      · have hq := str_ne hx
        have HV : Hid (∀ j (hj : j < fs.length), j < k + 1 → fs[j].1.S ≠ S) := fun j hj h => by
          rcases Nat.lt_succ_iff_lt_or_eq.1 h with h | rfl
          · exact hT.out j hj h
          · exact hx
        clear hx hT
        generalize fs[k] = e at *
        obtain ⟨⟨S1, A1, na1, ca1, B1, nb1, cb1, L1, nl1, cl1, D1, nd1, cd1⟩, f⟩ := e
        dsimp only at *
        go_wp2
        go_round
        case rel => exact ⟨k + 1, by omega, by go_num, HV⟩
        case measure => simp [intOf]; omega
    · obtain rfl : k = ny := by omega
      have HX := Lib.hid (find_no (findI_none (l := (imOf [] fs).fn) (s := s) fun i hi h2 => by
        have hif : i < fs.length := by simpa [imOf] using hi
        exact hT.out i hif (by omega) ((nm_at HN.out hif hS).2 h2)))
      obtain rfl : (0 : Int) = N := HX.out.1.symm.trans HNE.out.1
      obtain rfl : (83 : Int) = E := HX.out.2.symm.trans HNE.out.2
      clear HX HN hT HNE
      go_wp2
      go_ret2
      exact ⟨rfl, k0⟩

end Go.Proofs.YtgifflfjhockaaaGreatDoor.I

namespace Go.Proofs.YtgifflfjhockaaaGreatDoor.F
open Go.RowKit W

set_option maxRecDepth 100000 in
set_option maxHeartbeats 8000000 in
theorem equalI_any (A B : Option Addr) (la lb : List C.I3) (n m c d : Nat) (w : World) (ha : Rd w A (C.iis la)) (hb : Rd w B (C.iis lb)) (hn : Hid (la.length = n)) (hm : Hid (lb.length = m))
    (h1 : n ≤ 9223372036854775807) (h2 : m ≤ 9223372036854775807) (R : Bool) (hR : Hid (R = decide (la = lb))) :
    Calls Tryz.prog 107 #[.slice A n c, .slice B m d] w fun e w' => e = .returned (.bool R) ∧ Keep NoB w w' := by
  by_cases hnm : n = m
  · subst hnm
    go_enter Tryz.func107, Tryz.ntmps107
    go_wp2
    go_loopw [13] (fun i wr => ∃ k : Nat, k ≤ n ∧ i = .int .i64 k ∧ Hid (la.take k = lb.take k) ∧ Keep NoB w wr) (fun i _ => n - (intOf i).toNat)
    case atStart => exact ⟨0, Nat.zero_le _, rfl, rfl, Keep.refl _ _⟩
    case round =>
      obtain ⟨k, hk, rfl, ht, hK⟩ := hrel
      by_cases hlt : k < n
      · have hka : k < la.length := by rw [hn.out]; exact hlt
        have hkb : k < lb.length := by rw [hm.out]; exact hlt
        obtain ⟨ga, oa, rfl, hca⟩ := C.rdJ_at ha (by omega)
        obtain ⟨gb, ob, rfl, hcb⟩ := C.rdJ_at hb (by omega)
        have ca0 := hK.cell (hca k hka).1 id
        have ca1 := hK.cell (hca k hka).2.1 id
        have ca2 := hK.cell (hca k hka).2.2 id
        have cb0 := hK.cell (hcb k hkb).1 id
        have cb1 := hK.cell (hcb k hkb).2.1 id
        have cb2 := hK.cell (hcb k hkb).2.2 id
        have HT := Lib.hid (show la.take (k + 1) = la.take k ++ [la[k]] from List.take_succ_eq_append_getElem hka)
        have HU := Lib.hid (show lb.take (k + 1) = lb.take k ++ [lb[k]] from List.take_succ_eq_append_getElem hkb)
        clear hca hcb
        by_cases he : la[k] = lb[k]
        · have HV : Hid (la.take (k + 1) = lb.take (k + 1)) := by show _ = _; rw [HT.out, HU.out, ht.out, he]
          rw [he] at ca0 ca1 ca2
          clear he HT HU ha hb
          generalize lb[k] = y at ca0 ca1 ca2 cb0 cb1 cb2
          obtain ⟨y0, y1, y2⟩ := y
          dsimp only at ca0 ca1 ca2 cb0 cb1 cb2
          go_wp2
          go_quiet (fail)
          go_wp2
          go_roundw
          case rel => exact ⟨k + 1, by omega, by go_num, HV, hK.drewN _⟩
          case measure => simp [intOf]; omega
        · have hf : R = false := by
            rw [hR.out, decide_eq_false_iff_not]
            intro e
            exact he (by simp [e])
          subst hf
          clear HT HU ha hb
          generalize la[k] = x at ca0 ca1 ca2 he
          generalize lb[k] = y at cb0 cb1 cb2 he
          obtain ⟨x0, x1, x2⟩ := x
          obtain ⟨y0, y1, y2⟩ := y
          dsimp only at ca0 ca1 ca2 cb0 cb1 cb2
          by_cases h0 : x0 = y0
          · subst h0
            by_cases h3 : x1 = y1
            · subst h3
              have hne : (x2 == y2) = false := by rw [beq_eq_false_iff_ne]; rintro rfl; exact he rfl
              clear he
              go_wp2
              go_quiet (fail)
              go_wp2
              go_ret
              exact ⟨rfl, hK.drewN _⟩
            · have hne : (x1 == y1) = false := by rw [beq_eq_false_iff_ne]; exact h3
              clear he h3
              go_wp2
              go_quiet (fail)
              go_wp2
              go_ret
              exact ⟨rfl, hK.drewN _⟩
          · have hne : (x0 == y0) = false := by rw [beq_eq_false_iff_ne]; exact h0
            clear he h0
            go_wp2
            go_quiet (fail)
            go_wp2
            go_ret
            exact ⟨rfl, hK.drewN _⟩
      · have hf : R = true := by
          rw [hR.out, decide_eq_true_iff]
          have e1 := ht.out
          rwa [List.take_of_length_le (by rw [hn.out]; omega), List.take_of_length_le (by rw [hm.out]; omega)] at e1
        subst hf
        go_wp2
        go_ret
        exact ⟨rfl, hK⟩
  · have hf : R = false := by
      rw [hR.out, decide_eq_false_iff_not]
      intro e
      exact hnm (by rw [← hn.out, ← hm.out, e])
    subst hf
    have hne : ((n : Int) != (m : Int)) = true := by rw [bne_iff_ne]; omega
    clear hnm
    go_enter Tryz.func107, Tryz.ntmps107
    go_wp2
    go_ret
    exact ⟨rfl, Keep.refl _ _⟩

theorem retB {a b : Bool} (h : a = b) : Ending.returned (.bool a) = .returned (.bool b) := by rw [h]
theorem same_bits (f g : Fu) : sameF f g = (decide (f.nm = g.nm) && (decide (f.ar = g.ar ∧ f.rs = g.rs) && (decide (f.lc = g.lc) && decide (f.bd = g.bd)))) := by
  unfold sameF
  simp only [Bool.decide_and]
theorem name_eq {S T : ByteArray} {s t : List UInt8} (hS : S.data.toList = s) (hT : T.data.toList = t) : (S.toList == T.toList) = decide (s = t) := by
  subst hS hT
  rw [ByteArray.toList_eq, ByteArray.toList_eq]
  by_cases h : S.data.toList = T.data.toList
  · rw [decide_eq_true h, h]; exact beq_self_eq_true _
  · rw [decide_eq_false h]; exact beq_eq_false_iff_ne.2 h

set_option maxRecDepth 100000 in
set_option maxHeartbeats 8000000 in
theorem sameF_any (v : FV) (f : Fu) (u : FV) (g : Fu) (w : World) (h : FnAt w v f) (h2 : FnAt w u g) (hs : SmF v) (hs2 : SmF u) :
    Calls Tryz.prog 66 #[v.val, u.val] w fun e w' => e = .returned (.bool (sameF f g)) ∧ Keep NoB w w' := by
  have bx := (Blk.new w 61 v.cells).alloc (.cells u.cells 61)
  have by1 := Blk.new (w.alloc (.cells v.cells 61)) 61 u.cells
  have k0 := ((Keep.refl NoB w).alloc (.cells v.cells 61)).alloc (.cells u.cells 61)
  rw [World.size_alloc] at by1
  have HF := Lib.hid (h.keepN k0)
  have HG := Lib.hid (h2.keepN k0)
  have HX := Lib.hid bx
  have HY := Lib.hid by1
  have HR := Lib.hid (same_bits f g)
  have HN := name_eq h.nm h2.nm
  have HS := Lib.hid (fun w1 hk => S.same_any v.A f.ar v.na v.ca v.B f.rs v.nb v.cb u.A g.ar u.na u.ca u.B g.rs u.nb u.cb w1 (HF.out.keepN hk).ra (HF.out.keepN hk).rb (HG.out.keepN hk).ra (HG.out.keepN hk).rb h.la h.lb h2.la h2.lb (by have := hs.na; omega) (by have := hs.nb; omega) (by have := hs2.na; omega) (by have := hs2.nb; omega) _ rfl)
  have HL := Lib.hid (fun w1 hk => S.equal_any v.L u.L f.lc g.lc v.nl u.nl v.cl u.cl w1 (HF.out.keepN hk).rl (HG.out.keepN hk).rl h.ll h2.ll (by have := hs.nl; omega) (by have := hs2.nl; omega) _ rfl)
  have HD := Lib.hid (fun w1 hk => equalI_any v.D u.D f.bd g.bd v.nd u.nd v.cd u.cd w1 (HF.out.keepN hk).rd (HG.out.keepN hk).rd h.ld h2.ld (by have := hs.nd; omega) (by have := hs2.nd; omega) _ rfl)
  generalize sameF f g = R at HR ⊢
  generalize decide (f.nm = g.nm) = b0 at HR HN
  generalize decide (f.ar = g.ar ∧ f.rs = g.rs) = b1 at HR HS
  generalize decide (f.lc = g.lc) = b2 at HR HL
  generalize decide (f.bd = g.bd) = b3 at HR HD
  obtain ⟨s0, A, na, ca, B, nb, cb, L, nl, cl, D, nd, cd⟩ := v
  obtain ⟨s1, A1, na1, ca1, B1, nb1, cb1, L1, nl1, cl1, D1, nd1, cd1⟩ := u
  unfold FV.val FV.cells at *
  dsimp only at HN HS HL HD
  clear h h2 hs hs2 bx by1 HF HG
  cases b0
  · go_enter Tryz.func66, Tryz.ntmps66
    obtain ⟨c0, c1, c2, c3, c4⟩ := blk5 (v := ⟨s0, A, na, ca, B, nb, cb, L, nl, cl, D, nd, cd⟩) HX.out
    obtain ⟨d0, d1, d2, d3, d4⟩ := blk5 (v := ⟨s1, A1, na1, ca1, B1, nb1, cb1, L1, nl1, cl1, D1, nd1, cd1⟩) HY.out
    dsimp only at c0 c1 c2 c3 c4 d0 d1 d2 d3 d4
    go_wp2
    go_ret
    exact ⟨retB HR.out.symm, k0⟩
  · cases b1
    · go_enter Tryz.func66, Tryz.ntmps66
      obtain ⟨c0, c1, c2, c3, c4⟩ := blk5 (v := ⟨s0, A, na, ca, B, nb, cb, L, nl, cl, D, nd, cd⟩) HX.out
      obtain ⟨d0, d1, d2, d3, d4⟩ := blk5 (v := ⟨s1, A1, na1, ca1, B1, nb1, cb1, L1, nl1, cl1, D1, nd1, cd1⟩) HY.out
      dsimp only at c0 c1 c2 c3 c4 d0 d1 d2 d3 d4
      go_wp2_with fail
      refine (HS.out _ (Keep.refl _ _)).mono ?_
      rintro e w1 ⟨rfl, k1⟩
      go_wp2
      go_ret
      exact ⟨retB HR.out.symm, keepN k0 k1⟩
    · cases b2
      · go_enter Tryz.func66, Tryz.ntmps66
        obtain ⟨c0, c1, c2, c3, c4⟩ := blk5 (v := ⟨s0, A, na, ca, B, nb, cb, L, nl, cl, D, nd, cd⟩) HX.out
        obtain ⟨d0, d1, d2, d3, d4⟩ := blk5 (v := ⟨s1, A1, na1, ca1, B1, nb1, cb1, L1, nl1, cl1, D1, nd1, cd1⟩) HY.out
        dsimp only at c0 c1 c2 c3 c4 d0 d1 d2 d3 d4
        go_wp2_with fail
        refine (HS.out _ (Keep.refl _ _)).mono ?_
        rintro e w1 ⟨rfl, k1⟩
        clear c0 c1 c2 c3 c4 d0 d1 d2 d3 d4
        obtain ⟨c0, c1, c2, c3, c4⟩ := blk5 (v := ⟨s0, A, na, ca, B, nb, cb, L, nl, cl, D, nd, cd⟩) (HX.out.keep k1 id)
        obtain ⟨d0, d1, d2, d3, d4⟩ := blk5 (v := ⟨s1, A1, na1, ca1, B1, nb1, cb1, L1, nl1, cl1, D1, nd1, cd1⟩) (HY.out.keep k1 id)
        dsimp only at c0 c1 c2 c3 c4 d0 d1 d2 d3 d4
        go_wp2_with fail
        refine (HL.out _ k1).mono ?_
        rintro e w2 ⟨rfl, k2⟩
        replace k2 := keepN k1 k2
        go_wp2
        go_ret
        exact ⟨retB HR.out.symm, keepN k0 k2⟩
      · cases b3
        · go_enter Tryz.func66, Tryz.ntmps66
          obtain ⟨c0, c1, c2, c3, c4⟩ := blk5 (v := ⟨s0, A, na, ca, B, nb, cb, L, nl, cl, D, nd, cd⟩) HX.out
          obtain ⟨d0, d1, d2, d3, d4⟩ := blk5 (v := ⟨s1, A1, na1, ca1, B1, nb1, cb1, L1, nl1, cl1, D1, nd1, cd1⟩) HY.out
          dsimp only at c0 c1 c2 c3 c4 d0 d1 d2 d3 d4
          go_wp2_with fail
          refine (HS.out _ (Keep.refl _ _)).mono ?_
          rintro e w1 ⟨rfl, k1⟩
          clear c0 c1 c2 c3 c4 d0 d1 d2 d3 d4
          obtain ⟨c0, c1, c2, c3, c4⟩ := blk5 (v := ⟨s0, A, na, ca, B, nb, cb, L, nl, cl, D, nd, cd⟩) (HX.out.keep k1 id)
          obtain ⟨d0, d1, d2, d3, d4⟩ := blk5 (v := ⟨s1, A1, na1, ca1, B1, nb1, cb1, L1, nl1, cl1, D1, nd1, cd1⟩) (HY.out.keep k1 id)
          dsimp only at c0 c1 c2 c3 c4 d0 d1 d2 d3 d4
          go_wp2_with fail
          refine (HL.out _ k1).mono ?_
          rintro e w2 ⟨rfl, k2⟩
          replace k2 := keepN k1 k2
          clear c0 c1 c2 c3 c4 d0 d1 d2 d3 d4
          obtain ⟨c0, c1, c2, c3, c4⟩ := blk5 (v := ⟨s0, A, na, ca, B, nb, cb, L, nl, cl, D, nd, cd⟩) (HX.out.keep k2 id)
          obtain ⟨d0, d1, d2, d3, d4⟩ := blk5 (v := ⟨s1, A1, na1, ca1, B1, nb1, cb1, L1, nl1, cl1, D1, nd1, cd1⟩) (HY.out.keep k2 id)
          dsimp only at c0 c1 c2 c3 c4 d0 d1 d2 d3 d4
          go_wp2_with fail
          refine (HD.out _ k2).mono ?_
          rintro e w3 ⟨rfl, k3⟩
          replace k3 := keepN k2 k3
          go_wp2
          go_ret
          exact ⟨retB HR.out.symm, keepN k0 k3⟩
        · go_enter Tryz.func66, Tryz.ntmps66
          obtain ⟨c0, c1, c2, c3, c4⟩ := blk5 (v := ⟨s0, A, na, ca, B, nb, cb, L, nl, cl, D, nd, cd⟩) HX.out
          obtain ⟨d0, d1, d2, d3, d4⟩ := blk5 (v := ⟨s1, A1, na1, ca1, B1, nb1, cb1, L1, nl1, cl1, D1, nd1, cd1⟩) HY.out
          dsimp only at c0 c1 c2 c3 c4 d0 d1 d2 d3 d4
          go_wp2_with fail
          refine (HS.out _ (Keep.refl _ _)).mono ?_
          rintro e w1 ⟨rfl, k1⟩
          clear c0 c1 c2 c3 c4 d0 d1 d2 d3 d4
          obtain ⟨c0, c1, c2, c3, c4⟩ := blk5 (v := ⟨s0, A, na, ca, B, nb, cb, L, nl, cl, D, nd, cd⟩) (HX.out.keep k1 id)
          obtain ⟨d0, d1, d2, d3, d4⟩ := blk5 (v := ⟨s1, A1, na1, ca1, B1, nb1, cb1, L1, nl1, cl1, D1, nd1, cd1⟩) (HY.out.keep k1 id)
          dsimp only at c0 c1 c2 c3 c4 d0 d1 d2 d3 d4
          go_wp2_with fail
          refine (HL.out _ k1).mono ?_
          rintro e w2 ⟨rfl, k2⟩
          replace k2 := keepN k1 k2
          clear c0 c1 c2 c3 c4 d0 d1 d2 d3 d4
          obtain ⟨c0, c1, c2, c3, c4⟩ := blk5 (v := ⟨s0, A, na, ca, B, nb, cb, L, nl, cl, D, nd, cd⟩) (HX.out.keep k2 id)
          obtain ⟨d0, d1, d2, d3, d4⟩ := blk5 (v := ⟨s1, A1, na1, ca1, B1, nb1, cb1, L1, nl1, cl1, D1, nd1, cd1⟩) (HY.out.keep k2 id)
          dsimp only at c0 c1 c2 c3 c4 d0 d1 d2 d3 d4
          go_wp2_with fail
          refine (HD.out _ k2).mono ?_
          rintro e w3 ⟨rfl, k3⟩
          replace k3 := keepN k2 k3
          go_wp2
          go_ret
          exact ⟨retB HR.out.symm, keepN k0 k3⟩

set_option maxRecDepth 100000 in
set_option maxHeartbeats 8000000 in
theorem rsameF_any (v : FV) (f : Fu) (u : FV) (g : Fu) (w : World) (h : FnAt w v f) (h2 : FnAt w u g) (hs : SmF v) (hs2 : SmF u) :
    Calls Tryz.prog 51 #[v.val, u.val] w fun e w' => e = .returned (.bool (sameF f g)) ∧ Keep NoB w w' := by
  have bx := (Blk.new w 61 v.cells).alloc (.cells u.cells 61)
  have by1 := Blk.new (w.alloc (.cells v.cells 61)) 61 u.cells
  have k0 := ((Keep.refl NoB w).alloc (.cells v.cells 61)).alloc (.cells u.cells 61)
  rw [World.size_alloc] at by1
  have HF := Lib.hid (h.keepN k0)
  have HG := Lib.hid (h2.keepN k0)
  have HX := Lib.hid bx
  have HY := Lib.hid by1
  have HR := Lib.hid (same_bits f g)
  have HN := name_eq h.nm h2.nm
  have HS := Lib.hid (fun w1 hk => S.rsame_any v.A f.ar v.na v.ca v.B f.rs v.nb v.cb u.A g.ar u.na u.ca u.B g.rs u.nb u.cb w1 (HF.out.keepN hk).ra (HF.out.keepN hk).rb (HG.out.keepN hk).ra (HG.out.keepN hk).rb h.la h.lb h2.la h2.lb (by have := hs.na; omega) (by have := hs.nb; omega) (by have := hs2.na; omega) (by have := hs2.nb; omega) _ rfl)
  have HL := Lib.hid (fun w1 hk => ints_any v.L u.L f.lc g.lc v.nl u.nl v.cl u.cl w1 (HF.out.keepN hk).rl (HG.out.keepN hk).rl h.ll h2.ll (by have := hs.nl; omega) (by have := hs2.nl; omega) _ rfl)
  have HD := Lib.hid (fun w1 hk => C.lists_any v.D u.D f.bd g.bd v.nd u.nd v.cd u.cd w1 (HF.out.keepN hk).rd (HG.out.keepN hk).rd h.ld h2.ld (by have := hs.nd; omega) (by have := hs2.nd; omega) _ rfl)
  generalize sameF f g = R at HR ⊢
  generalize decide (f.nm = g.nm) = b0 at HR HN
  generalize decide (f.ar = g.ar ∧ f.rs = g.rs) = b1 at HR HS
  generalize decide (f.lc = g.lc) = b2 at HR HL
  generalize decide (f.bd = g.bd) = b3 at HR HD
  obtain ⟨s0, A, na, ca, B, nb, cb, L, nl, cl, D, nd, cd⟩ := v
  obtain ⟨s1, A1, na1, ca1, B1, nb1, cb1, L1, nl1, cl1, D1, nd1, cd1⟩ := u
  unfold FV.val FV.cells at *
  dsimp only at HN HS HL HD
  clear h h2 hs hs2 bx by1 HF HG
  cases b0 <;> cases b1 <;> cases b2 <;> cases b3
  all_goals
    go_enter Tryz.func51, Tryz.ntmps51
    obtain ⟨c0, c1, c2, c3, c4⟩ := blk5 (v := ⟨s0, A, na, ca, B, nb, cb, L, nl, cl, D, nd, cd⟩) HX.out
    obtain ⟨d0, d1, d2, d3, d4⟩ := blk5 (v := ⟨s1, A1, na1, ca1, B1, nb1, cb1, L1, nl1, cl1, D1, nd1, cd1⟩) HY.out
    dsimp only at c0 c1 c2 c3 c4 d0 d1 d2 d3 d4
    go_wp2_with fail
    refine (HS.out _ (Keep.refl _ _)).mono ?_
    rintro e w1 ⟨rfl, k1⟩
    clear c0 c1 c2 c3 c4 d0 d1 d2 d3 d4
    obtain ⟨c0, c1, c2, c3, c4⟩ := blk5 (v := ⟨s0, A, na, ca, B, nb, cb, L, nl, cl, D, nd, cd⟩) (HX.out.keep k1 id)
    obtain ⟨d0, d1, d2, d3, d4⟩ := blk5 (v := ⟨s1, A1, na1, ca1, B1, nb1, cb1, L1, nl1, cl1, D1, nd1, cd1⟩) (HY.out.keep k1 id)
    dsimp only at c0 c1 c2 c3 c4 d0 d1 d2 d3 d4
    go_wp2_with fail
    refine (HL.out _ k1).mono ?_
    rintro e w2 ⟨rfl, k2⟩
    replace k2 := keepN k1 k2
    clear c0 c1 c2 c3 c4 d0 d1 d2 d3 d4
    obtain ⟨c0, c1, c2, c3, c4⟩ := blk5 (v := ⟨s0, A, na, ca, B, nb, cb, L, nl, cl, D, nd, cd⟩) (HX.out.keep k2 id)
    obtain ⟨d0, d1, d2, d3, d4⟩ := blk5 (v := ⟨s1, A1, na1, ca1, B1, nb1, cb1, L1, nl1, cl1, D1, nd1, cd1⟩) (HY.out.keep k2 id)
    dsimp only at c0 c1 c2 c3 c4 d0 d1 d2 d3 d4
    go_wp2_with fail
    refine (HD.out _ k2).mono ?_
    rintro e w3 ⟨rfl, k3⟩
    replace k3 := keepN k2 k3
    clear c0 c1 c2 c3 c4 d0 d1 d2 d3 d4
    obtain ⟨c0, c1, c2, c3, c4⟩ := blk5 (v := ⟨s0, A, na, ca, B, nb, cb, L, nl, cl, D, nd, cd⟩) (HX.out.keep k3 id)
    obtain ⟨d0, d1, d2, d3, d4⟩ := blk5 (v := ⟨s1, A1, na1, ca1, B1, nb1, cb1, L1, nl1, cl1, D1, nd1, cd1⟩) (HY.out.keep k3 id)
    dsimp only at c0 c1 c2 c3 c4 d0 d1 d2 d3 d4
    go_wp2
    go_ret
    exact ⟨retB HR.out.symm, keepN k0 k3⟩

end Go.Proofs.YtgifflfjhockaaaGreatDoor.F
