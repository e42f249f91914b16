/-
  The document's copy of an image. Conditions: the image's lists lie in memory, and are no greater than statements go through.
  Which images may be: what Check of layer image answers. Conditions: the image's lists lie in memory, each below 2^47.
  Which function has a name: the program's Find, by the iterator, left by a label, and the document's. Conditions: the image's lists lie in memory; no more than 1000 functions.
  Are two functions the same: the program's Same and the document's. Conditions: the functions' lists lie in memory, and are no longer than statements go through.
  Are two images the same: the program's Same, by EqualFunc over shapes and over functions, and the document's. Conditions: the images' lists lie in memory, and are no greater than statements go through.
  What the document's Named answers. Conditions: the name's length fits an int64.
  The document's Types and Check of layer function. Conditions: the function's lists lie in memory, and are no longer than statements go through.
-/
import Derived.Test.YtgifflfjhockaaaGreatDoorQ11
import Derived.Test.YtgifflfjhockaaaGreatDoorQ10
import Derived.Test.YtgifflfjhockaaaGreatDoorQ3
import Derived.Test.YtgifflfjhockaaaGreatDoorQ5
import Derived.Test.YtgifflfjhockaaaGreatDoorQ6
import Derived.Test.YtgifflfjhockaaaGreatDoorQ9
import Derived.Test.YtgifflfjhockaaaGreatDoorQ7
import Derived.Test.YtgifflfjhockaaaGreatDoorQ8
namespace Go.Proofs.YtgifflfjhockaaaGreatDoor.I
open Go.RowKit W

/-- append of a list of another name. -/
theorem run_app_named (w : World) (S S2 E : TypeId) (hS : Tryz.prog.underlying S = some (.slice E)) (hS2 : Tryz.prog.underlying S2 = some (.slice E)) (ty : TypeId) (args : Array Value) : (Builtin.append_ #[S, S2] ty args).run Tryz.prog w = (Builtin.append_ #[S, S] ty args).run Tryz.prog w := by
  cases h0 : args[0]? with
  | none => simp [Builtin.append_, h0]
  | some s =>
    cases h1 : args[1]? with
    | none => simp [Builtin.append_, h0, h1]
    | some x => cases s <;> simp [Builtin.append_, h0, h1, run_underlying hS, run_underlying hS2]
theorem yields_app {o : Oper} {a : Act} {w w' : World} {R : Value → World → Prop} (s x : Operand) (S S2 : TypeId) (ho : o.op = .call { callee := .builtin .append, args := #[s, x], argTypes := #[S, S2] }) (u v : Value) {v' : Value} (hs : a.eval s = u) (hx : a.eval x = v)
    (hrun : (Builtin.append_ #[S, S2] o.type #[u, v]).run Tryz.prog w = .ok v' w') (h : R v' w') : yieldsK Tryz.prog o a w R := by
  unfold yieldsK execOp
  simp only [ho, resolve, invoke, builtin, Sem.run_bind, Sem.run_pure, Result.andThen_ok, List.map_toArray, List.map_cons, List.map_nil, hs, hx, hrun]
  exact h
/-- A field's row that gets longer. -/
theorem row_append {W W5 : World} {g i : Nat} {T E : TypeId} {sz k m : Nat} {P : Nat → Prop} {cs : Array Value} {v v' : Value} {xs ys : List Value} (hb : Blk W g T cs) (hrow : Own W E sz P v k xs) (hPg : ∀ j, P j → j ≠ g) (hg : W.grownBy W5 v.ownBlock) (hrow5 : W5.ownsRow 0 E sz v' m ys)
    (hv5 : v'.ownBlock = v.ownBlock ∨ v'.ownBlock = some W.heap.size) (hPn : P W.heap.size) :
    Blk W5 g T cs ∧ Own (W5.setCell ⟨g, i, none⟩ v') E sz P v' m ys ∧ Blk (W5.setCell ⟨g, i, none⟩ v') g T (cs.setIfInBounds i v') ∧ Keep (fun j => j = g ∨ v.ownBlock = some j) W (W5.setCell ⟨g, i, none⟩ v') := by
  have hb5 : Blk W5 g T cs := hb.grown hg (fun e => hPg g (hrow.2 g e.symm) rfl)
  have h5 : Own W5 E sz P v' m ys := ⟨hrow5, fun j e => by
    rcases hv5 with h | h
    · exact hrow.2 j (h ▸ e)
    · rw [h] at e; cases e; exact hPn⟩
  have hkk : Keep (fun j => j = g) W5 (W5.setCell ⟨g, i, none⟩ v') := (Keep.refl (fun j => j = g) W5).setCell (p := ⟨g, i, none⟩) (fun _ => rfl) v'
  refine ⟨hb5, h5.keep hkk (fun j hj e => hPg j hj e), hb5.put i v', ((Keep.refl _ W).grown hg (fun j e _ => .inr e)).setCell (fun _ => .inl rfl) v'⟩
theorem row_at {W : World} {g : Nat} {T E : TypeId} {sz k : Nat} {P : Nat → Prop} {cs : Array Value} {v : Value} {xs : List Value} (hb : Blk W g T cs) (hrow : Own W E sz P v k xs) : ∀ j, (j = g ∨ v.ownBlock = some j) → (j = g ∨ P j) ∧ ∃ cs t f, W.heap[j]? = some (.cells cs t f) ∧ (t = T ∨ t = E) := by
  rintro j (rfl | e)
  · exact ⟨.inl rfl, _, _, _, hb, .inl rfl⟩
  · rcases hrow.1.2 with ⟨rfl, _⟩ | ⟨g2, cap, cur, rfl, _, hh, _⟩
    · simp [Value.ownBlock] at e
    · obtain rfl : g2 = j := by simpa [Value.ownBlock] using e
      exact ⟨.inr (hrow.2 _ rfl), _, _, _, hh, .inr rfl⟩
theorem row_ty {W : World} {g : Nat} {T E F : TypeId} {sz k : Nat} {P : Nat → Prop} {cs : Array Value} {v : Value} {xs : List Value} (hb : Blk W g T cs) (hrow : Own W E sz P v k xs) (h1 : F ≠ T) (h2 : F ≠ E) : ∀ j, (j = g ∨ v.ownBlock = some j) → ∀ cs f, W.heap[j]? ≠ some (.cells cs F f) := fun j hj cs f h3 => by
  obtain ⟨_, cs2, t, f2, h4, h5⟩ := row_at hb hrow j hj
  rw [h4] at h3
  cases h3
  exact h5.elim h1 h2
theorem ownF_other {W W' : World} {O P : Nat → Prop} {v : F.FV} {f : F.Fu} (h : F.OwnF W P v f) (hk : Keep O W W') (h1 : ∀ k, O k → ∀ cs f, W.heap[k]? ≠ some (.cells cs 3 f)) (h2 : ∀ k, O k → ∀ cs f, W.heap[k]? ≠ some (.cells cs 63 f)) : F.OwnF W' P v f :=
  ⟨h.nm, own_other h.oa hk h1, own_other h.ob hk h1, own_other h.ol hk h1, own_other h.od hk h2, h.hI⟩
/-- What the values are that a round of shapes yields. -/
def SCs (b m : Nat) (u0 : Value) (X : Option Addr) (nx cx k : Nat) (g off : Nat) (A : Option Addr) (n c : Nat) (l : List Int) : Nat → Value → World → Prop
  | 0 => fun u _ => u = .pointer (some ⟨b + 1 + 1, 0, none⟩)
  | 1 => fun u _ => u = u0
  | 2 => fun u _ => u = .slice none 0 0
  | 3 => fun u _ => u = .pointer (some ⟨b, 0, none⟩)
  | 4 => fun u _ => u = .slice X nx cx
  | 5 => fun u _ => u = .int .i64 (k : Int)
  | 6 => fun u _ => u = .pointer (some ⟨g, off + k, none⟩)
  | 7 => fun u _ => u = .slice A n c
  | 8 => fun u W => ∃ A1 c1, u = .slice A1 n c1 ∧ Own W 3 1 (fun j => m ≤ j) (.slice A1 n c1) n (ivs l)
  | 9 => fun u W => ∃ h A1 c1, u = .slice (some ⟨h, 0, none⟩) 1 1 ∧ Blk W h 58 #[.slice A1 n c1] ∧ Own W 3 1 (fun j => m ≤ j) (.slice A1 n c1) n (ivs l)
  | _ => fun _ _ => True
theorem SCs_stable (b m : Nat) (u0 : Value) (X : Option Addr) (nx cx k : Nat) (g off : Nat) (A : Option Addr) (n c : Nat) (l : List Int) : ∀ i u W W', SCs b m u0 X nx cx k g off A n c l i u W → Keep NoB W W' → SCs b m u0 X nx cx k g off A n c l i u W'
  | 0, _, _, _, h, _ | 1, _, _, _, h, _ | 2, _, _, _, h, _ | 3, _, _, _, h, _ | 4, _, _, _, h, _ | 5, _, _, _, h, _ | 6, _, _, _, h, _ | 7, _, _, _, h, _ => h
  | 8, _, _, _, ⟨A1, c1, e, h⟩, hk => ⟨A1, c1, e, h.keepN hk⟩
  | 9, _, _, _, ⟨h, A1, c1, e, hb, ho⟩, hk => ⟨h, A1, c1, e, hb.keep hk id, ho.keepN hk⟩
  | _ + 10, _, _, _, h, _ => h
/-- What the values are that a round of functions yields. -/
def SCf (b m : Nat) (u0 : Value) (Y : Option Addr) (ny cy k : Nat) (g off : Nat) (fv : F.FV) (f : F.Fu) : Nat → Value → World → Prop
  | 0 => fun u _ => u = .pointer (some ⟨b + 1 + 1, 1, none⟩)
  | 1 => fun u _ => u = u0
  | 2 => fun u _ => u = .pointer (some ⟨b, 1, none⟩)
  | 3 => fun u _ => u = .slice Y ny cy
  | 4 => fun u _ => u = .int .i64 (k : Int)
  | 5 => fun u _ => u = .pointer (some ⟨g, off + k * 5, none⟩)
  | 6 => fun u _ => u = fv.val
  | 7 => fun u W => ∃ q : F.FV, u = q.val ∧ F.OwnF W (fun j => m ≤ j) q f
  | 8 => fun u W => ∃ h, ∃ q : F.FV, u = .slice (some ⟨h, 0, none⟩) 1 1 ∧ Blk W h 61 q.cells ∧ F.OwnF W (fun j => m ≤ j) q f
  | _ => fun _ _ => True
theorem SCf_stable (b m : Nat) (u0 : Value) (Y : Option Addr) (ny cy k : Nat) (g off : Nat) (fv : F.FV) (f : F.Fu) : ∀ i u W W', SCf b m u0 Y ny cy k g off fv f i u W → Keep NoB W W' → SCf b m u0 Y ny cy k g off fv f i u W'
  | 0, _, _, _, h, _ | 1, _, _, _, h, _ | 2, _, _, _, h, _ | 3, _, _, _, h, _ | 4, _, _, _, h, _ | 5, _, _, _, h, _ | 6, _, _, _, h, _ => h
  | 7, _, _, _, ⟨q, e, h⟩, hk => ⟨q, e, h.keepN hk⟩
  | 8, _, _, _, ⟨h, q, e, hb, ho⟩, hk => ⟨h, q, e, hb.keep hk id, ho.keepN hk⟩
  | _ + 9, _, _, _, h, _ => h
theorem rd_blkN {w : World} {g : Nat} {t : TypeId} {cs : Array Value} (h : Blk w g t cs) : Rd w (some ⟨g, 0, none⟩) cs.toList := fun _ => ⟨g, 0, rfl, fun j u hu => by
  rw [Nat.zero_add, h.cell j]; simpa using hu⟩

/-- How Copy ends. -/
def CpI (w : World) (p : Im) (e : Ending) (w' : World) : Prop := ∃ v es fs, e = .returned (IV.val v) ∧ OwnIm w' (Fresh w) v es fs ∧ imOf es fs = p ∧ Keep NoB w w'
/-- What a round leaves. -/
structure CpS (wb W : World) (b k : Nat) (A : Option Addr) (c : Nat) (w2 : Value) (m : Nat) (es es' : List SE) : Prop where
  hb : Blk W (b + 1 + 1) 25 #[.slice A k c, w2]
  hr : Own W 58 1 (fun j => m ≤ j) (.slice A k c) k (svs es')
  hs : ∀ e ∈ es', OwnS W (fun j => m ≤ j) e
  he : (es'.map fun e => e.2) = (es.take k).map fun e => e.2
  hk : Keep (fun j => j = b + 1 + 1) wb W
structure CpF (wb W : World) (b k j : Nat) (A A2 : Option Addr) (c c2 m : Nat) (es' : List SE) (fs fs' : List FE) : Prop where
  hb : Blk W (b + 1 + 1) 25 #[.slice A k c, .slice A2 j c2]
  hr : Own W 58 1 (fun j => m ≤ j) (.slice A k c) k (svs es')
  hs : ∀ e ∈ es', OwnS W (fun j => m ≤ j) e
  hr2 : Own W 61 5 (fun j => m ≤ j) (.slice A2 j c2) j (fvs fs')
  hf : ∀ e ∈ fs', F.OwnF W (fun j => m ≤ j) e.1 e.2
  he : (fs'.map fun e => e.2) = (fs.take j).map fun e => e.2
  hk : Keep (fun j => j = b + 1 + 1) wb W

set_option maxRecDepth 100000 in
set_option maxHeartbeats 4000000 in
theorem rcopyI_any (v : IV) (es : List SE) (fs : List FE) (w : World) (h : ImAt w v es fs) (hs : SmI es fs) :
    Calls Tryz.prog 11 #[v.val] w (CpI w (imOf es fs)) := by
  obtain ⟨i0, hi, hz0, hz1, hz2⟩ := info_parts shape_info
  obtain ⟨j0, hj, hy0, hy1, hy2⟩ := info_parts fun_info
  obtain ⟨n0, hni, hn0, hn1, hn2⟩ := info_parts int_info
  have bx := ((Blk.new w 25 v.cells).alloc (.cells #[.slice none 0 0, .slice none 0 0] 25)).alloc (.cells #[.slice none 0 0, .slice none 0 0] 25)
  have bz := (Blk.new (w.alloc (.cells v.cells 25)) 25 #[.slice none 0 0, .slice none 0 0]).alloc (.cells #[.slice none 0 0, .slice none 0 0] 25)
  have bc := Blk.new ((w.alloc (.cells v.cells 25)).alloc (.cells #[.slice none 0 0, .slice none 0 0] 25)) 25 #[.slice none 0 0, .slice none 0 0]
  have gK := (((Keep.refl NoB w).alloc (.cells v.cells 25)).alloc (.cells #[.slice none 0 0, .slice none 0 0] 25)).alloc (.cells #[.slice none 0 0, .slice none 0 0] 25)
  simp only [World.size_alloc] at bz bc
  have HIW := Lib.hid h
  have hlx := h.lx
  have hly := h.ly
  have HSM := Lib.hid hs
  have hnx := hs.ns
  have hny := hs.nf
  rw [hlx] at hnx
  rw [hly] at hny
  have hmz : ((((w.alloc (.cells v.cells 25)).alloc (.cells #[.slice none 0 0, .slice none 0 0] 25)).alloc (.cells #[.slice none 0 0, .slice none 0 0] 25))).heap.size = w.heap.size + 1 + 1 + 1 := by simp
  clear h hs
  obtain ⟨X, nx, cx, Y, ny, cy⟩ := v
  dsimp only [IV.val, IV.cells] at *
  have gK2 := gK
  obtain ⟨p0, p1⟩ := blk2 (v := ⟨X, nx, cx, Y, ny, cy⟩) bx
  dsimp only at p0 p1
  have HIK := Lib.hid (fun W (hk : Keep (fun j => j = w.heap.size + 1 + 1) _ W) => HIW.out.keep ((gK.mono (fun _ hf _ => hf.elim)).trans hk (fun _ h _ => h)) (fun k hl e => by omega))
  have HBX := Lib.hid bx
  have HBZ := Lib.hid bz
  have HC0 : Hid (CpS (((w.alloc (.cells #[.slice X nx cx, .slice Y ny cy] 25)).alloc (.cells #[.slice none 0 0, .slice none 0 0] 25)).alloc (.cells #[.slice none 0 0, .slice none 0 0] 25)) (((w.alloc (.cells #[.slice X nx cx, .slice Y ny cy] 25)).alloc (.cells #[.slice none 0 0, .slice none 0 0] 25)).alloc (.cells #[.slice none 0 0, .slice none 0 0] 25)) w.heap.size 0 none 0 (.slice none 0 0) (w.heap.size + 1 + 1 + 1) es []) := ⟨bc, Own.nil _ _ _ _, (fun _ h => nomatch h), by simp, Keep.refl _ _⟩
  clear bx bz bc
  go_enter Tryz.func11, Tryz.ntmps11
  go_wp2_with fail
  generalize (((w.alloc (.cells #[.slice X nx cx, .slice Y ny cy] 25)).alloc (.cells #[.slice none 0 0, .slice none 0 0] 25)).alloc (.cells #[.slice none 0 0, .slice none 0 0] 25)) = wb at *
  clear gK2
  go_loopw [4] (fun i wr => ∃ k : Nat, k ≤ nx ∧ i = .int .i64 k ∧ ∃ A c es', Hid (CpS wb wr w.heap.size k A c (.slice none 0 0) (w.heap.size + 1 + 1 + 1) es es')) (fun i _ => nx - (intOf i).toNat)
  case atStart => exact ⟨0, Nat.zero_le _, rfl, _, _, _, HC0.out⟩
  case round =>
    obtain ⟨k, hk, rfl, A, c, es', HC⟩ := hrel
    clear HC0
    have s0 := HC.out.hk.cell p0 (by show ¬ (w.heap.size = w.heap.size + 1 + 1); omega)
    by_cases hlt : k < nx
    · have hke : k < es.length := by omega
      obtain ⟨g, off, rfl, d0⟩ := shape_at (HIK.out wr HC.out.hk).rx hke
      have hsh := (HIK.out wr HC.out.hk).hs _ (List.getElem_mem hke)
      have hsz := HSM.out.sh _ (List.getElem_mem hke)
      obtain ⟨c0, c1⟩ := blk2 (v := ⟨A, k, c, none, 0, 0⟩) HC.out.hb
      dsimp only at c0 c1
      have HT : Hid ((es.take (k + 1)).map (fun e => e.2) = (es.take k).map (fun e => e.2) ++ [es[k].2]) := by
        show _ = _
        rw [List.take_succ_eq_append_getElem hke, List.map_append]; rfl
      have hwz := HC.out.hk.size
      have hel : es'.length = k := by have := congrArg List.length HC.out.he; simp at this; omega
      have HAP := Lib.hid (fun W (hk : Keep NoB wr W) ty => run_append_rd W 55 3 1 8 n0 (.int .i64 0) Tryz.underlying55 hni hn0 hn1 hn2 rfl (by decide) (.slice none 0 0) 0 [] es[k].1.A es[k].1.n es[k].1.c (ivs es[k].2) ty (World.ownsRow_nil _ _ _ _) (hsh.1.keepN hk) (by rw [Nat.mul_one, ← hsh.2]; simp) (one_ivs _) (by unfold maxLen; omega) (by omega))
      clear hsh
      generalize es[k] = e at *
      obtain ⟨⟨A1, n1, c1'⟩, l⟩ := e
      dsimp only at *
      go_wp2_with fail
      refine wp_region_tail (fun i => [15, 16, 17, 18, 19, 20, 21, 22, 23, 24].getD i 0) 10 (by kernel_rfl) (by kernel_rfl) (by kernel_rfl) (by kernel_rfl) (by kernel_rfl) (SCs w.heap.size (w.heap.size + 1 + 1 + 1) (.slice A k c) (some ⟨g, off, none⟩) nx cx k g off A1 n1 c1' l) (fun i u x y h hk => SCs_stable _ _ _ _ _ _ _ _ _ _ _ _ _ i u x y h hk) rfl ?step ?fin
      case step =>
        intro i o a w' hoo hi hF hK hA
        by_cases h0 : i = 0
        · subst h0
          simp only [List.getElem?_toArray, List.getElem?_cons_zero, Option.some.injEq] at hoo
          subst hoo
          have e3 : a.tmps.getD 3 undef = .pointer (some ⟨w.heap.size + 1 + 1, 0, none⟩) := hF.2.2 3 (by decide)
          refine Does.plain rfl ?_
          unfold yieldsK
          go_simp
          exact ⟨rfl, Keep.refl _ _⟩
        by_cases h1 : i = 1
        · subst h1
          simp only [List.getElem?_toArray, List.getElem?_cons_zero, List.getElem?_cons_succ, Option.some.injEq] at hoo
          subst hoo
          have e15 : a.tmps.getD 15 undef = .pointer (some ⟨w.heap.size + 1 + 1, 0, none⟩) := hA ⟨0, .data⟩ (by simp) rfl
          have q0 := Keep.cell hK c0 id
          refine Does.plain rfl ?_
          unfold yieldsK
          go_simp
          exact ⟨rfl, Keep.refl _ _⟩
        by_cases h2 : i = 2
        · subst h2
          simp only [List.getElem?_toArray, List.getElem?_cons_zero, List.getElem?_cons_succ, Option.some.injEq] at hoo
          subst hoo
          have e5 : a.tmps.getD 5 undef = .slice none 0 0 := hF.2.2 5 (by decide)
          refine Does.plain rfl ?_
          unfold yieldsK
          go_simp
          exact ⟨rfl, Keep.refl _ _⟩
        by_cases h3 : i = 3
        · subst h3
          simp only [List.getElem?_toArray, List.getElem?_cons_zero, List.getElem?_cons_succ, Option.some.injEq] at hoo
          subst hoo
          have e1 : a.tmps.getD 1 undef = .pointer (some ⟨w.heap.size, 0, none⟩) := hF.2.2 1 (by decide)
          refine Does.plain rfl ?_
          unfold yieldsK
          go_simp
          exact ⟨rfl, Keep.refl _ _⟩
        by_cases h4 : i = 4
        · subst h4
          simp only [List.getElem?_toArray, List.getElem?_cons_zero, List.getElem?_cons_succ, Option.some.injEq] at hoo
          subst hoo
          have e18 : a.tmps.getD 18 undef = .pointer (some ⟨w.heap.size, 0, none⟩) := hA ⟨3, .data⟩ (by simp) rfl
          have q0 := Keep.cell hK s0 id
          refine Does.plain rfl ?_
          unfold yieldsK
          go_simp
          exact ⟨rfl, Keep.refl _ _⟩
        by_cases h5 : i = 5
        · subst h5
          simp only [List.getElem?_toArray, List.getElem?_cons_zero, List.getElem?_cons_succ, Option.some.injEq] at hoo
          subst hoo
          have e4 : a.tmps.getD 4 undef = .int .i64 (k : Int) := hF.2.2 4 (by decide)
          refine Does.plain rfl ?_
          unfold yieldsK
          go_simp
          exact ⟨rfl, Keep.refl _ _⟩
        by_cases h6 : i = 6
        · subst h6
          simp only [List.getElem?_toArray, List.getElem?_cons_zero, List.getElem?_cons_succ, Option.some.injEq] at hoo
          subst hoo
          have e19 : a.tmps.getD 19 undef = .slice (some ⟨g, off, none⟩) nx cx := hA ⟨4, .data⟩ (by simp) rfl
          have e20 : a.tmps.getD 20 undef = .int .i64 (k : Int) := hA ⟨5, .data⟩ (by simp) rfl
          have hkn : (k : Int) < (nx : Int) := by omega
          refine Does.plain rfl ?_
          unfold yieldsK
          go_simp
          exact ⟨rfl, Keep.refl _ _⟩
        by_cases h7 : i = 7
        · subst h7
          simp only [List.getElem?_toArray, List.getElem?_cons_zero, List.getElem?_cons_succ, Option.some.injEq] at hoo
          subst hoo
          have e21 : a.tmps.getD 21 undef = .pointer (some ⟨g, off + k, none⟩) := hA ⟨6, .data⟩ (by simp) rfl
          have q0 := Keep.cell hK d0 id
          refine Does.plain rfl ?_
          unfold yieldsK
          go_simp
          exact ⟨rfl, Keep.refl _ _⟩
        by_cases h8 : i = 8
        · subst h8
          simp only [List.getElem?_toArray, List.getElem?_cons_zero, List.getElem?_cons_succ, Option.some.injEq] at hoo
          subst hoo
          have e17 : a.tmps.getD 17 undef = .slice none 0 0 := hA ⟨2, .data⟩ (by simp) rfl
          have e22 : a.tmps.getD 22 undef = .slice A1 n1 c1' := hA ⟨7, .data⟩ (by simp) rfl
          have ⟨v9, w9, hrun, hown, hg, hv⟩ := HAP.out w' hK 55
          have hnm := run_app_named w' 55 58 3 Tryz.underlying55 Tryz.underlying58 55 #[.slice none 0 0, .slice A1 n1 c1']
          refine Does.plain rfl ?_
          rw [hrun] at hnm
          refine yields_app (.tmp 17) (.tmp 22) 55 58 rfl _ _ e17 e22 hnm ?_
          have h9 : Own w9 3 1 (fun j => w.heap.size + 1 + 1 + 1 ≤ j) v9 n1 (ivs l) := by
            rw [List.nil_append, Nat.zero_add] at hown
            refine ⟨hown, fun j e => ?_⟩
            rcases hv with h | h
            · rw [h] at e; cases e
            · rw [h] at e; injection e with e; have := hK.size; omega
          obtain ⟨A9, c9, rfl, _, _, _, _⟩ := h9.form
          exact ⟨⟨A9, c9, rfl, h9⟩, (Keep.refl NoB w').grown hg (fun j e => by cases e)⟩
        by_cases h9 : i = 9
        · subst h9
          simp only [List.getElem?_toArray, List.getElem?_cons_zero, List.getElem?_cons_succ, Option.some.injEq] at hoo
          subst hoo
          obtain ⟨A9, c9, e23, h9⟩ := hA ⟨8, .data⟩ (by simp) rfl
          have e23 : a.tmps.getD 23 undef = .slice A9 n1 c9 := e23
          refine Does.plain rfl ?_
          unfold yieldsK
          simp only [Array.getD_eq_getD_getElem?] at e23
          go_simp
          exact ⟨⟨w'.heap.size, A9, c9, rfl, Blk.new _ _ _, h9.keepN ((Keep.refl _ _).alloc _)⟩, (Keep.refl _ _).alloc _⟩
        omega
      case fin =>
        intro a w' hF gK hA
        have e16 : a.tmps.getD 16 undef = .slice A k c := hA 1 (by decide)
        obtain ⟨h24, A9, c9, e24, hb24, h9⟩ := hA 9 (by decide)
        have e24 : a.tmps.getD 24 undef = .slice (some ⟨h24, 0, none⟩) 1 1 := e24
        have ha := frameD_list (l := [15, 16, 17, 18, 19, 20, 21, 22, 23, 24]) rfl hF
        rw [ha]
        simp only [List.map_cons, List.map_nil, e16, e24]
        generalize a.tmps.getD 15 undef = u0
        generalize a.tmps.getD 17 undef = u2
        generalize a.tmps.getD 18 undef = u3
        generalize a.tmps.getD 19 undef = u4
        generalize a.tmps.getD 20 undef = u5
        generalize a.tmps.getD 21 undef = u6
        generalize a.tmps.getD 22 undef = u7
        generalize a.tmps.getD 23 undef = u8
        simp only [fillD, List.setIfInBounds_toArray, List.set_cons_zero, List.set_cons_succ]
        have hbW := HC.out.hb.keep gK id
        have hrW := HC.out.hr.keepN gK
        have hwz2 := gK.size
        have hPn : w.heap.size + 1 + 1 + 1 ≤ w'.heap.size := by omega
        have HFIN : Hid (∀ v' W5, W5.ownsRow 0 58 1 v' (k + 1) (svs es' ++ [.slice A9 n1 c9]) → w'.grownBy W5 (Value.slice A k c).ownBlock → (v'.ownBlock = (Value.slice A k c).ownBlock ∨ v'.ownBlock = some w'.heap.size) →
            Blk W5 (w.heap.size + 1 + 1) 25 #[.slice A k c, .slice none 0 0] ∧ ∀ A5 c5, v' = .slice A5 (k + 1) c5 → CpS wb (W5.setCell ⟨w.heap.size + 1 + 1, 0, none⟩ v') w.heap.size (k + 1) A5 c5 (.slice none 0 0) (w.heap.size + 1 + 1 + 1) es (es' ++ [(⟨A9, n1, c9⟩, l)])) := fun v' W5 hown hg hv => by
          obtain ⟨h1, h2, h3, h4⟩ := row_append (i := 0) hbW hrW (fun j (hj : w.heap.size + 1 + 1 + 1 ≤ j) => by omega) hg hown hv hPn
          have hty := row_ty (F := 3) hbW hrW (by decide) (by decide)
          refine ⟨h1, fun A5 c5 e => ?_⟩
          subst e
          refine ⟨by simpa using h3, by rw [svs_append]; exact h2, fun e he => ?_, by rw [List.map_append, HC.out.he, HT.out]; rfl, (HC.out.hk.trans (gK.mono (fun _ hf _ => hf.elim)) (fun _ h _ => h)).trans h4 (fun j hj hl => by
            rcases (row_at hbW hrW j hj).1 with h | h
            · exact h
            · exfalso
              have : w.heap.size + 1 + 1 + 1 ≤ j := h
              omega)⟩
          rcases List.mem_append.1 he with he | he
          · exact own_other ((HC.out.hs e he).keep gK (fun _ _ => id)) h4 hty
          · rw [List.mem_singleton.1 he]; exact own_other h9 h4 hty
        have HBW := Lib.hid hrW
        clear hA hF ha e16 e24 HC h9 HAP hbW hrW HT s0 c0 c1 d0
        simp only [List.drop_succ_cons, List.drop_zero]
        have hrb := rd_blkN hb24
        generalize svs es' = xs at *
        go_wp2_with (at_builtin; refine wpList_append_rd _ rfl (.tmp 16) (.tmp 24) _ rfl 58 1 24 i0 _ Tryz.underlying22 hi hz0 hz1 hz2 rfl (by decide) (.slice A k c) k xs (some ⟨h24, 0, none⟩) 1 1 [.slice A9 n1 c9] rfl HBW.out.1 rfl hrb rfl (by simp [Value.oneCell']) (by unfold maxLen; omega) (by omega) ?_; intro B5 d5 W5 hrow5 hg5 hv5; obtain ⟨hb5, hfin⟩ := HFIN.out _ _ hrow5 hg5 hv5; have t0 := hb5.cell 0; have f0 := fun i => hb5.frozen i; have l0 := hb5.lt; simp only [List.getElem?_toArray, List.getElem?_cons_zero] at t0)
        go_roundw
        case rel => exact ⟨k + 1, by omega, by go_num, B5, d5, _, hfin _ _ rfl⟩
        case measure => simp [intOf]; omega
    · obtain rfl : k = nx := by omega
      have HES : Hid ((es'.map fun e => e.2) = es.map fun e => e.2) := by
        show _ = _
        rw [HC.out.he, List.take_of_length_le (by omega)]
      have HF0 : Hid (CpF wb wr w.heap.size k 0 A none c 0 (w.heap.size + 1 + 1 + 1) es' fs []) := ⟨HC.out.hb, HC.out.hr, HC.out.hs, Own.nil _ _ _ _, (fun _ h => nomatch h), by simp, HC.out.hk⟩
      clear HC
      go_wp2_with fail
      clear s0
      go_loopw [6] (fun i wr => ∃ j : Nat, j ≤ ny ∧ i = .int .i64 j ∧ ∃ A2 c2 fs', Hid (CpF wb wr w.heap.size k j A A2 c c2 (w.heap.size + 1 + 1 + 1) es' fs fs')) (fun i _ => ny - (intOf i).toNat)
      case atStart => exact ⟨0, Nat.zero_le _, rfl, _, _, _, HF0.out⟩
      case round =>
        obtain ⟨j, hjn, rfl, A2, c2, fs', HC⟩ := hrel
        clear HF0
        have s0 := HC.out.hk.cell p0 (by show ¬ (w.heap.size = w.heap.size + 1 + 1); omega)
        have s1 := HC.out.hk.cell p1 (by show ¬ (w.heap.size = w.heap.size + 1 + 1); omega)
        obtain ⟨c0, c1⟩ := blk2 (v := ⟨A, k, c, A2, j, c2⟩) HC.out.hb
        dsimp only at c0 c1
        by_cases hlt : j < ny
        · have hje : j < fs.length := by omega
          obtain ⟨g, off, rfl, d0, d1, d2, d3, d4⟩ := fun_at (HIK.out wr HC.out.hk).ry hje
          have hfn := (HIK.out wr HC.out.hk).hf _ (List.getElem_mem hje)
          have hsm := HSM.out.fn _ (List.getElem_mem hje)
          have HT : Hid ((fs.take (j + 1)).map (fun e => e.2) = (fs.take j).map (fun e => e.2) ++ [fs[j].2]) := by
            show _ = _
            rw [List.take_succ_eq_append_getElem hje, List.map_append]; rfl
          have hwz := HC.out.hk.size
          have hfl : fs'.length = j := by have := congrArg List.length HC.out.he; simp at this; omega
          have HCP := Lib.hid (fun W (hk : Keep NoB wr W) => F.rcopyF_any fs[j].1 fs[j].2 W (hfn.keepN hk) hsm)
          clear hfn hsm
          generalize fs[j] = e at *
          obtain ⟨⟨S1, A1, na1, ca1, B1, nb1, cb1, L1, nl1, cl1, D1, nd1, cd1⟩, f⟩ := e
          dsimp only [F.FV.val, F.FV.cells] at *
          go_wp2_with fail
          refine wp_region_tail (fun i => [34, 35, 36, 37, 38, 39, 40, 41, 42].getD i 0) 9 (by kernel_rfl) (by kernel_rfl) (by kernel_rfl) (by kernel_rfl) (by kernel_rfl) (SCf w.heap.size (w.heap.size + 1 + 1 + 1) (.slice A2 j c2) (some ⟨g, off, none⟩) ny cy j g off ⟨S1, A1, na1, ca1, B1, nb1, cb1, L1, nl1, cl1, D1, nd1, cd1⟩ f) (fun i u x y h hk => SCf_stable _ _ _ _ _ _ _ _ _ _ _ i u x y h hk) rfl ?step ?fin
          case step =>
            intro i o a w' hoo hi hF hK hA
            by_cases h0 : i = 0
            · subst h0
              simp only [List.getElem?_toArray, List.getElem?_cons_zero, Option.some.injEq] at hoo
              subst hoo
              have e3 : a.tmps.getD 3 undef = .pointer (some ⟨w.heap.size + 1 + 1, 0, none⟩) := hF.2.2 3 (by decide)
              refine Does.plain rfl ?_
              unfold yieldsK
              go_simp
              exact ⟨rfl, Keep.refl _ _⟩
            by_cases h1 : i = 1
            · subst h1
              simp only [List.getElem?_toArray, List.getElem?_cons_zero, List.getElem?_cons_succ, Option.some.injEq] at hoo
              subst hoo
              have e34 : a.tmps.getD 34 undef = .pointer (some ⟨w.heap.size + 1 + 1, 1, none⟩) := hA ⟨0, .data⟩ (by simp) rfl
              have q0 := Keep.cell hK c1 id
              refine Does.plain rfl ?_
              unfold yieldsK
              go_simp
              exact ⟨rfl, Keep.refl _ _⟩
            by_cases h2 : i = 2
            · subst h2
              simp only [List.getElem?_toArray, List.getElem?_cons_zero, List.getElem?_cons_succ, Option.some.injEq] at hoo
              subst hoo
              have e1 : a.tmps.getD 1 undef = .pointer (some ⟨w.heap.size, 0, none⟩) := hF.2.2 1 (by decide)
              refine Does.plain rfl ?_
              unfold yieldsK
              go_simp
              exact ⟨rfl, Keep.refl _ _⟩
            by_cases h3 : i = 3
            · subst h3
              simp only [List.getElem?_toArray, List.getElem?_cons_zero, List.getElem?_cons_succ, Option.some.injEq] at hoo
              subst hoo
              have e36 : a.tmps.getD 36 undef = .pointer (some ⟨w.heap.size, 1, none⟩) := hA ⟨2, .data⟩ (by simp) rfl
              have q0 := Keep.cell hK s1 id
              refine Does.plain rfl ?_
              unfold yieldsK
              go_simp
              exact ⟨rfl, Keep.refl _ _⟩
            by_cases h4 : i = 4
            · subst h4
              simp only [List.getElem?_toArray, List.getElem?_cons_zero, List.getElem?_cons_succ, Option.some.injEq] at hoo
              subst hoo
              have e6 : a.tmps.getD 6 undef = .int .i64 (j : Int) := hF.2.2 6 (by decide)
              refine Does.plain rfl ?_
              unfold yieldsK
              go_simp
              exact ⟨rfl, Keep.refl _ _⟩
            by_cases h5 : i = 5
            · subst h5
              simp only [List.getElem?_toArray, List.getElem?_cons_zero, List.getElem?_cons_succ, Option.some.injEq] at hoo
              subst hoo
              have e37 : a.tmps.getD 37 undef = .slice (some ⟨g, off, none⟩) ny cy := hA ⟨3, .data⟩ (by simp) rfl
              have e38 : a.tmps.getD 38 undef = .int .i64 (j : Int) := hA ⟨4, .data⟩ (by simp) rfl
              have hkn : (j : Int) < (ny : Int) := by omega
              refine Does.plain rfl ?_
              unfold yieldsK
              go_simp
              exact ⟨rfl, Keep.refl _ _⟩
            by_cases h6 : i = 6
            · subst h6
              simp only [List.getElem?_toArray, List.getElem?_cons_zero, List.getElem?_cons_succ, Option.some.injEq] at hoo
              subst hoo
              have e39 : a.tmps.getD 39 undef = .pointer (some ⟨g, off + j * 5, none⟩) := hA ⟨5, .data⟩ (by simp) rfl
              have q0 := Keep.cell hK d0 id
              have q1 := Keep.cell hK d1 id
              have q2 := Keep.cell hK d2 id
              have q3 := Keep.cell hK d3 id
              have q4 := Keep.cell hK d4 id
              refine Does.plain rfl ?_
              unfold yieldsK
              go_simp
              exact ⟨rfl, Keep.refl _ _⟩
            by_cases h7 : i = 7
            · subst h7
              simp only [List.getElem?_toArray, List.getElem?_cons_zero, List.getElem?_cons_succ, Option.some.injEq] at hoo
              subst hoo
              have e40 : a.tmps.getD 40 undef = .agg #[.string S1, .slice A1 na1 ca1, .slice B1 nb1 cb1, .slice L1 nl1 cl1, .slice D1 nd1 cd1] := hA ⟨6, .data⟩ (by simp) rfl
              refine Does.plain rfl ?_
              unfold yieldsK
              go_simp
              refine (HCP.out w' hK).mono ?_
              rintro e w9 ⟨q, rfl, hq, hk9⟩
              exact ⟨_, rfl, ⟨q, rfl, hq.mono (fun i (hi : Fresh w' i) _ => by have := hK.size; unfold Fresh at hi; omega)⟩, hk9⟩
            by_cases h8 : i = 8
            · subst h8
              simp only [List.getElem?_toArray, List.getElem?_cons_zero, List.getElem?_cons_succ, Option.some.injEq] at hoo
              subst hoo
              obtain ⟨q, e41, hq⟩ := hA ⟨7, .data⟩ (by simp) rfl
              have e41 : a.tmps.getD 41 undef = q.val := e41
              refine Does.plain rfl ?_
              obtain ⟨S9, A9, na9, ca9, B9, nb9, cb9, L9, nl9, cl9, D9, nd9, cd9⟩ := q
              dsimp only [F.FV.val, F.FV.cells] at e41
              simp only [Array.getD_eq_getD_getElem?] at e41
              unfold yieldsK
              go_simp
              exact ⟨⟨w'.heap.size, ⟨S9, A9, na9, ca9, B9, nb9, cb9, L9, nl9, cl9, D9, nd9, cd9⟩, rfl, Blk.new _ _ _, hq.keepN ((Keep.refl _ _).alloc _)⟩, (Keep.refl _ _).alloc _⟩
            omega
          case fin =>
            intro a w' hF gK hA
            have e35 : a.tmps.getD 35 undef = .slice A2 j c2 := hA 1 (by decide)
            obtain ⟨h42, q, e42, hb42, hq⟩ := hA 8 (by decide)
            have e42 : a.tmps.getD 42 undef = .slice (some ⟨h42, 0, none⟩) 1 1 := e42
            have ha := frameD_list (l := [34, 35, 36, 37, 38, 39, 40, 41, 42]) rfl hF
            rw [ha]
            simp only [List.map_cons, List.map_nil, e35, e42]
            generalize a.tmps.getD 34 undef = u0
            generalize a.tmps.getD 36 undef = u2
            generalize a.tmps.getD 37 undef = u3
            generalize a.tmps.getD 38 undef = u4
            generalize a.tmps.getD 39 undef = u5
            generalize a.tmps.getD 40 undef = u6
            generalize a.tmps.getD 41 undef = u7
            simp only [fillD, List.setIfInBounds_toArray, List.set_cons_zero, List.set_cons_succ]
            have hbW := HC.out.hb.keep gK id
            have hrW := HC.out.hr2.keepN gK
            have hwz2 := gK.size
            have hPn : w.heap.size + 1 + 1 + 1 ≤ w'.heap.size := by omega
            have HFIN : Hid (∀ v' W5, W5.ownsRow 0 61 5 v' (j + 1) (fvs fs' ++ q.cells.toList) → w'.grownBy W5 (Value.slice A2 j c2).ownBlock → (v'.ownBlock = (Value.slice A2 j c2).ownBlock ∨ v'.ownBlock = some w'.heap.size) →
                Blk W5 (w.heap.size + 1 + 1) 25 #[.slice A k c, .slice A2 j c2] ∧ ∀ A5 c5, v' = .slice A5 (j + 1) c5 → CpF wb (W5.setCell ⟨w.heap.size + 1 + 1, 1, none⟩ v') w.heap.size k (j + 1) A A5 c c5 (w.heap.size + 1 + 1 + 1) es' fs (fs' ++ [(q, f)])) := fun v' W5 hown hg hv => by
              obtain ⟨h1, h2, h3, h4⟩ := row_append (i := 1) hbW hrW (fun j (hj : w.heap.size + 1 + 1 + 1 ≤ j) => by omega) hg hown hv hPn
              have hty := row_ty (F := 3) hbW hrW (by decide) (by decide)
              have hti := row_ty (F := 63) hbW hrW (by decide) (by decide)
              have hts := row_ty (F := 58) hbW hrW (by decide) (by decide)
              refine ⟨h1, fun A5 c5 e => ?_⟩
              subst e
              refine ⟨by simpa using h3, own_other (HC.out.hr.keepN gK) h4 hts, fun e he => own_other ((HC.out.hs e he).keep gK (fun _ _ => id)) h4 hty, by rw [fvs_append]; simpa [fvs] using h2, fun e he => ?_, by rw [List.map_append, HC.out.he, HT.out]; rfl, (HC.out.hk.trans (gK.mono (fun _ hf _ => hf.elim)) (fun _ h _ => h)).trans h4 (fun i hi hl => by
                rcases (row_at hbW hrW i hi).1 with h | h
                · exact h
                · exfalso
                  have : w.heap.size + 1 + 1 + 1 ≤ i := h
                  omega)⟩
              rcases List.mem_append.1 he with he | he
              · exact ownF_other ((HC.out.hf e he).keepN gK) h4 hty hti
              · rw [List.mem_singleton.1 he]; exact ownF_other hq h4 hty hti
            have HBW := Lib.hid hrW
            clear hA hF ha e35 e42 HC hq HCP hbW hrW HT s0 s1 c0 c1 d0 d1 d2 d3 d4
            simp only [List.drop_succ_cons, List.drop_zero]
            have hrb := rd_blkN hb42
            have HQ1 : Hid (q.cells.toList.length = 1 * 5 ∧ ∀ u ∈ q.cells.toList, u.oneCell' = true) := ⟨cells_len q, fun u hu => by
              unfold F.FV.cells at hu
              simp only [List.mem_cons, List.not_mem_nil, or_false] at hu
              rcases hu with rfl | rfl | rfl | rfl | rfl <;> rfl⟩
            generalize fvs fs' = xs at *
            generalize q.cells = qc at *
            go_wp2_with (at_builtin; refine wpList_append_rd _ rfl (.tmp 35) (.tmp 42) _ rfl 61 5 112 j0 _ Tryz.underlying23 hj hy0 hy1 hy2 rfl (by decide) (.slice A2 j c2) j xs (some ⟨h42, 0, none⟩) 1 1 qc.toList rfl HBW.out.1 rfl hrb HQ1.out.1 HQ1.out.2 (by unfold maxLen; omega) (by omega) ?_; intro B5 d5 W5 hrow5 hg5 hv5; obtain ⟨hb5, hfin⟩ := HFIN.out _ _ hrow5 hg5 hv5; have t0 := hb5.cell 1; have f0 := fun i => hb5.frozen i; have l0 := hb5.lt; simp only [List.getElem?_toArray, List.getElem?_cons_zero, List.getElem?_cons_succ] at t0)
            go_roundw
            case rel => exact ⟨j + 1, by omega, by go_num, B5, d5, _, hfin _ _ rfl⟩
            case measure => simp [intOf]; omega
        · obtain rfl : j = ny := by omega
          have bz2 := HBZ.out.keep HC.out.hk (by show ¬ (w.heap.size + 1 = w.heap.size + 1 + 1); omega)
          have f3 := fun i => bz2.frozen i
          have q0 := bz2.cell 0
          have q1 := bz2.cell 1
          simp only [List.getElem?_toArray, List.getElem?_cons_zero, List.getElem?_cons_succ] at q0 q1
          have hlt2 := bz2.lt
          have HP := Lib.hid (put2_img bz2 (.slice A k c) (.slice A2 j c2))
          have kq := keep2_img wr (w.heap.size + 1) (.slice A k c) (.slice A2 j c2)
          have HK : Hid (Keep NoB w ((wr.setCell ⟨w.heap.size + 1, 0, none⟩ (.slice A k c)).setCell ⟨w.heap.size + 1, 1, none⟩ (.slice A2 j c2))) := (gK.trans HC.out.hk (fun k e hl => by omega)).trans kq (fun k e hl => by omega)
          have HO : Hid (OwnIm ((wr.setCell ⟨w.heap.size + 1, 0, none⟩ (.slice A k c)).setCell ⟨w.heap.size + 1, 1, none⟩ (.slice A2 j c2)) (Fresh w) ⟨A, k, c, A2, j, c2⟩ es' fs') :=
            ((⟨HC.out.hr, HC.out.hr2, HC.out.hs, HC.out.hf⟩ : OwnIm wr (fun j => w.heap.size + 1 + 1 + 1 ≤ j) ⟨A, k, c, A2, j, c2⟩ es' fs').keep kq (fun i hi e => by omega)).mono (fun i hi _ => by unfold Fresh; omega)
          have HM : Hid (imOf es' fs' = imOf es fs) := by
            show _ = _
            unfold imOf
            rw [HES.out, HC.out.he, List.take_of_length_le (by omega)]
          clear HC bz2 s0 kq HES
          go_wp2
          refine bodyPost_ret (ret_img (v := ⟨A, k, c, A2, j, c2⟩) rfl rfl HP.out) rfl ?_
          exact ⟨⟨A, k, c, A2, j, c2⟩, es', fs', rfl, HO.out, HM.out, HK.out⟩

end Go.Proofs.YtgifflfjhockaaaGreatDoor.I

namespace Go.Proofs.YtgifflfjhockaaaGreatDoor.I
open Go.RowKit W

theorem okI_parts (es : List SE) (fs : List FE) : okI (imOf es fs) = (mayS es && (mayF fs && decide ((names (imOf [] fs)).Nodup))) := by
  have hn : names (imOf es fs) = names (imOf [] fs) := rfl
  rw [Bool.eq_iff_iff, okI_iff, hn]
  simp only [Bool.and_eq_true, mayS, mayF, decide_eq_true_eq]
  have e1 : (imOf es fs).sh.all S.okS = es.all fun e => S.okS e.2 := by simp [imOf, List.all_map, Function.comp_def]
  have e2 : (imOf es fs).fn.all F.okF = fs.all fun e => F.okF e.2 := by simp [imOf, List.all_map, Function.comp_def]
  have e3 : (imOf es fs).sh.length = es.length := by simp [imOf]
  have e4 : (imOf es fs).fn.length = fs.length := by simp [imOf]
  rw [e1, e2, e3, e4]
  constructor
  · rintro ⟨⟨a, ⟨b, c⟩, d⟩, e, f⟩
    exact ⟨⟨⟨Nat.zero_le _, a⟩, e⟩, ⟨⟨b, c⟩, f⟩, d⟩
  · rintro ⟨⟨⟨_, a⟩, e⟩, ⟨⟨b, c⟩, f⟩, d⟩
    exact ⟨⟨a, ⟨b, c⟩, d⟩, e, f⟩

set_option maxRecDepth 100000 in
set_option maxHeartbeats 8000000 in
theorem check_any (v : IV) (es : List SE) (fs : List FE) (w : World) (h : ImAt w v es fs) (hl : LgI v es fs) (R : Int) (hR : Hid (chkI (imOf es fs) = R)) :
    Calls Tryz.prog 20 #[v.val] w fun e w' => e = .returned (.int .i64 R) ∧ Keep NoB w w' := by
  have bx := Blk.new w 25 v.cells
  have k0 := (Keep.refl NoB w).alloc (.cells v.cells 25)
  have hlx := h.lx
  have hly := h.ly
  have HS := Lib.hid (fun W (hk : Keep NoB w W) => mayS_any v.X es v.nx v.cx W (fun W' hk' => (h.keepN (keepN hk hk')).rx) hlx (by have := hl.nx; omega) (fun e he W' hk' => S.chkS_any e.1.A e.2 e.1.n e.1.c W' ((h.keepN (keepN hk hk')).hs e he).1 (h.hs e he).2 (by have := hl.sh e he; omega) _ rfl))
  have HF := Lib.hid (fun W (hk : Keep NoB w W) => mayF_any v.Y fs v.ny v.cy W (fun W' hk' => (h.keepN (keepN hk hk')).ry) hly (by have := hl.ny; omega) (fun e he W' hk' => F.checkL_any e.1 e.2 W' ((h.keepN (keepN hk hk')).hf e he) (hl.fn e he) _ rfl))
  have HA : Hid (mayF fs = true → ∀ W, Keep NoB w W → Calls Tryz.prog 54 #[v.val] W fun e w' => e = .returned (.bool (decide ((names (imOf [] fs)).Nodup))) ∧ Keep NoB W w') := fun hm W hk =>
    apart_any v es fs W (h.keepN hk) (by unfold mayF at hm; rw [Bool.and_eq_true, decide_eq_true_eq] at hm; omega) (fun e he => (hl.fn e he).sz) _ rfl
  have HR : Hid (chkI (imOf es fs) = if (mayS es && (mayF fs && decide ((names (imOf [] fs)).Nodup))) = true then 0 else 80) := by show _ = _; unfold chkI; rw [okI_parts]
  obtain ⟨q0, q1⟩ := blk2 bx
  clear h hl bx hlx hly
  obtain ⟨X, nx, cx, Y, ny, cy⟩ := v
  dsimp only [IV.val, IV.cells] at *
  generalize hw1 : w.alloc (.cells #[.slice X nx cx, .slice Y ny cy] 25) = w1 at k0 q0 q1
  have HP := Lib.hid (fun (n : KW w1) => keepN k0 n.keep)
  have z0 : ∀ n : KW w1, n.w.cell? ⟨w.heap.size, 0, none⟩ = some (.slice X nx cx) := fun n => n.keep.cell q0 id
  have z1 : ∀ n : KW w1, n.w.cell? ⟨w.heap.size, 1, none⟩ = some (.slice Y ny cy) := fun n => n.keep.cell q1 id
  generalize decide ((names (imOf [] fs)).Nodup) = bA at *
  cases hs : mayS es
  · rw [hs] at HS HR
    obtain rfl : 80 = R := by rw [← hR.out, HR.out]; rfl
    clear hR HR HF HA hs
    go_enter Tryz.func20, Tryz.ntmps20
    go_wp2_with fail
    clear hw1
    refine wp_region_kept w1 (by kernel_rfl) (by kernel_rfl) (Keep.refl NoB w1) ?_
    repeat (go_big_quiet_step (first | (go_at_call 37; exact kept_of (partsS_any _)) | (go_at_call 52; exact kept_of (HS.out _ (HP.out _)))))
    refine wpQuiet_nil ?_
    rintro _ ⟨n9, rfl⟩
    have hk9 := n9.keep
    generalize n9.w = w9 at hk9 ⊢
    have hK9 := keepN k0 hk9
    go_wp2
    go_ret
    exact ⟨rfl, hK9⟩
  · rw [hs] at HS HR
    cases hf : mayF fs
    · rw [hf] at HF HR
      obtain rfl : 80 = R := by rw [← hR.out, HR.out]; rfl
      clear hR HR HA hs hf
      go_enter Tryz.func20, Tryz.ntmps20
      go_wp2_with fail
      clear hw1
      refine wp_region_kept w1 (by kernel_rfl) (by kernel_rfl) (Keep.refl NoB w1) ?_
      repeat (go_big_quiet_step (first | (go_at_call 37; exact kept_of (partsS_any _)) | (go_at_call 52; exact kept_of (HS.out _ (HP.out _))) | (go_at_call 39; exact kept_of (partsF_any _)) | (go_at_call 53; exact kept_of (HF.out _ (HP.out _)))))
      refine wpQuiet_nil ?_
      rintro _ ⟨n9, rfl⟩
      have hk9 := n9.keep
      generalize n9.w = w9 at hk9 ⊢
      have hK9 := keepN k0 hk9
      go_wp2
      go_ret
      exact ⟨rfl, hK9⟩
    · have HA2 := Lib.hid (HA.out hf)
      rw [hf] at HF HR
      cases bA
      · obtain rfl : 80 = R := by rw [← hR.out, HR.out]; rfl
        clear hR HR HA hs hf
        go_enter Tryz.func20, Tryz.ntmps20
        go_wp2_with fail
        clear hw1
        refine wp_region_kept w1 (by kernel_rfl) (by kernel_rfl) (Keep.refl NoB w1) ?_
        repeat (go_big_quiet_step (first | (go_at_call 37; exact kept_of (partsS_any _)) | (go_at_call 52; exact kept_of (HS.out _ (HP.out _))) | (go_at_call 39; exact kept_of (partsF_any _)) | (go_at_call 53; exact kept_of (HF.out _ (HP.out _))) | (go_at_call 54; exact kept_of (HA2.out _ (HP.out _)))))
        refine wpQuiet_nil ?_
        rintro _ ⟨n9, rfl⟩
        have hk9 := n9.keep
        generalize n9.w = w9 at hk9 ⊢
        have hK9 := keepN k0 hk9
        go_wp2
        go_ret
        exact ⟨rfl, hK9⟩
      · obtain rfl : 0 = R := by rw [← hR.out, HR.out]; rfl
        clear hR HR HA hs hf
        go_enter Tryz.func20, Tryz.ntmps20
        go_wp2_with fail
        clear hw1
        refine wp_region_kept w1 (by kernel_rfl) (by kernel_rfl) (Keep.refl NoB w1) ?_
        repeat (go_big_quiet_step (first | (go_at_call 37; exact kept_of (partsS_any _)) | (go_at_call 52; exact kept_of (HS.out _ (HP.out _))) | (go_at_call 39; exact kept_of (partsF_any _)) | (go_at_call 53; exact kept_of (HF.out _ (HP.out _))) | (go_at_call 54; exact kept_of (HA2.out _ (HP.out _)))))
        refine wpQuiet_nil ?_
        rintro _ ⟨n9, rfl⟩
        have hk9 := n9.keep
        generalize n9.w = w9 at hk9 ⊢
        have hK9 := keepN k0 hk9
        go_wp2
        go_ret
        exact ⟨rfl, hK9⟩

end Go.Proofs.YtgifflfjhockaaaGreatDoor.I

namespace Go.Proofs.YtgifflfjhockaaaGreatDoor.I
open Go.RowKit Go.Shelf W
attribute [local go_sem] Oper.semAt_some

/-- Functions and their names. -/
def NmsI (fs : List FE) : Prop := ∀ e ∈ fs, e.1.S.data.toList = e.2.nm
theorem nms_of {w : World} {v : IV} {es : List SE} {fs : List FE} (h : ImAt w v es fs) : NmsI fs := fun e he => (h.hf e he).nm
theorem str_ne {S T : ByteArray} (h : T ≠ S) : (T.toList == S.toList) = false := by
  rw [beq_eq_false_iff_ne]
  intro e
  rw [ByteArray.toList_eq, ByteArray.toList_eq] at e
  exact h (by cases T; cases S; simp at e; rw [e])
end Go.Proofs.YtgifflfjhockaaaGreatDoor.I

namespace Go.Proofs.YtgifflfjhockaaaGreatDoor.F
open Go.RowKit W

theorem retB {a b : Bool} (h : a = b) : Ending.returned (.bool a) = .returned (.bool b) := by rw [h]
theorem same_bits (f g : Fu) : sameF f g = (decide (f.nm = g.nm) && (decide (f.ar = g.ar ∧ f.rs = g.rs) && (decide (f.lc = g.lc) && decide (f.bd = g.bd)))) := by
  unfold sameF
  simp only [Bool.decide_and]
theorem name_eq {S T : ByteArray} {s t : List UInt8} (hS : S.data.toList = s) (hT : T.data.toList = t) : (S.toList == T.toList) = decide (s = t) := by
  subst hS hT
  rw [ByteArray.toList_eq, ByteArray.toList_eq]
  by_cases h : S.data.toList = T.data.toList
  · rw [decide_eq_true h, h]; exact beq_self_eq_true _
  · rw [decide_eq_false h]; exact beq_eq_false_iff_ne.2 h

set_option maxRecDepth 100000 in
set_option maxHeartbeats 8000000 in
theorem rsameF_any (v : FV) (f : Fu) (u : FV) (g : Fu) (w : World) (h : FnAt w v f) (h2 : FnAt w u g) (hs : SmF v) (hs2 : SmF u) :
    Calls Tryz.prog 51 #[v.val, u.val] w fun e w' => e = .returned (.bool (sameF f g)) ∧ Keep NoB w w' := by
  have bx := (Blk.new w 61 v.cells).alloc (.cells u.cells 61)
  have by1 := Blk.new (w.alloc (.cells v.cells 61)) 61 u.cells
  have k0 := ((Keep.refl NoB w).alloc (.cells v.cells 61)).alloc (.cells u.cells 61)
  rw [World.size_alloc] at by1
  have HF := Lib.hid (h.keepN k0)
  have HG := Lib.hid (h2.keepN k0)
  have HX := Lib.hid bx
  have HY := Lib.hid by1
  have HR := Lib.hid (same_bits f g)
  have HN := name_eq h.nm h2.nm
  have HS := Lib.hid (fun w1 hk => S.rsame_any v.A f.ar v.na v.ca v.B f.rs v.nb v.cb u.A g.ar u.na u.ca u.B g.rs u.nb u.cb w1 (HF.out.keepN hk).ra (HF.out.keepN hk).rb (HG.out.keepN hk).ra (HG.out.keepN hk).rb h.la h.lb h2.la h2.lb (by have := hs.na; omega) (by have := hs.nb; omega) (by have := hs2.na; omega) (by have := hs2.nb; omega) _ rfl)
  have HL := Lib.hid (fun w1 hk => ints_any v.L u.L f.lc g.lc v.nl u.nl v.cl u.cl w1 (HF.out.keepN hk).rl (HG.out.keepN hk).rl h.ll h2.ll (by have := hs.nl; omega) (by have := hs2.nl; omega) _ rfl)
  have HD := Lib.hid (fun w1 hk => C.lists_any v.D u.D f.bd g.bd v.nd u.nd v.cd u.cd w1 (HF.out.keepN hk).rd (HG.out.keepN hk).rd h.ld h2.ld (by have := hs.nd; omega) (by have := hs2.nd; omega) _ rfl)
  generalize sameF f g = R at HR ⊢
  generalize decide (f.nm = g.nm) = b0 at HR HN
  generalize decide (f.ar = g.ar ∧ f.rs = g.rs) = b1 at HR HS
  generalize decide (f.lc = g.lc) = b2 at HR HL
  generalize decide (f.bd = g.bd) = b3 at HR HD
  obtain ⟨s0, A, na, ca, B, nb, cb, L, nl, cl, D, nd, cd⟩ := v
  obtain ⟨s1, A1, na1, ca1, B1, nb1, cb1, L1, nl1, cl1, D1, nd1, cd1⟩ := u
  unfold FV.val FV.cells at *
  dsimp only at HN HS HL HD
  clear h h2 hs hs2 bx by1 HF HG
  cases b0 <;> cases b1 <;> cases b2 <;> cases b3
  all_goals
    go_enter Tryz.func51, Tryz.ntmps51
    obtain ⟨c0, c1, c2, c3, c4⟩ := blk5 (v := ⟨s0, A, na, ca, B, nb, cb, L, nl, cl, D, nd, cd⟩) HX.out
    obtain ⟨d0, d1, d2, d3, d4⟩ := blk5 (v := ⟨s1, A1, na1, ca1, B1, nb1, cb1, L1, nl1, cl1, D1, nd1, cd1⟩) HY.out
    dsimp only at c0 c1 c2 c3 c4 d0 d1 d2 d3 d4
    go_wp2_with fail
    refine (HS.out _ (Keep.refl _ _)).mono ?_
    rintro e w1 ⟨rfl, k1⟩
    clear c0 c1 c2 c3 c4 d0 d1 d2 d3 d4
    obtain ⟨c0, c1, c2, c3, c4⟩ := blk5 (v := ⟨s0, A, na, ca, B, nb, cb, L, nl, cl, D, nd, cd⟩) (HX.out.keep k1 id)
    obtain ⟨d0, d1, d2, d3, d4⟩ := blk5 (v := ⟨s1, A1, na1, ca1, B1, nb1, cb1, L1, nl1, cl1, D1, nd1, cd1⟩) (HY.out.keep k1 id)
    dsimp only at c0 c1 c2 c3 c4 d0 d1 d2 d3 d4
    go_wp2_with fail
    refine (HL.out _ k1).mono ?_
    rintro e w2 ⟨rfl, k2⟩
    replace k2 := keepN k1 k2
    clear c0 c1 c2 c3 c4 d0 d1 d2 d3 d4
    obtain ⟨c0, c1, c2, c3, c4⟩ := blk5 (v := ⟨s0, A, na, ca, B, nb, cb, L, nl, cl, D, nd, cd⟩) (HX.out.keep k2 id)
    obtain ⟨d0, d1, d2, d3, d4⟩ := blk5 (v := ⟨s1, A1, na1, ca1, B1, nb1, cb1, L1, nl1, cl1, D1, nd1, cd1⟩) (HY.out.keep k2 id)
    dsimp only at c0 c1 c2 c3 c4 d0 d1 d2 d3 d4
    go_wp2_with fail
    refine (HD.out _ k2).mono ?_
    rintro e w3 ⟨rfl, k3⟩
    replace k3 := keepN k2 k3
    clear c0 c1 c2 c3 c4 d0 d1 d2 d3 d4
    obtain ⟨c0, c1, c2, c3, c4⟩ := blk5 (v := ⟨s0, A, na, ca, B, nb, cb, L, nl, cl, D, nd, cd⟩) (HX.out.keep k3 id)
    obtain ⟨d0, d1, d2, d3, d4⟩ := blk5 (v := ⟨s1, A1, na1, ca1, B1, nb1, cb1, L1, nl1, cl1, D1, nd1, cd1⟩) (HY.out.keep k3 id)
    dsimp only at c0 c1 c2 c3 c4 d0 d1 d2 d3 d4
    go_wp2
    go_ret
    exact ⟨retB HR.out.symm, keepN k0 k3⟩

end Go.Proofs.YtgifflfjhockaaaGreatDoor.F

namespace Go.Proofs.YtgifflfjhockaaaGreatDoor.I
open Go.RowKit W

theorem map_take_step {α β : Type} {f : α → β} {pa pb : List α} {j : Nat} (h : (pa.map f).take j = (pb.map f).take j) (ha : j < pa.length) (hb : j < pb.length) (he : f pa[j] = f pb[j]) : (pa.map f).take (j + 1) = (pb.map f).take (j + 1) := by
  rw [List.take_succ_eq_append_getElem (by simpa using ha), List.take_succ_eq_append_getElem (by simpa using hb), h]; simp [he]
theorem map_ne {α β : Type} {f : α → β} {pa pb : List α} {j : Nat} (ha : j < pa.length) (hb : j < pb.length) (he : f pa[j] ≠ f pb[j]) : pa.map f ≠ pb.map f := by
  intro h
  have : (pa.map f)[j]? = (pb.map f)[j]? := by rw [h]
  rw [List.getElem?_map, List.getElem?_map, List.getElem?_eq_getElem ha, List.getElem?_eq_getElem hb] at this
  exact he (Option.some.inj this)
theorem map_all {α β : Type} {f : α → β} {pa pb : List α} {j : Nat} (h : (pa.map f).take j = (pb.map f).take j) (ha : pa.length = j) (hb : pb.length = j) : pa.map f = pb.map f := by
  rwa [List.take_of_length_le (by simp [ha]), List.take_of_length_le (by simp [hb])] at h

theorem sameI_of (es gs : List SE) (fs hs : List FE) : sameI (imOf es fs) (imOf gs hs) = (decide ((es.map fun e => e.2) = gs.map fun e => e.2) && decide ((fs.map fun e => e.2) = hs.map fun e => e.2)) := by
  unfold sameI imOf; dsimp only; rw [Bool.decide_and]
theorem ImAt.shp {w : World} {v : IV} {es : List SE} {fs : List FE} (h : ImAt w v es fs) {i : Nat} (hi : i < es.length) : Rd w es[i].1.A (ivs es[i].2) ∧ es[i].2.length = es[i].1.n := h.hs _ (List.getElem_mem hi)
theorem ImAt.fun_ {w : World} {v : IV} {es : List SE} {fs : List FE} (h : ImAt w v es fs) {i : Nat} (hi : i < fs.length) : F.FnAt w fs[i].1 fs[i].2 := h.hf _ (List.getElem_mem hi)
theorem sme {es : List SE} {fs : List FE} (h : SmI es fs) {i : Nat} (hi : i < es.length) : es[i].1.n ≤ 100 := h.sh _ (List.getElem_mem hi)
theorem smf {es : List SE} {fs : List FE} (h : SmI es fs) {i : Nat} (hi : i < fs.length) : F.SmF fs[i].1 := h.fn _ (List.getElem_mem hi)

set_option maxRecDepth 100000 in
set_option maxHeartbeats 8000000 in
theorem rsame_any (v u : IV) (es gs : List SE) (fs hs : List FE) (w : World) (h : ImAt w v es fs) (h2 : ImAt w u gs hs) (hs1 : SmI es fs) (hs2 : SmI gs hs) :
    Calls Tryz.prog 17 #[v.val, u.val] w fun e w' => e = .returned (.bool (sameI (imOf es fs) (imOf gs hs))) ∧ Keep NoB w w' := by
  have bx := (Blk.new w 25 v.cells).alloc (.cells u.cells 25)
  have by0 := Blk.new (w.alloc (.cells v.cells 25)) 25 u.cells
  have k0 := ((Keep.refl NoB w).alloc (.cells v.cells 25)).alloc (.cells u.cells 25)
  rw [World.size_alloc] at by0
  have HI := Lib.hid (fun W (hk : Keep NoB ((w.alloc (.cells v.cells 25)).alloc (.cells u.cells 25)) W) => h.keepN (keepN k0 hk))
  have HJ := Lib.hid (fun W (hk : Keep NoB ((w.alloc (.cells v.cells 25)).alloc (.cells u.cells 25)) W) => h2.keepN (keepN k0 hk))
  have hl := h.lx
  have hl2 := h.ly
  have hl3 := h2.lx
  have hl4 := h2.ly
  have n1 := hs1.ns
  have n2 := hs1.nf
  have n3 := hs2.ns
  have n4 := hs2.nf
  have H1 := Lib.hid hs1
  have H2 := Lib.hid hs2
  have HX := Lib.hid bx
  have HY := Lib.hid by0
  obtain ⟨R, hR⟩ : ∃ R, sameI (imOf es fs) (imOf gs hs) = R := ⟨_, rfl⟩
  rw [hR]
  rw [sameI_of] at hR
  have HR := Lib.hid hR
  clear h h2 hs1 hs2 bx by0 hR
  obtain ⟨X, nx, cx, Y, ny, cy⟩ := v
  obtain ⟨X2, nx2, cx2, Y2, ny2, cy2⟩ := u
  dsimp only [IV.val, IV.cells] at *
  generalize hw0 : (w.alloc (.cells #[.slice X nx cx, .slice Y ny cy] 25)).alloc (.cells #[.slice X2 nx2 cx2, .slice Y2 ny2 cy2] 25) = w0 at HI HJ HX HY k0
  have c0 : ∀ W, Keep NoB w0 W → W.cell? ⟨w.heap.size, 0, none⟩ = some (.slice X nx cx) ∧ W.cell? ⟨w.heap.size, 1, none⟩ = some (.slice Y ny cy) := fun W hk => blk2 (v := ⟨X, nx, cx, Y, ny, cy⟩) (HX.out.keep hk id)
  have d0 : ∀ W, Keep NoB w0 W → W.cell? ⟨w.heap.size + 1, 0, none⟩ = some (.slice X2 nx2 cx2) ∧ W.cell? ⟨w.heap.size + 1, 1, none⟩ = some (.slice Y2 ny2 cy2) := fun W hk => blk2 (v := ⟨X2, nx2, cx2, Y2, ny2, cy2⟩) (HY.out.keep hk id)
  have HC := Lib.hid c0
  have HD := Lib.hid d0
  clear c0 d0
  obtain ⟨x0, x1⟩ := HC.out _ (Keep.refl _ _)
  obtain ⟨y0, y1⟩ := HD.out _ (Keep.refl _ _)
  by_cases he1 : nx = nx2
  · subst he1
    by_cases he2 : ny = ny2
    · subst he2
      go_enter Tryz.func17, Tryz.ntmps17
      go_wp2
      go_loopw [5] (fun i wr => ∃ j : Nat, j ≤ nx ∧ i = .int .i64 j ∧ Hid ((es.map fun e => e.2).take j = (gs.map fun e => e.2).take j) ∧ Keep NoB w0 wr) (fun i _ => nx - (intOf i).toNat)
      case atStart => exact ⟨0, Nat.zero_le _, rfl, rfl, Keep.refl _ _⟩
      case round =>
        clear x0 x1 y0 y1
        obtain ⟨j, hj, rfl, ht, hK⟩ := hrel
        obtain ⟨x0, x1⟩ := HC.out _ hK
        obtain ⟨y0, y1⟩ := HD.out _ hK
        by_cases hlt : j < nx
        · have hja : j < es.length := by omega
          have hjb : j < gs.length := by omega
          obtain ⟨ga, oa, rfl, ca⟩ := shape_at (HI.out _ hK).rx hja
          obtain ⟨gb, ob, rfl, cb⟩ := shape_at (HJ.out _ hK).rx hjb
          have HQ := Lib.hid (fun W hk => ints_any es[j].1.A gs[j].1.A es[j].2 gs[j].2 es[j].1.n gs[j].1.n es[j].1.c gs[j].1.c W ((HI.out _ (keepN hK hk)).shp hja).1 ((HJ.out _ (keepN hK hk)).shp hjb).1 ((HI.out _ hK).shp hja).2 ((HJ.out _ hK).shp hjb).2 (by have := sme H1.out hja; omega) (by have := sme H2.out hjb; omega) _ rfl)
          have HV := Lib.hid (fun he => map_take_step ht.out hja hjb he)
          have HN := Lib.hid (fun he => map_ne (f := fun e : SE => e.2) hja hjb he)
          clear ht
          generalize es[j] = ea at ca HQ HV HN
          generalize gs[j] = eb at cb HQ HV HN
          obtain ⟨⟨A1, n1', e1⟩, l1⟩ := ea
          obtain ⟨⟨A2, n2', e2⟩, l2⟩ := eb
          dsimp only [SV.val] at ca cb HQ HV HN
          have z0 : ∀ n : KW wr, n.w.cell? ⟨w.heap.size, 0, none⟩ = some (.slice (some ⟨ga, oa, none⟩) nx cx) := fun n => n.keep.cell x0 id
          have z1 : ∀ n : KW wr, n.w.cell? ⟨w.heap.size + 1, 0, none⟩ = some (.slice (some ⟨gb, ob, none⟩) nx cx2) := fun n => n.keep.cell y0 id
          have z2 : ∀ n : KW wr, n.w.cell? ⟨ga, oa + j, none⟩ = some (.slice A1 n1' e1) := fun n => n.keep.cell ca id
          have z3 : ∀ n : KW wr, n.w.cell? ⟨gb, ob + j, none⟩ = some (.slice A2 n2' e2) := fun n => n.keep.cell cb id
          by_cases he : l1 = l2
          · have HV2 := Lib.hid (HV.out he)
            rw [decide_eq_true he] at HQ
            clear HV HN he
            go_wp2_with fail
            refine wp_region_kept wr (by kernel_rfl) (by kernel_rfl) (Keep.refl NoB wr) ?_
            repeat (go_big_quiet_step ((go_at_call 50; exact kept_of (HQ.out _ (KW.keep _)))))
            refine wpQuiet_nil ?_
            rintro _ ⟨n9, rfl⟩
            have hk9 := n9.keep
            generalize n9.w = w9 at hk9 ⊢
            have hK9 := keepN hK hk9
            go_wp2
            go_roundw
            case rel => exact ⟨j + 1, by omega, by go_num, HV2, hK9⟩
            case measure => simp [intOf]; omega
          · obtain rfl : false = R := by rw [← HR.out, decide_eq_false (HN.out he)]; rfl
            rw [decide_eq_false he] at HQ
            clear HV HN he HR
            go_wp2_with fail
            refine wp_region_kept wr (by kernel_rfl) (by kernel_rfl) (Keep.refl NoB wr) ?_
            repeat (go_big_quiet_step ((go_at_call 50; exact kept_of (HQ.out _ (KW.keep _)))))
            refine wpQuiet_nil ?_
            rintro _ ⟨n9, rfl⟩
            have hk9 := n9.keep
            generalize n9.w = w9 at hk9 ⊢
            have hK9 := keepN hK hk9
            go_wp2
            go_ret
            exact ⟨rfl, keepN k0 hK9⟩
        · obtain rfl : j = nx := by omega
          have hall := map_all ht.out (by omega) (by omega)
          rw [decide_eq_true hall, Bool.true_and] at HR
          clear hall ht
          obtain ⟨wo, rfl⟩ : ∃ wo, wo = wr := ⟨_, rfl⟩
          go_wp2
          go_loopw [7] (fun i wr => ∃ j : Nat, j ≤ ny ∧ i = .int .i64 j ∧ Hid ((fs.map fun e => e.2).take j = (hs.map fun e => e.2).take j) ∧ Keep NoB w0 wr) (fun i _ => ny - (intOf i).toNat)
          case atStart => exact ⟨0, Nat.zero_le _, rfl, rfl, hK⟩
          case round =>
            clear x0 x1 y0 y1 hK
            obtain ⟨i, hi, rfl, ht, hK⟩ := hrel
            obtain ⟨x0, x1⟩ := HC.out _ hK
            obtain ⟨y0, y1⟩ := HD.out _ hK
            by_cases hlt : i < ny
            · have hia : i < fs.length := by omega
              have hib : i < hs.length := by omega
              obtain ⟨ga, oa, rfl, a0, a1, a2, a3, a4⟩ := fun_at (HI.out _ hK).ry hia
              obtain ⟨gb, ob, rfl, b0, b1, b2, b3, b4⟩ := fun_at (HJ.out _ hK).ry hib
              have e : F.sameF fs[i].2 hs[i].2 = decide (fs[i].2 = hs[i].2) := by rw [Bool.eq_iff_iff, F.sameF_iff, decide_eq_true_iff]
              have HQ := Lib.hid (fun W hk => F.rsameF_any fs[i].1 fs[i].2 hs[i].1 hs[i].2 W ((HI.out _ (keepN hK hk)).fun_ hia) ((HJ.out _ (keepN hK hk)).fun_ hib) (smf H1.out hia) (smf H2.out hib))
              rw [e] at HQ
              have HV := Lib.hid (fun he => map_take_step ht.out hia hib he)
              have HN := Lib.hid (fun he => map_ne (f := fun e : FE => e.2) hia hib he)
              clear ht e
              generalize fs[i] = ea at a0 a1 a2 a3 a4 HQ HV HN
              generalize hs[i] = eb at b0 b1 b2 b3 b4 HQ HV HN
              obtain ⟨⟨S1, A1, na1, ca1, B1, nb1, cb1, L1, nl1, cl1, D1, nd1, cd1⟩, l1⟩ := ea
              obtain ⟨⟨S2, A2, na2, ca2, B2, nb2, cb2, L2, nl2, cl2, D2, nd2, cd2⟩, l2⟩ := eb
              dsimp only [F.FV.val, F.FV.cells] at a0 a1 a2 a3 a4 b0 b1 b2 b3 b4 HQ HV HN
              have z0 : ∀ n : KW wr, n.w.cell? ⟨w.heap.size, 1, none⟩ = some (.slice (some ⟨ga, oa, none⟩) ny cy) := fun n => n.keep.cell x1 id
              have z1 : ∀ n : KW wr, n.w.cell? ⟨w.heap.size + 1, 1, none⟩ = some (.slice (some ⟨gb, ob, none⟩) ny cy2) := fun n => n.keep.cell y1 id
              have za0 : ∀ n : KW wr, n.w.cell? ⟨ga, oa + i * 5, none⟩ = some (.string S1) := fun n => n.keep.cell a0 id
              have za1 : ∀ n : KW wr, n.w.cell? ⟨ga, oa + i * 5 + 1, none⟩ = some (.slice A1 na1 ca1) := fun n => n.keep.cell a1 id
              have za2 : ∀ n : KW wr, n.w.cell? ⟨ga, oa + i * 5 + 2, none⟩ = some (.slice B1 nb1 cb1) := fun n => n.keep.cell a2 id
              have za3 : ∀ n : KW wr, n.w.cell? ⟨ga, oa + i * 5 + 3, none⟩ = some (.slice L1 nl1 cl1) := fun n => n.keep.cell a3 id
              have za4 : ∀ n : KW wr, n.w.cell? ⟨ga, oa + i * 5 + 4, none⟩ = some (.slice D1 nd1 cd1) := fun n => n.keep.cell a4 id
              have zb0 : ∀ n : KW wr, n.w.cell? ⟨gb, ob + i * 5, none⟩ = some (.string S2) := fun n => n.keep.cell b0 id
              have zb1 : ∀ n : KW wr, n.w.cell? ⟨gb, ob + i * 5 + 1, none⟩ = some (.slice A2 na2 ca2) := fun n => n.keep.cell b1 id
              have zb2 : ∀ n : KW wr, n.w.cell? ⟨gb, ob + i * 5 + 2, none⟩ = some (.slice B2 nb2 cb2) := fun n => n.keep.cell b2 id
              have zb3 : ∀ n : KW wr, n.w.cell? ⟨gb, ob + i * 5 + 3, none⟩ = some (.slice L2 nl2 cl2) := fun n => n.keep.cell b3 id
              have zb4 : ∀ n : KW wr, n.w.cell? ⟨gb, ob + i * 5 + 4, none⟩ = some (.slice D2 nd2 cd2) := fun n => n.keep.cell b4 id
              by_cases he : l1 = l2
              · have HV2 := Lib.hid (HV.out he)
                rw [decide_eq_true he] at HQ
                clear HV HN he
                go_wp2_with fail
                refine wp_region_kept wr (by kernel_rfl) (by kernel_rfl) (Keep.refl NoB wr) ?_
                repeat (go_big_quiet_step ((go_at_call 51; exact kept_of (HQ.out _ (KW.keep _)))))
                refine wpQuiet_nil ?_
                rintro _ ⟨n9, rfl⟩
                have hk9 := n9.keep
                generalize n9.w = w9 at hk9 ⊢
                have hK9 := keepN hK hk9
                go_wp2
                go_roundw
                case rel => exact ⟨i + 1, by omega, by go_num, HV2, hK9⟩
                case measure => simp [intOf]; omega
              · obtain rfl : false = R := by rw [← HR.out, decide_eq_false (HN.out he)]
                rw [decide_eq_false he] at HQ
                clear HV HN he HR
                go_wp2_with fail
                refine wp_region_kept wr (by kernel_rfl) (by kernel_rfl) (Keep.refl NoB wr) ?_
                repeat (go_big_quiet_step ((go_at_call 51; exact kept_of (HQ.out _ (KW.keep _)))))
                refine wpQuiet_nil ?_
                rintro _ ⟨n9, rfl⟩
                have hk9 := n9.keep
                generalize n9.w = w9 at hk9 ⊢
                have hK9 := keepN hK hk9
                go_wp2
                go_ret
                exact ⟨rfl, keepN k0 hK9⟩
            · obtain rfl : i = ny := by omega
              obtain rfl : true = R := by rw [← HR.out, decide_eq_true (map_all ht.out (by omega) (by omega))]
              clear HR ht
              go_wp2
              go_ret
              exact ⟨rfl, keepN k0 hK⟩
    · obtain rfl : false = R := by
        rw [← HR.out]; symm; rw [Bool.and_eq_false_iff]; right
        rw [decide_eq_false_iff_not]
        intro e
        have := congrArg List.length e
        rw [List.length_map, List.length_map] at this
        omega
      have hne : ((ny : Int) != (ny2 : Int)) = true := by rw [bne_iff_ne]; omega
      clear he2 HR
      go_enter Tryz.func17, Tryz.ntmps17
      go_wp2
      go_ret
      exact ⟨rfl, k0⟩
  · obtain rfl : false = R := by
      rw [← HR.out]; symm; rw [Bool.and_eq_false_iff]; left
      rw [decide_eq_false_iff_not]
      intro e
      have := congrArg List.length e
      rw [List.length_map, List.length_map] at this
      omega
    have hne : ((nx : Int) != (nx2 : Int)) = true := by rw [bne_iff_ne]; omega
    clear he1 HR
    go_enter Tryz.func17, Tryz.ntmps17
    go_wp2
    go_ret
    exact ⟨rfl, k0⟩

end Go.Proofs.YtgifflfjhockaaaGreatDoor.I

namespace Go.Proofs.YtgifflfjhockaaaGreatDoor.F
open Go.RowKit W

set_option maxRecDepth 100000 in
set_option maxHeartbeats 4000000 in
theorem rnamed_any (S : ByteArray) (s : List UInt8) (w : World) (hs : Hid (S.data.toList = s)) (hm : S.size ≤ 9223372036854775807) (R : Int) (hR : Hid (chkN s = R)) :
    Calls Tryz.prog 99 #[.string S] w fun e w' => e = .returned (.int .i64 R) ∧ w = w' := by
  have HZ : Hid (S.size = s.length) := sz_len hs.out
  have HL := Lib.hid (fun (c : UInt8) (w : World) => rletter_any c w)
  by_cases h0 : S.size = 0
  · obtain rfl : 71 = R := by rw [← hR.out]; exact (chkN_no (by rw [List.length_eq_zero_iff.1 (HZ.out.symm.trans h0)]; rfl)).symm
    clear hR
    have hq0 : (S.size : Int) < 1 := by omega
    go_enter Tryz.func99, Tryz.ntmps99
    go_wp2
    go_ret
    exact ⟨rfl, rfl⟩
  have hq0 : ¬ (S.size : Int) < 1 := by omega
  by_cases h1 : 32 < S.size
  · obtain rfl : 71 = R := by rw [← hR.out]; exact (chkN_no (okN_long (by rw [← HZ.out]; omega))).symm
    clear hR
    go_enter Tryz.func99, Tryz.ntmps99
    go_wp2
    go_ret
    exact ⟨rfl, rfl⟩
  have hp : 0 < S.size := by omega
  have HH : Hid (headB s = letB (S[0]'hp)) := by show _ = _; rw [str_at hs.out hp (by rw [← HZ.out]; omega)]; exact headB_at _
  go_enter Tryz.func99, Tryz.ntmps99
  go_wp2
  go_loop [3] (fun i => ∃ k : Nat, k ≤ S.size ∧ i = .int .i64 k ∧ Hid ((s.take k).all inB = true ∧ (0 < k → headB s = true))) (fun i => S.size - (intOf i).toNat)
  case atStart => exact ⟨0, Nat.zero_le _, rfl, rfl, fun h => absurd h (by omega)⟩
  case round =>
    obtain ⟨k, hk, rfl, ht⟩ := hrel
    by_cases hlt : k < S.size
    · have hks : k < s.length := by rw [← HZ.out]; exact hlt
      have HE := Lib.hid (str_at hs.out hlt hks)
      have HA := Lib.hid (fun w => HL.out (S[k]'hlt) w)
      have HI : Hid (inB s[k] = (letB (S[k]'hlt) || digB (S[k]'hlt))) := by show _ = _; rw [HE.out]; rfl
      have HT := Lib.hid (fun h => in_step hks ht.out.1 h)
      have HN := Lib.hid (fun h => in_no hks h)
      have HDG := Lib.hid (digB_iff (S[k]'hlt))
      have HK : Hid (k = 0 → headB s = letB (S[k]'hlt)) := fun e => by subst e; exact HH.out
      have HK2 := Lib.hid ht.out.2
      clear HH ht HE
      cases hl : letB (S[k]'hlt)
      · rw [hl] at HA HI HK
        by_cases hk0 : k = 0
        · obtain rfl : 71 = R := by rw [← hR.out]; exact (chkN_no (okN_head (HK.out hk0))).symm
          have hqk : ((k : Int) == 0) = true := by rw [beq_iff_eq]; omega
          clear hR HT HN HI HK HK2 hl HDG hk0
          by_cases g1 : ((S[k]'hlt).toNat : Int) < 48
          · go_wp2_with (go_at_call 149; refine (HA.out _).mono ?_; rintro e w2 ⟨rfl, rfl⟩)
            go_ret
            exact ⟨rfl, rfl⟩
          · by_cases g2 : ((S[k]'hlt).toNat : Int) ≤ 57
            · have g1 : (48 : Int) ≤ ((S[k]'hlt).toNat : Int) := by omega
              go_wp2_with (go_at_call 149; refine (HA.out _).mono ?_; rintro e w2 ⟨rfl, rfl⟩)
              go_ret
              exact ⟨rfl, rfl⟩
            · have g1 : (48 : Int) ≤ ((S[k]'hlt).toNat : Int) := by omega
              go_wp2_with (go_at_call 149; refine (HA.out _).mono ?_; rintro e w2 ⟨rfl, rfl⟩)
              go_ret
              exact ⟨rfl, rfl⟩
        · have hqk : ((k : Int) == 0) = false := by rw [beq_eq_false_iff_ne]; omega
          cases hd : digB (S[k]'hlt)
          · rw [hd] at HI HDG
            obtain rfl : 71 = R := by rw [← hR.out]; exact (chkN_no (okN_in (HN.out HI.out))).symm
            have hdg : ¬ (48 ≤ (S[k]'hlt).toNat ∧ (S[k]'hlt).toNat ≤ 57) := fun h => by have := HDG.out.2 h; cases this
            clear hR HT HN HI HK HK2 hl hd HDG
            by_cases g1 : ((S[k]'hlt).toNat : Int) < 48
            · clear hdg
              go_wp2_with (go_at_call 149; refine (HA.out _).mono ?_; rintro e w2 ⟨rfl, rfl⟩)
              go_ret
              exact ⟨rfl, rfl⟩
            · have g2 : ¬ ((S[k]'hlt).toNat : Int) ≤ 57 := by omega
              have g3 : (!decide (((S[k]'hlt).toNat : Int) ≤ 57)) = true := by rw [decide_eq_false g2]; rfl
              have g4 : (48 : Int) ≤ ((S[k]'hlt).toNat : Int) := by omega
              clear hdg
              go_wp2_with (go_at_call 149; refine (HA.out _).mono ?_; rintro e w2 ⟨rfl, rfl⟩)
              go_ret
              exact ⟨rfl, rfl⟩
          · rw [hd] at HI HDG
            have HV := Lib.hid (HT.out HI.out)
            obtain ⟨g1', g2'⟩ := HDG.out.1 rfl
            have g1 : ¬ ((S[k]'hlt).toNat : Int) < 48 := by omega
            have g2 : ((S[k]'hlt).toNat : Int) ≤ 57 := by omega
            clear g1' g2'
            have HK3 := Lib.hid (HK2.out (by omega))
            clear HT HN HI HK HK2 hl hd HDG
            go_wp2_with (go_at_call 149; refine (HA.out _).mono ?_; rintro e w2 ⟨rfl, rfl⟩)
            go_round
            case rel => exact ⟨k + 1, by omega, by go_num, HV.out, fun _ => HK3.out⟩
            case measure => simp [intOf]; omega
      · rw [hl] at HA HI HK
        have HV := Lib.hid (HT.out (by rw [HI.out]; rfl))
        have HK3 : Hid (headB s = true) := by
          rcases Nat.eq_zero_or_pos k with h | h
          · exact HK.out h
          · exact HK2.out h
        clear HT HN HI HK HK2 hl HDG
        by_cases g1 : ((S[k]'hlt).toNat : Int) < 48
        · go_wp2_with (go_at_call 149; refine (HA.out _).mono ?_; rintro e w2 ⟨rfl, rfl⟩)
          go_round
          case rel => exact ⟨k + 1, by omega, by go_num, HV.out, fun _ => HK3.out⟩
          case measure => simp [intOf]; omega
        · by_cases g2 : ((S[k]'hlt).toNat : Int) ≤ 57
          · go_wp2_with (go_at_call 149; refine (HA.out _).mono ?_; rintro e w2 ⟨rfl, rfl⟩)
            go_round
            case rel => exact ⟨k + 1, by omega, by go_num, HV.out, fun _ => HK3.out⟩
            case measure => simp [intOf]; omega
          · go_wp2_with (go_at_call 149; refine (HA.out _).mono ?_; rintro e w2 ⟨rfl, rfl⟩)
            go_round
            case rel => exact ⟨k + 1, by omega, by go_num, HV.out, fun _ => HK3.out⟩
            case measure => simp [intOf]; omega
    · obtain rfl : 0 = R := by
        rw [← hR.out]
        have e1 := ht.out.1
        rw [List.take_of_length_le (by rw [← HZ.out]; omega)] at e1
        exact (chkN_ok ((okN_iff s).2 ⟨by rw [← HZ.out]; omega, ht.out.2 (by omega), e1⟩)).symm
      clear hR ht HH
      go_wp2
      go_ret
      exact ⟨rfl, rfl⟩

end Go.Proofs.YtgifflfjhockaaaGreatDoor.F

namespace Go.Proofs.YtgifflfjhockaaaGreatDoor.F
open Go.RowKit W

/-- Behind an append: the row, and what stays, above a block. -/
theorem above_after {w W W' : World} {E size n b : Nat} {v v' : Value} {xs : List Value} (ho : ∀ g, v.ownBlock = some g → b < g) (hb : w.heap.size ≤ b) (hK : Keep NoB w W) (hbW : b < W.heap.size) (hg : W.grownBy W' v.ownBlock)
    (hv : v'.ownBlock = v.ownBlock ∨ v'.ownBlock = some W.heap.size) (hrow : W'.ownsRow 0 E size v' n xs) : Own W' E size (fun k => b < k) v' n xs ∧ Keep NoB w W' ∧ Keep (fun k => b < k) W W' := by
  refine ⟨⟨hrow, fun g e => ?_⟩, hK.grown hg (fun g e h => by have := ho g e; omega), (Keep.refl _ W).grown hg (fun g e _ => ho g e)⟩
  rcases hv with h | h
  · exact ho g (h ▸ e)
  · rw [h] at e; cases e; exact hbW

theorem rd_ltN {W : World} {A : Option Addr} {xs : List Value} (h : Rd W A xs) {ad : Addr} (e : A = some ad) (h0 : 0 < xs.length) : ad.block < W.heap.size := by
  obtain ⟨g, off, e2, hc⟩ := h h0
  rw [e] at e2
  injection e2 with e2
  subst e2
  exact World.block_lt_of_cell? W _ (hc 0 _ (List.getElem?_eq_getElem h0))
theorem rd_above {W W' : World} {O : Nat → Prop} {A : Option Addr} {xs : List Value} (h : Rd W A xs) (hA : ∀ ad, A = some ad → 0 < xs.length → ¬ O ad.block) (hk : Keep O W W') : Rd W' A xs := fun h0 => by
  obtain ⟨g, off, e, hc⟩ := h h0
  exact ⟨g, off, e, fun j u hu => hk.cell (hc j u hu) (show ¬ O g from hA _ e h0)⟩

set_option maxRecDepth 100000 in
set_option maxHeartbeats 8000000 in
theorem rtypes_any (v : FV) (f : Fu) (w : World) (h : FnAt w v f) (hs : SmF v) :
    Calls Tryz.prog 102 #[v.val] w fun e w' => ∃ u, e = .returned u ∧ Own w' 3 1 (Fresh w) u (sl f).length (ivs (sl f)) ∧ Keep NoB w w' := by
  obtain ⟨i0, hi, hz0, hz1, hz2⟩ := info_parts int_info
  have bx := Blk.new w 61 v.cells
  have k0 := (Keep.refl NoB w).alloc (.cells v.cells 61)
  have HF := Lib.hid (h.keepN k0)
  have HF0 := Lib.hid h
  have hl : (sl f).length = v.na + v.nb + v.nl := by rw [sl_length, h.la, h.lb, h.ll]
  have hsl : ivs (sl f) = (ivs f.ar ++ ivs f.rs) ++ ivs f.lc := by unfold sl; simp
  rw [hl, hsl]
  have HA1 := Lib.hid (show (ivs f.ar).length = v.na * 1 by simp [h.la])
  have HB1 := Lib.hid (show (ivs f.rs).length = v.nb * 1 by simp [h.lb])
  have HL1 := Lib.hid (show (ivs f.lc).length = v.nl * 1 by simp [h.ll])
  have HA2 := Lib.hid (ivs_one f.ar)
  have HB2 := Lib.hid (ivs_one f.rs)
  have HL2 := Lib.hid (ivs_one f.lc)
  obtain ⟨q1, q2, q3, q4, q5⟩ := hs
  obtain ⟨s0, A, na, ca, B, nb, cb, L, nl, cl, D, nd, cd⟩ := v
  unfold FV.val FV.cells at *
  dsimp only at HA1 HB1 HL1 q1 q2 q3 q4 q5
  clear h hl hsl
  obtain ⟨c0, c1, c2, c3, c4⟩ := blk5 (v := ⟨s0, A, na, ca, B, nb, cb, L, nl, cl, D, nd, cd⟩) bx
  dsimp only at c0 c1 c2 c3 c4
  generalize hxa : ivs f.ar = xa at HA1 HA2
  generalize hxb : ivs f.rs = xb at HB1 HB2
  generalize hxl : ivs f.lc = xl at HL1 HL2
  have HRA : Hid (Rd (w.alloc (.cells #[.string s0, .slice A na ca, .slice B nb cb, .slice L nl cl, .slice D nd cd] 61)) A xa) := hxa ▸ HF.out.ra
  have HRB : Hid (Rd (w.alloc (.cells #[.string s0, .slice A na ca, .slice B nb cb, .slice L nl cl, .slice D nd cd] 61)) B xb) := hxb ▸ HF.out.rb
  have HRL : Hid (Rd (w.alloc (.cells #[.string s0, .slice A na ca, .slice B nb cb, .slice L nl cl, .slice D nd cd] 61)) L xl) := hxl ▸ HF.out.rl
  have hsz : w.heap.size < (w.alloc (.cells #[.string s0, .slice A na ca, .slice B nb cb, .slice L nl cl, .slice D nd cd] 61)).heap.size := by simp
  have hRLb : ∀ ad, L = some ad → 0 < xl.length → ¬ (w.heap.size < ad.block) := fun ad e h0 => by
    have h1 := rd_ltN HF0.out.rl e (by rw [hxl]; exact h0)
    omega
  clear hxa hxb hxl HF HF0
  go_enter Tryz.func102, Tryz.ntmps102
  generalize hw1 : w.alloc (.cells #[.string s0, .slice A na ca, .slice B nb cb, .slice L nl cl, .slice D nd cd] 61) = w1 at bx k0 HRA HRB HRL c0 c1 c2 c3 c4 hsz
  go_wp2_with (first
    | (at_builtin; refine wpList_append_rd _ rfl (.tmp 4) (.tmp 7) _ rfl 3 1 8 i0 _ Tryz.underlying55 hi hz0 hz1 hz2 rfl (by decide) (.slice none 0 0) 0 [] A na ca xa rfl (World.ownsRow_nil _ _ _ _) rfl HRA.out HA1.out HA2.out (by unfold maxLen; omega) (by omega) ?_; intro A5 c5 w5 hrow5 hg5 hv5; rw [Nat.zero_add] at hrow5 hv5 ⊢; rw [List.nil_append] at hrow5; clear hw1; obtain ⟨hO5, hK5, hk5⟩ := above_after (w := w) (b := w.heap.size) (fun g e => by cases e) (Nat.le_refl _) k0 hsz hg5 hv5 hrow5; have bx5 := bx.keep hk5 (Nat.lt_irrefl _); have HRB5 := Lib.hid (HRB.out.keepN ((Keep.refl NoB w1).grown hg5 (fun g e _ => by cases e))); have HRL5 := Lib.hid (HRL.out.keepN ((Keep.refl NoB w1).grown hg5 (fun g e _ => by cases e))); have hz5 := hg5.size; clear hrow5 hg5 hv5 hk5 k0 c0 c1 c2 c3 c4 bx; obtain ⟨c0, c1, c2, c3, c4⟩ := blk5 (v := ⟨s0, A, na, ca, B, nb, cb, L, nl, cl, D, nd, cd⟩) bx5; dsimp only at c0 c1 c2 c3 c4)
    | (at_builtin; refine wpList_append_rd _ rfl (.tmp 9) (.tmp 12) _ rfl 3 1 8 i0 _ Tryz.underlying55 hi hz0 hz1 hz2 rfl (by decide) (.slice A5 na c5) (na) (xa) B nb cb xb rfl hO5.1 rfl HRB5.out HB1.out HB2.out (by unfold maxLen; omega) (by omega) ?_; intro A6 c6 w6 hrow6 hg6 hv6; obtain ⟨hO6, hK6, hk6⟩ := above_after (w := w) (b := w.heap.size) hO5.2 (Nat.le_refl _) hK5 (Nat.lt_of_lt_of_le hsz hz5) hg6 hv6 hrow6; have bx6 := bx5.keep hk6 (Nat.lt_irrefl _); have hz6 := Nat.le_trans hz5 hg6.size; have HRL6 := Lib.hid (rd_above HRL5.out hRLb hk6); clear hrow6 hg6 hv6 c0 c1 c2 c3 c4 bx5; obtain ⟨c0, c1, c2, c3, c4⟩ := blk5 (v := ⟨s0, A, na, ca, B, nb, cb, L, nl, cl, D, nd, cd⟩) bx6; dsimp only at c0 c1 c2 c3 c4)
    | (at_builtin; refine wpList_append_rd _ rfl (.tmp 14) (.tmp 16) _ rfl 3 1 8 i0 _ Tryz.underlying55 hi hz0 hz1 hz2 rfl (by decide) (.slice A6 (na + nb) c6) (na + nb) (xa ++ xb) L nl cl xl rfl hO6.1 rfl HRL6.out HL1.out HL2.out (by unfold maxLen; omega) (by omega) ?_; intro A7 c7 w7 hrow7 hg7 hv7; obtain ⟨hO7, hK7, hk7⟩ := above_after (w := w) (b := w.heap.size) hO6.2 (Nat.le_refl _) hK6 (Nat.lt_of_lt_of_le hsz hz6) hg7 hv7 hrow7; have bx7 := bx6.keep hk7 (Nat.lt_irrefl _); have hz7 := Nat.le_trans hz6 hg7.size; clear hrow7 hg7 hv7 c0 c1 c2 c3 c4 bx6; obtain ⟨c0, c1, c2, c3, c4⟩ := blk5 (v := ⟨s0, A, na, ca, B, nb, cb, L, nl, cl, D, nd, cd⟩) bx7; dsimp only at c0 c1 c2 c3 c4))
  go_ret
  rw [List.append_assoc] at hO7
  exact ⟨_, rfl, hO7.mono (fun k hk _ => Nat.le_of_lt hk), hK7⟩


set_option maxRecDepth 100000 in
set_option maxHeartbeats 8000000 in
theorem rcheck_any (v : FV) (f : Fu) (w : World) (h : FnAt w v f) (hs : SmF v) (R : Int) (hR : Hid (chkF f = R)) :
    Calls Tryz.prog 56 #[v.val] w fun e w' => e = .returned (.int .i64 R) ∧ Keep NoB w w' := by
  have bx := Blk.new w 61 v.cells
  have k0 := (Keep.refl NoB w).alloc (.cells v.cells 61)
  have HF := Lib.hid (h.keepN k0)
  have HX := Lib.hid bx
  have HN := Lib.hid (fun w (R : Int) hR => rnamed_any v.S f.nm w h.nm (by have := hs.sz; omega) R hR)
  have HG := Lib.hid (fun w1 (hk : Keep NoB (w.alloc (.cells v.cells 61)) w1) (R : Int) hR => S.rchkG_any v.A f.ar v.na v.ca v.B f.rs v.nb v.cb w1 (HF.out.keepN hk).ra (HF.out.keepN hk).rb h.la h.lb (by have := hs.na; omega) (by have := hs.nb; omega) R hR)
  have HB := Lib.hid (fun w1 (hk : Keep NoB (w.alloc (.cells v.cells 61)) w1) (R : Int) hR => C.rcchk_any v.D f.bd v.nd v.cd w1 (HF.out.keepN hk).rd h.ld h.hI (by have := hs.nd; omega) R hR)
  have HT := Lib.hid (fun w1 (hk : Keep NoB (w.alloc (.cells v.cells 61)) w1) => rtypes_any v f w1 (HF.out.keepN hk) hs)
  have hlen : (sl f).length = v.na + v.nb + v.nl := by rw [sl_length, h.la, h.lb, h.ll]
  rw [hlen] at HT
  have HLL := Lib.hid h.ll
  have HLN : Hid (f.ar.length + f.rs.length + f.lc.length = v.na + v.nb + v.nl) := by show _ = _; rw [h.la, h.lb, h.ll]
  have HRL := Lib.hid (fun w1 (hk : Keep NoB (w.alloc (.cells v.cells 61)) w1) => (HF.out.keepN hk).rl)
  obtain ⟨q1, q2, q3, q4, q5⟩ := hs
  obtain ⟨s0, A, na, ca, B, nb, cb, L, nl, cl, D, nd, cd⟩ := v
  unfold FV.val FV.cells at *
  dsimp only at HN HG HB HT HLL HLN q2 q3 q4 HRL
  clear bx h HF hlen
  cases h1 : okN f.nm
  · have HN2 := Lib.hid (fun w => HN.out w 71 (chkN_no h1))
    obtain rfl : 70 = R := by rw [← hR.out]; exact (chkF_no (okF_not (by rw [h1]; simp))).symm
    clear HN hR h1
    go_enter Tryz.func56, Tryz.ntmps56
    obtain ⟨c0, c1, c2, c3, c4⟩ := blk5 (v := ⟨s0, A, na, ca, B, nb, cb, L, nl, cl, D, nd, cd⟩) HX.out
    dsimp only at c0 c1 c2 c3 c4
    go_wp2_with fail
    refine (HN2.out _).mono ?_
    rintro e w1 ⟨rfl, rfl⟩
    go_wp2
    go_ret
    exact ⟨rfl, k0⟩
  have HN2 := Lib.hid (fun w => HN.out w 0 (chkN_ok h1))
  cases h2 : S.okG f.ar f.rs
  · have HG2 := Lib.hid (fun w hk => HG.out w hk 61 (S.chkG_no h2))
    obtain rfl : 70 = R := by rw [← hR.out]; exact (chkF_no (okF_not (by rw [h2]; simp))).symm
    clear HN HG hR h1 h2
    go_enter Tryz.func56, Tryz.ntmps56
    obtain ⟨c0, c1, c2, c3, c4⟩ := blk5 (v := ⟨s0, A, na, ca, B, nb, cb, L, nl, cl, D, nd, cd⟩) HX.out
    dsimp only at c0 c1 c2 c3 c4
    go_wp2_with fail
    refine (HN2.out _).mono ?_
    rintro e w1 ⟨rfl, rfl⟩
    clear c0 c1 c2 c3 c4
    obtain ⟨c0, c1, c2, c3, c4⟩ := blk5 (v := ⟨s0, A, na, ca, B, nb, cb, L, nl, cl, D, nd, cd⟩) HX.out
    dsimp only at c0 c1 c2 c3 c4
    go_wp2_with fail
    refine (HG2.out _ (Keep.refl _ _)).mono ?_
    rintro e w2 ⟨rfl, k1⟩
    go_wp2
    go_ret
    exact ⟨rfl, keepN k0 k1⟩
  have HG2 := Lib.hid (fun w hk => HG.out w hk 0 (S.chkG_ok h2))
  cases h4 : C.okB f.bd
  · have HB2 := Lib.hid (fun w hk => HB.out w hk 50 (C.chkB_no h4))
    obtain rfl : 70 = R := by rw [← hR.out]; exact (chkF_no (okF_not (by rw [h4]; simp))).symm
    clear HN HG HB hR h1 h2 h4
    go_enter Tryz.func56, Tryz.ntmps56
    obtain ⟨c0, c1, c2, c3, c4⟩ := blk5 (v := ⟨s0, A, na, ca, B, nb, cb, L, nl, cl, D, nd, cd⟩) HX.out
    dsimp only at c0 c1 c2 c3 c4
    go_wp2_with fail
    refine (HN2.out _).mono ?_
    rintro e w1 ⟨rfl, rfl⟩
    clear c0 c1 c2 c3 c4
    obtain ⟨c0, c1, c2, c3, c4⟩ := blk5 (v := ⟨s0, A, na, ca, B, nb, cb, L, nl, cl, D, nd, cd⟩) HX.out
    dsimp only at c0 c1 c2 c3 c4
    go_wp2_with fail
    refine (HG2.out _ (Keep.refl _ _)).mono ?_
    rintro e w2 ⟨rfl, k1⟩
    clear c0 c1 c2 c3 c4
    obtain ⟨c0, c1, c2, c3, c4⟩ := blk5 (v := ⟨s0, A, na, ca, B, nb, cb, L, nl, cl, D, nd, cd⟩) (HX.out.keep k1 id)
    dsimp only at c0 c1 c2 c3 c4
    go_wp2_with fail
    refine (HB2.out _ k1).mono ?_
    rintro e w3 ⟨rfl, k2⟩
    replace k1 := keepN k1 k2
    clear k2
    go_wp2
    go_ret
    exact ⟨rfl, keepN k0 k1⟩
  have HB2 := Lib.hid (fun w hk => HB.out w hk 0 (C.chkB_ok h4))
  by_cases h5 : 64 < na + nb + nl
  · obtain rfl : 70 = R := by rw [← hR.out]; exact (chkF_no (okF_not (by rw [HLN.out]; omega))).symm
    clear HN HG HB hR h1 h2 h4
    go_enter Tryz.func56, Tryz.ntmps56
    obtain ⟨c0, c1, c2, c3, c4⟩ := blk5 (v := ⟨s0, A, na, ca, B, nb, cb, L, nl, cl, D, nd, cd⟩) HX.out
    dsimp only at c0 c1 c2 c3 c4
    go_wp2_with fail
    refine (HN2.out _).mono ?_
    rintro e w1 ⟨rfl, rfl⟩
    clear c0 c1 c2 c3 c4
    obtain ⟨c0, c1, c2, c3, c4⟩ := blk5 (v := ⟨s0, A, na, ca, B, nb, cb, L, nl, cl, D, nd, cd⟩) HX.out
    dsimp only at c0 c1 c2 c3 c4
    go_wp2_with fail
    refine (HG2.out _ (Keep.refl _ _)).mono ?_
    rintro e w2 ⟨rfl, k1⟩
    clear c0 c1 c2 c3 c4
    obtain ⟨c0, c1, c2, c3, c4⟩ := blk5 (v := ⟨s0, A, na, ca, B, nb, cb, L, nl, cl, D, nd, cd⟩) (HX.out.keep k1 id)
    dsimp only at c0 c1 c2 c3 c4
    go_wp2_with fail
    refine (HB2.out _ k1).mono ?_
    rintro e w3 ⟨rfl, k2⟩
    replace k1 := keepN k1 k2
    clear k2
    clear c0 c1 c2 c3 c4
    obtain ⟨c0, c1, c2, c3, c4⟩ := blk5 (v := ⟨s0, A, na, ca, B, nb, cb, L, nl, cl, D, nd, cd⟩) (HX.out.keep k1 id)
    dsimp only at c0 c1 c2 c3 c4
    go_wp2_with fail
    refine (HT.out _ k1).mono ?_
    rintro e w4 ⟨u, rfl, hO, k2⟩
    obtain ⟨A4, c4', rfl, _, _, _, _⟩ := hO.form
    replace k1 := keepN k1 k2
    clear k2 hO
    go_wp2
    go_ret
    exact ⟨rfl, keepN k0 k1⟩
  have HO : Hid (f.lc.all knownB = true → chkF f = 0) := fun h3 => chkF_ok ((okF_iff f).2 ⟨h1, h2, h3, h4, by rw [HLN.out]; omega⟩)
  have HO2 : Hid (f.lc.all knownB = false → chkF f = 70) := fun h3 => chkF_no (okF_not (by rw [h3]; simp))
  clear HN HG HB h1 h2 h4
  go_enter Tryz.func56, Tryz.ntmps56
  obtain ⟨c0, c1, c2, c3, c4⟩ := blk5 (v := ⟨s0, A, na, ca, B, nb, cb, L, nl, cl, D, nd, cd⟩) HX.out
  dsimp only at c0 c1 c2 c3 c4
  go_wp2_with fail
  refine (HN2.out _).mono ?_
  rintro e w1 ⟨rfl, rfl⟩
  clear c0 c1 c2 c3 c4
  obtain ⟨c0, c1, c2, c3, c4⟩ := blk5 (v := ⟨s0, A, na, ca, B, nb, cb, L, nl, cl, D, nd, cd⟩) HX.out
  dsimp only at c0 c1 c2 c3 c4
  go_wp2_with fail
  refine (HG2.out _ (Keep.refl _ _)).mono ?_
  rintro e w2 ⟨rfl, k1⟩
  clear c0 c1 c2 c3 c4
  obtain ⟨c0, c1, c2, c3, c4⟩ := blk5 (v := ⟨s0, A, na, ca, B, nb, cb, L, nl, cl, D, nd, cd⟩) (HX.out.keep k1 id)
  dsimp only at c0 c1 c2 c3 c4
  go_wp2_with fail
  refine (HB2.out _ k1).mono ?_
  rintro e w3 ⟨rfl, k2⟩
  replace k1 := keepN k1 k2
  clear k2
  clear c0 c1 c2 c3 c4
  obtain ⟨c0, c1, c2, c3, c4⟩ := blk5 (v := ⟨s0, A, na, ca, B, nb, cb, L, nl, cl, D, nd, cd⟩) (HX.out.keep k1 id)
  dsimp only at c0 c1 c2 c3 c4
  go_wp2_with fail
  refine (HT.out _ k1).mono ?_
  rintro e w4 ⟨u, rfl, hO, k2⟩
  obtain ⟨A4, c4', rfl, _, _, _, _⟩ := hO.form
  replace k1 := keepN k1 k2
  clear k2 hO
  clear c0 c1 c2 c3 c4
  have HK1 := Lib.hid k1
  have HK0 := Lib.hid k0
  clear k1 k0 HN2 HG2 HB2 HT
  go_wp2
  go_loopw [3] (fun i wr => ∃ k : Nat, k ≤ nl ∧ i = .int .i64 (k : Int) ∧ Hid ((f.lc.take k).all knownB = true) ∧ Keep NoB (w.alloc (.cells #[.string s0, .slice A na ca, .slice B nb cb, .slice L nl cl, .slice D nd cd] 61)) wr) (fun i _ => nl - (intOf i).toNat)
  case atStart => exact ⟨0, Nat.zero_le _, rfl, rfl, HK1.out⟩
  case round =>
    obtain ⟨k, hk, rfl, ht, hK⟩ := hrel
    obtain ⟨c0, c1, c2, c3, c4⟩ := blk5 (v := ⟨s0, A, na, ca, B, nb, cb, L, nl, cl, D, nd, cd⟩) (HX.out.keep hK id)
    dsimp only at c0 c1 c2 c3 c4
    by_cases hlt : k < nl
    · have hkl : k < f.lc.length := by rw [HLL.out]; exact hlt
      obtain ⟨g, off, rfl, hc⟩ := rdI_at (HRL.out _ hK) (by omega)
      have ck := hc k hkl
      have HY := Lib.hid (fun h => S.all_step (p := knownB) hkl ht.out h)
      have HNO := Lib.hid (fun h => S.all_no (p := knownB) hkl h)
      have HKn := Lib.hid (fun w => rknown_any f.lc[k] w)
      clear hc ht
      generalize f.lc[k] = t at ck HY HNO HKn
      obtain ⟨b, hb⟩ : ∃ b, knownB t = b := ⟨_, rfl⟩
      rw [hb] at HY HNO HKn
      clear hb
      cases b
      · obtain rfl : 70 = R := by rw [← hR.out]; exact (HO2.out (HNO.out rfl)).symm
        clear hR HO HO2 HY HNO
        go_wp2_with (go_at_call 103; refine (HKn.out _).mono ?_; rintro e w9 ⟨rfl, rfl⟩)
        go_ret
        exact ⟨rfl, keepN HK0.out hK⟩
      · have HV := Lib.hid (HY.out rfl)
        clear hR HO HO2 HY HNO
        go_wp2_with (go_at_call 103; refine (HKn.out _).mono ?_; rintro e w9 ⟨rfl, rfl⟩)
        go_roundw
        case rel => exact ⟨k + 1, by omega, by go_num, HV, hK⟩
        case measure => simp [intOf]; omega
    · obtain rfl : 0 = R := by
        rw [← hR.out]
        have e1 := ht.out
        rw [List.take_of_length_le (by rw [HLL.out]; omega)] at e1
        exact (HO.out e1).symm
      clear hR HO HO2
      go_wp2
      go_ret
      exact ⟨rfl, keepN HK0.out hK⟩

end Go.Proofs.YtgifflfjhockaaaGreatDoor.F
