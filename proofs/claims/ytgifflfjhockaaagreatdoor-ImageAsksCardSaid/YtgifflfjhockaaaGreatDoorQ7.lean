/-
  The document's Context of images, and whether two contexts are the same. Conditions: the lists lie in memory, and are no greater than statements go through.
  What the law's spoil does: numbers of the lists of a function are written over, and nothing else. Conditions: the lists are rows of numbers that may be written, from block lo on.
  ImageAsks' walk: which function has a name, what bodies may refer to, whether two images are the same, and a copy, are the document's; what is answered is new memory. Conditions: the images' lists lie in memory.
-/
import Derived.Test.YtgifflfjhockaaaGreatDoorQ5
import Derived.Test.YtgifflfjhockaaaGreatDoorQ3
import Derived.Test.YtgifflfjhockaaaGreatDoorQ2
import Derived.Test.YtgifflfjhockaaaGreatDoorQ6
namespace Go.Proofs.YtgifflfjhockaaaGreatDoor.I
open Go.RowKit W

theorem gvs_at : ∀ (gs : List GE) (i : Nat) (h : i < gs.length), (gvs gs)[i * 2]? = some gs[i].1.1.val ∧ (gvs gs)[i * 2 + 1]? = some gs[i].2.1.val
  | e :: l, 0, _ => ⟨rfl, rfl⟩
  | e :: l, i + 1, h => by
    have := gvs_at l i (by simpa using h)
    unfold gvs at this ⊢
    rw [List.flatMap_cons, show (i + 1) * 2 = i * 2 + 2 by omega]
    exact this
/-- Signature i in memory. -/
theorem sig_at {w : World} {X : Option Addr} {gs : List GE} (h : Rd w X (gvs gs)) {i : Nat} (hi : i < gs.length) : ∃ g off, X = some ⟨g, off, none⟩ ∧ w.cell? ⟨g, off + i * 2, none⟩ = some (.slice gs[i].1.1.A gs[i].1.1.n gs[i].1.1.c) ∧ w.cell? ⟨g, off + i * 2 + 1, none⟩ = some (.slice gs[i].2.1.A gs[i].2.1.n gs[i].2.1.c) := by
  obtain ⟨g, off, e, hc⟩ := h (by rw [gvs_length]; omega)
  obtain ⟨h1, h2⟩ := gvs_at gs i hi
  exact ⟨g, off, e, hc _ _ h1, hc _ _ h2⟩
theorem ret_ctx {fn : Func} {p : Tmp} {tmps : Array Value} {w : World} {g : Nat} {x y : Value} (h : fn.results = #[.cell p 52]) (hp : tmps.getD p undef = .pointer (some ⟨g, 0, none⟩)) (hb : Blk w g 52 #[x, y]) :
    (results fn tmps).run Tryz.prog w = .ok (.agg #[x, y]) w :=
  results_cell_row h tmps w g 52 #[x, y] (0, 0) _ hp hb Tryz.underlying52 rfl ctx_size
theorem put2_ctx {W : World} {g : Nat} {x y : Value} (h : Blk W g 52 #[x, y]) (u v : Value) : Blk ((W.setCell ⟨g, 0, none⟩ u).setCell ⟨g, 1, none⟩ v) g 52 #[u, v] := by
  have := (h.put 0 u).put 1 v
  simpa using this
/-- What the values are that a round yields. -/
def SCg (b m : Nat) (u0 : Value) (Y : Option Addr) (ny cy j g off : Nat) (A : Option Addr) (na ca : Nat) (B : Option Addr) (nb cb : Nat) (a r : List Int) : Nat → Value → World → Prop
  | 0 => fun u _ => u = .pointer (some ⟨b + 1 + 1, 0, none⟩)
  | 1 => fun u _ => u = u0
  | 2 => fun u _ => u = .pointer (some ⟨b, 1, none⟩)
  | 3 => fun u _ => u = .slice Y ny cy
  | 4 => fun u _ => u = .int .i64 (j : Int)
  | 5 => fun u _ => u = .pointer (some ⟨g, off + j * 5, none⟩)
  | 6 => fun u _ => u = .pointer (some ⟨g, off + j * 5 + 1, none⟩)
  | 7 => fun u _ => u = .agg #[.slice A na ca, .slice B nb cb]
  | 8 => fun u W => ∃ A1 c1 A2 c2, u = .agg #[.slice A1 na c1, .slice A2 nb c2] ∧ Own W 3 1 (fun k => m ≤ k) (.slice A1 na c1) na (ivs a) ∧ Own W 3 1 (fun k => m ≤ k) (.slice A2 nb c2) nb (ivs r)
  | 9 => fun u W => ∃ h A1 c1 A2 c2, u = .slice (some ⟨h, 0, none⟩) 1 1 ∧ Blk W h 57 #[.slice A1 na c1, .slice A2 nb c2] ∧ Own W 3 1 (fun k => m ≤ k) (.slice A1 na c1) na (ivs a) ∧ Own W 3 1 (fun k => m ≤ k) (.slice A2 nb c2) nb (ivs r)
  | _ => fun _ _ => True
theorem SCg_stable (b m : Nat) (u0 : Value) (Y : Option Addr) (ny cy j g off : Nat) (A : Option Addr) (na ca : Nat) (B : Option Addr) (nb cb : Nat) (a r : List Int) : ∀ i u W W', SCg b m u0 Y ny cy j g off A na ca B nb cb a r i u W → Keep NoB W W' → SCg b m u0 Y ny cy j g off A na ca B nb cb a r i u W'
  | 0, _, _, _, h, _ | 1, _, _, _, h, _ | 2, _, _, _, h, _ | 3, _, _, _, h, _ | 4, _, _, _, h, _ | 5, _, _, _, h, _ | 6, _, _, _, h, _ | 7, _, _, _, h, _ => h
  | 8, _, _, _, ⟨A1, c1, A2, c2, e, h, h2⟩, hk => ⟨A1, c1, A2, c2, e, h.keepN hk, h2.keepN hk⟩
  | 9, _, _, _, ⟨g, A1, c1, A2, c2, e, hb, h, h2⟩, hk => ⟨g, A1, c1, A2, c2, e, hb.keep hk id, h.keepN hk, h2.keepN hk⟩
  | _ + 10, _, _, _, h, _ => h
/-- What a round leaves. -/
structure CxD (wb W : World) (b j : Nat) (A : Option Addr) (c m nx : Nat) (fs : List FE) (gs : List GE) : Prop where
  hb : Blk W (b + 1 + 1) 52 #[.slice A j c, .int .i64 (nx : Int)]
  hr : Own W 57 2 (fun k => m ≤ k) (.slice A j c) j (gvs gs)
  hg : ∀ e ∈ gs, OwnGE W (fun k => m ≤ k) e
  he : gs.map gsg = (fs.take j).map fun e => (e.2.ar, e.2.rs)
  hk : Keep (fun k => k = b + 1 + 1) wb W

set_option maxRecDepth 100000 in
set_option maxHeartbeats 4000000 in
theorem rcontext_any (v : IV) (es : List SE) (fs : List FE) (w : World) (h : ImAt w v es fs) (hs : SmI es fs) :
    Calls Tryz.prog 27 #[v.val] w fun e w' => ∃ X cx gs, e = .returned (.agg #[.slice X v.ny cx, .int .i64 (v.nx : Int)]) ∧ Own w' 57 2 (Fresh w) (.slice X v.ny cx) v.ny (gvs gs) ∧ (∀ e ∈ gs, OwnGE w' (Fresh w) e) ∧ gs.map gsg = (fs.map fun e => (e.2.ar, e.2.rs)) ∧ Keep NoB w w' := by
  obtain ⟨i0, hi, hz0, hz1, hz2⟩ := info_parts F.sig_infoC
  have bx := ((Blk.new w 25 v.cells).alloc (.cells #[.slice none 0 0, .int .i64 0] 52)).alloc (.cells #[.slice none 0 0, .int .i64 (v.nx : Int)] 52)
  have bz := (Blk.new (w.alloc (.cells v.cells 25)) 52 #[.slice none 0 0, .int .i64 0]).alloc (.cells #[.slice none 0 0, .int .i64 (v.nx : Int)] 52)
  have bc := Blk.new ((w.alloc (.cells v.cells 25)).alloc (.cells #[.slice none 0 0, .int .i64 0] 52)) 52 #[.slice none 0 0, .int .i64 (v.nx : Int)]
  have gK := (((Keep.refl NoB w).alloc (.cells v.cells 25)).alloc (.cells #[.slice none 0 0, .int .i64 0] 52)).alloc (.cells #[.slice none 0 0, .int .i64 (v.nx : Int)] 52)
  have hmz : (((w.alloc (.cells v.cells 25)).alloc (.cells #[.slice none 0 0, .int .i64 0] 52)).alloc (.cells #[.slice none 0 0, .int .i64 (v.nx : Int)] 52)).heap.size = w.heap.size + 1 + 1 + 1 := by simp
  simp only [World.size_alloc] at bz bc
  have HIW := Lib.hid h
  have hly := h.ly
  have HSM := Lib.hid hs
  have hny := hs.nf
  rw [hly] at hny
  have py0 := blk2 (((Blk.new w 25 v.cells)).alloc (.cells #[.slice none 0 0, .int .i64 0] 52))
  clear h hs
  obtain ⟨X, nx, cx, Y, ny, cy⟩ := v
  dsimp only [IV.val, IV.cells] at *
  obtain ⟨y0, y1⟩ := py0
  obtain ⟨p0, p1⟩ := blk2 (v := ⟨X, nx, cx, Y, ny, cy⟩) bx
  dsimp only at p0 p1
  have HIK := Lib.hid (fun W (hk : Keep (fun j => j = w.heap.size + 1 + 1) _ W) => HIW.out.keep ((gK.mono (fun _ hf _ => hf.elim)).trans hk (fun _ h _ => h)) (fun k hl e => by omega))
  have HBZ := Lib.hid bz
  have HC0 : Hid (CxD _ (((w.alloc (.cells #[.slice X nx cx, .slice Y ny cy] 25)).alloc (.cells #[.slice none 0 0, .int .i64 0] 52)).alloc (.cells #[.slice none 0 0, .int .i64 (nx : Int)] 52)) w.heap.size 0 none 0 (w.heap.size + 1 + 1 + 1) nx fs []) := ⟨bc, Own.nil _ _ _ _, (fun _ h => nomatch h), by simp, Keep.refl _ _⟩
  have HGK := Lib.hid gK
  clear bx bz bc gK
  go_enter Tryz.func27, Tryz.ntmps27
  go_wp2_with fail
  clear y0 y1
  generalize (((w.alloc (.cells #[.slice X nx cx, .slice Y ny cy] 25)).alloc (.cells #[.slice none 0 0, .int .i64 0] 52)).alloc (.cells #[.slice none 0 0, .int .i64 (nx : Int)] 52)) = wb at *
  go_loopw [4] (fun i wr => ∃ j : Nat, j ≤ ny ∧ i = .int .i64 j ∧ ∃ A c gs, Hid (CxD wb wr w.heap.size j A c (w.heap.size + 1 + 1 + 1) nx fs gs)) (fun i _ => ny - (intOf i).toNat)
  case atStart => exact ⟨0, Nat.zero_le _, rfl, _, _, _, HC0.out⟩
  case round =>
    obtain ⟨j, hjn, rfl, A, c, gs, HC⟩ := hrel
    clear HC0
    have s1 := HC.out.hk.cell p1 (by show ¬ (w.heap.size = w.heap.size + 1 + 1); omega)
    by_cases hlt : j < ny
    · have hje : j < fs.length := by omega
      obtain ⟨g, off, rfl, d0, d1, d2, d3, d4⟩ := fun_at (HIK.out wr HC.out.hk).ry hje
      have hfn := (HIK.out wr HC.out.hk).hf _ (List.getElem_mem hje)
      have hsm := HSM.out.fn _ (List.getElem_mem hje)
      have HT : Hid ((fs.take (j + 1)).map (fun e => (e.2.ar, e.2.rs)) = (fs.take j).map (fun e => (e.2.ar, e.2.rs)) ++ [(fs[j].2.ar, fs[j].2.rs)]) := by
        show _ = _
        rw [List.take_succ_eq_append_getElem hje, List.map_append]; rfl
      have hwz := HC.out.hk.size
      have c0 : wr.cell? ⟨w.heap.size + 1 + 1, 0, none⟩ = some (.slice A j c) := HC.out.hb.cell 0
      have HCP := Lib.hid (fun W (hk : Keep NoB wr W) => F.rcopyG_any fs[j].1.A fs[j].2.ar fs[j].1.na fs[j].1.ca fs[j].1.B fs[j].2.rs fs[j].1.nb fs[j].1.cb W (hfn.ra.keepN hk) (hfn.rb.keepN hk) hfn.la hfn.lb hsm.na hsm.nb)
      clear hfn hsm
      generalize fs[j] = e at *
      obtain ⟨⟨S1, A1, na1, ca1, B1, nb1, cb1, L1, nl1, cl1, D1, nd1, cd1⟩, f⟩ := e
      dsimp only [F.FV.val, F.FV.cells] at *
      go_wp2_with fail
      refine wp_region_tail (fun i => [16, 17, 18, 19, 20, 21, 22, 23, 24, 25].getD i 0) 10 (by kernel_rfl) (by kernel_rfl) (by kernel_rfl) (by kernel_rfl) (by kernel_rfl) (SCg w.heap.size (w.heap.size + 1 + 1 + 1) (.slice A j c) (some ⟨g, off, none⟩) ny cy j g off A1 na1 ca1 B1 nb1 cb1 f.ar f.rs) (fun i u x y h hk => SCg_stable _ _ _ _ _ _ _ _ _ _ _ _ _ _ _ _ _ i u x y h hk) rfl ?step ?fin
      case step =>
        intro i o a w' hoo hi hF hK hA
        by_cases h0 : i = 0
        · subst h0
          simp only [List.getElem?_toArray, List.getElem?_cons_zero, Option.some.injEq] at hoo
          subst hoo
          have e3 : a.tmps.getD 3 undef = .pointer (some ⟨w.heap.size + 1 + 1, 0, none⟩) := hF.2.2 3 (by decide)
          refine Does.plain rfl ?_
          unfold yieldsK
          go_simp
          exact ⟨rfl, Keep.refl _ _⟩
        by_cases h1 : i = 1
        · subst h1
          simp only [List.getElem?_toArray, List.getElem?_cons_zero, List.getElem?_cons_succ, Option.some.injEq] at hoo
          subst hoo
          have e16 : a.tmps.getD 16 undef = .pointer (some ⟨w.heap.size + 1 + 1, 0, none⟩) := hA ⟨0, .data⟩ (by simp) rfl
          have q0 := Keep.cell hK c0 id
          refine Does.plain rfl ?_
          unfold yieldsK
          go_simp
          exact ⟨rfl, Keep.refl _ _⟩
        by_cases h2 : i = 2
        · subst h2
          simp only [List.getElem?_toArray, List.getElem?_cons_zero, List.getElem?_cons_succ, Option.some.injEq] at hoo
          subst hoo
          have e1 : a.tmps.getD 1 undef = .pointer (some ⟨w.heap.size, 0, none⟩) := hF.2.2 1 (by decide)
          refine Does.plain rfl ?_
          unfold yieldsK
          go_simp
          exact ⟨rfl, Keep.refl _ _⟩
        by_cases h3 : i = 3
        · subst h3
          simp only [List.getElem?_toArray, List.getElem?_cons_zero, List.getElem?_cons_succ, Option.some.injEq] at hoo
          subst hoo
          have e18 : a.tmps.getD 18 undef = .pointer (some ⟨w.heap.size, 1, none⟩) := hA ⟨2, .data⟩ (by simp) rfl
          have q0 := Keep.cell hK s1 id
          refine Does.plain rfl ?_
          unfold yieldsK
          go_simp
          exact ⟨rfl, Keep.refl _ _⟩
        by_cases h4 : i = 4
        · subst h4
          simp only [List.getElem?_toArray, List.getElem?_cons_zero, List.getElem?_cons_succ, Option.some.injEq] at hoo
          subst hoo
          have e4 : a.tmps.getD 4 undef = .int .i64 (j : Int) := hF.2.2 4 (by decide)
          refine Does.plain rfl ?_
          unfold yieldsK
          go_simp
          exact ⟨rfl, Keep.refl _ _⟩
        by_cases h5 : i = 5
        · subst h5
          simp only [List.getElem?_toArray, List.getElem?_cons_zero, List.getElem?_cons_succ, Option.some.injEq] at hoo
          subst hoo
          have e19 : a.tmps.getD 19 undef = .slice (some ⟨g, off, none⟩) ny cy := hA ⟨3, .data⟩ (by simp) rfl
          have e20 : a.tmps.getD 20 undef = .int .i64 (j : Int) := hA ⟨4, .data⟩ (by simp) rfl
          have hkn : (j : Int) < (ny : Int) := by omega
          refine Does.plain rfl ?_
          unfold yieldsK
          go_simp
          exact ⟨rfl, Keep.refl _ _⟩
        by_cases h6 : i = 6
        · subst h6
          simp only [List.getElem?_toArray, List.getElem?_cons_zero, List.getElem?_cons_succ, Option.some.injEq] at hoo
          subst hoo
          have e21 : a.tmps.getD 21 undef = .pointer (some ⟨g, off + j * 5, none⟩) := hA ⟨5, .data⟩ (by simp) rfl
          refine Does.plain rfl ?_
          unfold yieldsK
          go_simp
          exact ⟨rfl, Keep.refl _ _⟩
        by_cases h7 : i = 7
        · subst h7
          simp only [List.getElem?_toArray, List.getElem?_cons_zero, List.getElem?_cons_succ, Option.some.injEq] at hoo
          subst hoo
          have e22 : a.tmps.getD 22 undef = .pointer (some ⟨g, off + j * 5 + 1, none⟩) := hA ⟨6, .data⟩ (by simp) rfl
          have q0 := Keep.cell hK d1 id
          have q1 := Keep.cell hK d2 id
          refine Does.plain rfl ?_
          unfold yieldsK
          go_simp
          exact ⟨rfl, Keep.refl _ _⟩
        by_cases h8 : i = 8
        · subst h8
          simp only [List.getElem?_toArray, List.getElem?_cons_zero, List.getElem?_cons_succ, Option.some.injEq] at hoo
          subst hoo
          have e23 : a.tmps.getD 23 undef = .agg #[.slice A1 na1 ca1, .slice B1 nb1 cb1] := hA ⟨7, .data⟩ (by simp) rfl
          refine Does.plain rfl ?_
          unfold yieldsK
          go_simp
          refine (HCP.out w' hK).mono ?_
          rintro e w9 ⟨v1, v2, rfl, h1, h2, h3⟩
          obtain ⟨A5, c5, rfl, _⟩ := h1.form
          obtain ⟨A6, c6, rfl, _⟩ := h2.form
          have hks := hK.size
          exact ⟨_, rfl, ⟨A5, c5, A6, c6, rfl, h1.mono (fun k (hk : Fresh w' k) _ => by unfold Fresh at hk; omega), h2.mono (fun k (hk : Fresh w' k) _ => by unfold Fresh at hk; omega)⟩, h3⟩
        by_cases h9 : i = 9
        · subst h9
          simp only [List.getElem?_toArray, List.getElem?_cons_zero, List.getElem?_cons_succ, Option.some.injEq] at hoo
          subst hoo
          obtain ⟨A5, c5, A6, c6, e24, h5, h6⟩ := hA ⟨8, .data⟩ (by simp) rfl
          have e24 : a.tmps.getD 24 undef = .agg #[.slice A5 na1 c5, .slice A6 nb1 c6] := e24
          refine Does.plain rfl ?_
          unfold yieldsK
          simp only [Array.getD_eq_getD_getElem?] at e24
          go_simp
          exact ⟨⟨w'.heap.size, A5, c5, A6, c6, rfl, Blk.new _ _ _, h5.keepN ((Keep.refl _ _).alloc _), h6.keepN ((Keep.refl _ _).alloc _)⟩, (Keep.refl _ _).alloc _⟩
        omega
      case fin =>
        intro a w' hF gK hA
        have e17 : a.tmps.getD 17 undef = .slice A j c := hA 1 (by decide)
        obtain ⟨h25, A5, c5, A6, c6, e25, hb25, h5, h6⟩ := hA 9 (by decide)
        have e25 : a.tmps.getD 25 undef = .slice (some ⟨h25, 0, none⟩) 1 1 := e25
        have ha := frameD_list (l := [16, 17, 18, 19, 20, 21, 22, 23, 24, 25]) rfl hF
        rw [ha]
        simp only [List.map_cons, List.map_nil, e17, e25]
        generalize a.tmps.getD 16 undef = u0
        generalize a.tmps.getD 18 undef = u2
        generalize a.tmps.getD 19 undef = u3
        generalize a.tmps.getD 20 undef = u4
        generalize a.tmps.getD 21 undef = u5
        generalize a.tmps.getD 22 undef = u6
        generalize a.tmps.getD 23 undef = u7
        generalize a.tmps.getD 24 undef = u8
        simp only [fillD, List.setIfInBounds_toArray, List.set_cons_zero, List.set_cons_succ]
        have hbW := HC.out.hb.keep gK id
        have hrW := HC.out.hr.keepN gK
        have hwz2 := gK.size
        have hPn : w.heap.size + 1 + 1 + 1 ≤ w'.heap.size := by omega
        have HFIN : Hid (∀ v' W5, W5.ownsRow 0 57 2 v' (j + 1) (gvs gs ++ [.slice A5 na1 c5, .slice A6 nb1 c6]) → w'.grownBy W5 (Value.slice A j c).ownBlock → (v'.ownBlock = (Value.slice A j c).ownBlock ∨ v'.ownBlock = some w'.heap.size) →
            Blk W5 (w.heap.size + 1 + 1) 52 #[.slice A j c, .int .i64 (nx : Int)] ∧ ∀ A9 c9, v' = .slice A9 (j + 1) c9 → CxD wb (W5.setCell ⟨w.heap.size + 1 + 1, 0, none⟩ v') w.heap.size (j + 1) A9 c9 (w.heap.size + 1 + 1 + 1) nx fs (gs ++ [((⟨A5, na1, c5⟩, f.ar), (⟨A6, nb1, c6⟩, f.rs))])) := fun v' W5 hown hg hv => by
          obtain ⟨h1, h2, h3, h4⟩ := row_append (i := 0) hbW hrW (fun k (hk : w.heap.size + 1 + 1 + 1 ≤ k) => by omega) hg hown hv hPn
          have hty := row_ty (F := 3) hbW hrW (by decide) (by decide)
          refine ⟨h1, fun A9 c9 e => ?_⟩
          subst e
          refine ⟨by simpa using h3, by rw [gvs_snoc]; exact h2, fun e he => ?_, by rw [List.map_append, HC.out.he, HT.out]; rfl, (HC.out.hk.trans (gK.mono (fun _ hf _ => hf.elim)) (fun _ h _ => h)).trans h4 (fun i hi hl => by
            rcases (row_at hbW hrW i hi).1 with h | h
            · exact h
            · exfalso
              have : w.heap.size + 1 + 1 + 1 ≤ i := h
              omega)⟩
          rcases List.mem_append.1 he with he | he
          · exact ((HC.out.hg e he).keepN gK).other h4 hty
          · rw [List.mem_singleton.1 he]; exact ⟨own_other h5 h4 hty, own_other h6 h4 hty⟩
        have HBW := Lib.hid hrW
        clear hA hF ha e17 e25 HC h5 h6 HCP hbW hrW HT s1 c0 d0 d1 d2 d3 d4
        simp only [List.drop_succ_cons, List.drop_zero]
        have hrb := rd_blkN hb25
        generalize gvs gs = xs at *
        go_wp2_with (at_builtin; refine wpList_append_rd _ rfl (.tmp 17) (.tmp 25) _ rfl 57 2 48 i0 _ Tryz.underlying50 hi hz0 hz1 hz2 rfl (by decide) (.slice A j c) j xs (some ⟨h25, 0, none⟩) 1 1 [.slice A5 na1 c5, .slice A6 nb1 c6] rfl HBW.out.1 rfl hrb rfl (by simp [Value.oneCell']) (by unfold maxLen; omega) (by omega) ?_; intro B9 d9 W5 hrow5 hg5 hv5; obtain ⟨hb5, hfin⟩ := HFIN.out _ _ hrow5 hg5 hv5; have t0 := hb5.cell 0; have f0 := fun i => hb5.frozen i; have l0 := hb5.lt; simp only [List.getElem?_toArray, List.getElem?_cons_zero] at t0)
        go_roundw
        case rel => exact ⟨j + 1, by omega, by go_num, B9, d9, _, hfin _ _ rfl⟩
        case measure => simp [intOf]; omega
    · obtain rfl : j = ny := by omega
      have bz2 := HBZ.out.keep HC.out.hk (by show ¬ (w.heap.size + 1 = w.heap.size + 1 + 1); omega)
      have r0 : wr.cell? ⟨w.heap.size + 1 + 1, 0, none⟩ = some (.slice A j c) := HC.out.hb.cell 0
      have r1 : wr.cell? ⟨w.heap.size + 1 + 1, 1, none⟩ = some (.int .i64 (nx : Int)) := HC.out.hb.cell 1
      have f3 := fun i => bz2.frozen i
      have q0 := bz2.cell 0
      have q1 := bz2.cell 1
      simp only [List.getElem?_toArray, List.getElem?_cons_zero, List.getElem?_cons_succ] at q0 q1
      have hlt2 := bz2.lt
      have HP := Lib.hid (put2_ctx bz2 (.slice A j c) (.int .i64 (nx : Int)))
      have kq := keep2_img wr (w.heap.size + 1) (.slice A j c) (.int .i64 (nx : Int))
      have HK : Hid (Keep NoB w ((wr.setCell ⟨w.heap.size + 1, 0, none⟩ (.slice A j c)).setCell ⟨w.heap.size + 1, 1, none⟩ (.int .i64 (nx : Int)))) := (HGK.out.trans HC.out.hk (fun k e hl => by omega)).trans kq (fun k e hl => by omega)
      have HO := Lib.hid ((HC.out.hr.keep kq (fun i hi e => by omega)).mono (O' := Fresh w) (fun i hi _ => by unfold Fresh; omega))
      have HGO : Hid (∀ e ∈ gs, OwnGE ((wr.setCell ⟨w.heap.size + 1, 0, none⟩ (.slice A j c)).setCell ⟨w.heap.size + 1, 1, none⟩ (.int .i64 (nx : Int))) (Fresh w) e) := fun e he => ⟨((HC.out.hg e he).a.keep kq (fun i hi e => by omega)).mono (fun i hi _ => by unfold Fresh; omega), ((HC.out.hg e he).b.keep kq (fun i hi e => by omega)).mono (fun i hi _ => by unfold Fresh; omega)⟩
      have HM : Hid (gs.map gsg = fs.map fun e => (e.2.ar, e.2.rs)) := by
        show _ = _
        rw [HC.out.he, List.take_of_length_le (by omega)]
      clear HC bz2 kq
      go_wp2
      refine bodyPost_ret (ret_ctx rfl rfl HP.out) rfl ?_
      exact ⟨A, c, gs, rfl, HO.out, HGO.out, HM.out, HK.out⟩

/-- What the values are that a round of Contexts yields. -/
def SCm (b : Nat) (X X2 : Option Addr) (n c c2 j g off g2 off2 : Nat) (a1 b1 a2 b2 : SV) : Nat → Value → World → Prop
  | 0 => fun u _ => u = .pointer (some ⟨b, 0, none⟩)
  | 1 => fun u _ => u = .slice X n c
  | 2 => fun u _ => u = .int .i64 (j : Int)
  | 3 => fun u _ => u = .pointer (some ⟨g, off + j * 2, none⟩)
  | 4 => fun u _ => u = .agg #[.slice a1.A a1.n a1.c, .slice b1.A b1.n b1.c]
  | 5 => fun u _ => u = .pointer (some ⟨b + 1, 0, none⟩)
  | 6 => fun u _ => u = .slice X2 n c2
  | 7 => fun u _ => u = .int .i64 (j : Int)
  | 8 => fun u _ => u = .pointer (some ⟨g2, off2 + j * 2, none⟩)
  | 9 => fun u _ => u = .agg #[.slice a2.A a2.n a2.c, .slice b2.A b2.n b2.c]
  | 10 => fun u _ => u = .bool true
  | 11 => fun u _ => u = .bool true
  | _ => fun _ _ => True
theorem SCm_stable (b : Nat) (X X2 : Option Addr) (n c c2 j g off g2 off2 : Nat) (a1 b1 a2 b2 : SV) (i : Nat) (u : Value) (w w' : World) (h : SCm b X X2 n c c2 j g off g2 off2 a1 b1 a2 b2 i u w) : SCm b X X2 n c c2 j g off g2 off2 a1 b1 a2 b2 i u w' := by
  unfold SCm at h ⊢
  split at h <;> exact h
/-- A signature lies in memory. -/
structure GAt (W : World) (e : GE) : Prop where
  a : Rd W e.1.1.A (ivs e.1.2)
  b : Rd W e.2.1.A (ivs e.2.2)
  la : e.1.2.length = e.1.1.n
  lb : e.2.2.length = e.2.1.n
theorem GAt.keepN {W W' : World} {e : GE} (h : GAt W e) (hk : Keep NoB W W') : GAt W' e := ⟨h.a.keepN hk, h.b.keepN hk, h.la, h.lb⟩
theorem OwnGE.gat {W : World} {P : Nat → Prop} {e : GE} (h : OwnGE W P e) : GAt W e := ⟨F.own_rdS h.a, F.own_rdS h.b, F.own_len h.a, F.own_len h.b⟩

set_option maxRecDepth 100000 in
set_option maxHeartbeats 4000000 in
theorem rcontexts_any (X X2 : Option Addr) (gs gs2 : List GE) (n c c2 nx : Nat) (w : World) (hr : Rd w X (gvs gs)) (hr2 : Rd w X2 (gvs gs2)) (hg : ∀ e ∈ gs, GAt w e) (hg2 : ∀ e ∈ gs2, GAt w e) (hn : gs.length = n) (he : gs.map gsg = gs2.map gsg) (hm : n ≤ 1000) (hs : ∀ e ∈ gs, e.1.2.length ≤ 1000 ∧ e.2.2.length ≤ 1000) :
    Calls Tryz.prog 26 #[.agg #[.slice X n c, .int .i64 (nx : Int)], .agg #[.slice X2 n c2, .int .i64 (nx : Int)]] w fun e w' => e = .returned (.bool true) ∧ Keep NoB w w' := by
  have bx := (Blk.new w 52 #[.slice X n c, .int .i64 (nx : Int)]).alloc (.cells #[.slice X2 n c2, .int .i64 (nx : Int)] 52)
  have bz := Blk.new (w.alloc (.cells #[.slice X n c, .int .i64 (nx : Int)] 52)) 52 #[.slice X2 n c2, .int .i64 (nx : Int)]
  have gK := ((Keep.refl NoB w).alloc (.cells #[.slice X n c, .int .i64 (nx : Int)] 52)).alloc (.cells #[.slice X2 n c2, .int .i64 (nx : Int)] 52)
  rw [World.size_alloc] at bz
  have hn2 : gs2.length = n := by have := congrArg List.length he; simp at this; omega
  have HR := Lib.hid (fun W (hk : Keep NoB w W) => hr.keepN hk)
  have HR2 := Lib.hid (fun W (hk : Keep NoB w W) => hr2.keepN hk)
  have HG := Lib.hid (fun e he W (hk : Keep NoB w W) => (hg e he).keepN hk)
  have HG2 := Lib.hid (fun e he W (hk : Keep NoB w W) => (hg2 e he).keepN hk)
  have HE := Lib.hid he
  have HS := Lib.hid hs
  have HN : Hid (gs.length = n ∧ gs2.length = n) := ⟨hn, hn2⟩
  have x0 : _ := bx.cell 0
  have x1 : _ := bx.cell 1
  have z0 : _ := bz.cell 0
  have z1 : _ := bz.cell 1
  simp only [List.getElem?_toArray, List.getElem?_cons_zero, List.getElem?_cons_succ] at x0 x1 z0 z1
  clear hr hr2 hg hg2 he hs hn hn2 bx bz
  generalize hwb : (w.alloc (.cells #[.slice X n c, .int .i64 (nx : Int)] 52)).alloc (.cells #[.slice X2 n c2, .int .i64 (nx : Int)] 52) = wb at *
  go_enter Tryz.func26, Tryz.ntmps26
  go_wp2_with fail
  clear hwb
  go_loopw [5] (fun i wr => ∃ j : Nat, j ≤ n ∧ i = .int .i64 j ∧ Hid (Keep NoB wb wr)) (fun i _ => n - (intOf i).toNat)
  case atStart => exact ⟨0, Nat.zero_le _, rfl, Keep.refl _ _⟩
  case round =>
    obtain ⟨j, hjn, rfl, HK⟩ := hrel
    have y0 := HK.out.cell x0 id
    have y1 := HK.out.cell z0 id
    by_cases hlt : j < n
    · have h1 : j < gs.length := by rw [HN.out.1]; exact hlt
      have h2 : j < gs2.length := by rw [HN.out.2]; exact hlt
      have hwK := keepN gK HK.out
      obtain ⟨g, off, rfl, d0, d1⟩ := sig_at (HR.out wr hwK) h1
      obtain ⟨g2, off2, rfl, k0, k1⟩ := sig_at (HR2.out wr hwK) h2
      have hga := HG.out _ (List.getElem_mem h1) wr hwK
      have hgb := HG2.out _ (List.getElem_mem h2) wr hwK
      have hse := HS.out _ (List.getElem_mem h1)
      have heq : gsg gs[j] = gsg gs2[j] := by
        have := congrArg (fun l => l[j]?) HE.out
        simpa [h1, h2] using this
      clear hwK
      generalize gs[j] = e at *
      generalize gs2[j] = q at *
      obtain ⟨⟨a1, la1⟩, ⟨b1, lb1⟩⟩ := e
      obtain ⟨⟨a2, la2⟩, ⟨b2, lb2⟩⟩ := q
      obtain ⟨rfl, rfl⟩ : la1 = la2 ∧ lb1 = lb2 := by
        simp only [gsg, Prod.mk.injEq] at heq; exact heq
      have HCM := Lib.hid (fun W (hk : Keep NoB wr W) => S.rsame_any a1.A la1 a1.n a1.c b1.A lb1 b1.n b1.c a2.A la1 a2.n a2.c b2.A lb1 b2.n b2.c W (hga.a.keepN hk) (hga.b.keepN hk) (hgb.a.keepN hk) (hgb.b.keepN hk) hga.la hga.lb hgb.la hgb.lb (by have := hga.la; dsimp only at this hse; omega) (by have := hga.lb; dsimp only at this hse; omega) (by have := hgb.la; dsimp only at this hse; omega) (by have := hgb.lb; dsimp only at this hse; omega) true (by show _ = _; simp))
      clear hga hgb hse heq
      go_wp2_with fail
      refine wp_region_props6 (fun i => [28, 29, 30, 31, 32, 33, 34, 35, 36, 37, 38, 6].getD i 0) 9999 (NoB) (fun _ => false) (by kernel_rfl) (by kernel_rfl) (by kernel_rfl) (SCm w.heap.size (some ⟨g, off, none⟩) (some ⟨g2, off2, none⟩) n c c2 j g off g2 off2 a1 b1 a2 b2) (fun i u x y _ _ _ h _ => SCm_stable _ _ _ _ _ _ _ _ _ _ _ _ _ _ _ i u x y h) (fun i u x y _ h _ => SCm_stable _ _ _ _ _ _ _ _ _ _ _ _ _ _ _ i u x y h) rfl ?step ?spec ?fin
      case step =>
        intro i o a w' hoo hic hF hK hA
        have hi : i < 12 := by simpa using (Array.getElem?_eq_some_iff.1 hoo).1
        by_cases h0 : i = 0
        · subst h0
          simp only [List.getElem?_toArray, List.getElem?_cons_zero, Option.some.injEq] at hoo
          subst hoo
          have e2 : a.tmps.getD 2 undef = .pointer (some ⟨w.heap.size, 0, none⟩) := hF.2.2 2 (by decide)
          refine Does.plain rfl ?_
          unfold yieldsK
          go_simp
          exact ⟨rfl, Keep.refl _ _⟩
        by_cases h1 : i = 1
        · subst h1
          simp only [List.getElem?_toArray, List.getElem?_cons_zero, List.getElem?_cons_succ, Option.some.injEq] at hoo
          subst hoo
          have e28 : a.tmps.getD 28 undef = .pointer (some ⟨w.heap.size, 0, none⟩) := hA ⟨0, .data⟩ (by simp) rfl
          have q0 := Keep.cell hK y0 id
          refine Does.plain rfl ?_
          unfold yieldsK
          go_simp
          exact ⟨rfl, Keep.refl _ _⟩
        by_cases h2 : i = 2
        · subst h2
          simp only [List.getElem?_toArray, List.getElem?_cons_zero, List.getElem?_cons_succ, Option.some.injEq] at hoo
          subst hoo
          have e5 : a.tmps.getD 5 undef = .int .i64 (j : Int) := hF.2.2 5 (by decide)
          refine Does.plain rfl ?_
          unfold yieldsK
          go_simp
          exact ⟨rfl, Keep.refl _ _⟩
        by_cases h3 : i = 3
        · subst h3
          simp only [List.getElem?_toArray, List.getElem?_cons_zero, List.getElem?_cons_succ, Option.some.injEq] at hoo
          subst hoo
          have e29 : a.tmps.getD 29 undef = .slice (some ⟨g, off, none⟩) n c := hA ⟨1, .data⟩ (by simp) rfl
          have e30 : a.tmps.getD 30 undef = .int .i64 (j : Int) := hA ⟨2, .data⟩ (by simp) rfl
          have hkn : (j : Int) < (n : Int) := by omega
          refine Does.plain rfl ?_
          unfold yieldsK
          go_simp
          exact ⟨rfl, Keep.refl _ _⟩
        by_cases h4 : i = 4
        · subst h4
          simp only [List.getElem?_toArray, List.getElem?_cons_zero, List.getElem?_cons_succ, Option.some.injEq] at hoo
          subst hoo
          have e31 : a.tmps.getD 31 undef = .pointer (some ⟨g, off + j * 2, none⟩) := hA ⟨3, .data⟩ (by simp) rfl
          have q0 := Keep.cell hK d0 id
          have q1 := Keep.cell hK d1 id
          refine Does.plain rfl ?_
          unfold yieldsK
          go_simp
          exact ⟨rfl, Keep.refl _ _⟩
        by_cases h5 : i = 5
        · subst h5
          simp only [List.getElem?_toArray, List.getElem?_cons_zero, List.getElem?_cons_succ, Option.some.injEq] at hoo
          subst hoo
          have e3 : a.tmps.getD 3 undef = .pointer (some ⟨w.heap.size + 1, 0, none⟩) := hF.2.2 3 (by decide)
          refine Does.plain rfl ?_
          unfold yieldsK
          go_simp
          exact ⟨rfl, Keep.refl _ _⟩
        by_cases h6 : i = 6
        · subst h6
          simp only [List.getElem?_toArray, List.getElem?_cons_zero, List.getElem?_cons_succ, Option.some.injEq] at hoo
          subst hoo
          have e33 : a.tmps.getD 33 undef = .pointer (some ⟨w.heap.size + 1, 0, none⟩) := hA ⟨5, .data⟩ (by simp) rfl
          have q0 := Keep.cell hK y1 id
          refine Does.plain rfl ?_
          unfold yieldsK
          go_simp
          exact ⟨rfl, Keep.refl _ _⟩
        by_cases h7 : i = 7
        · subst h7
          simp only [List.getElem?_toArray, List.getElem?_cons_zero, List.getElem?_cons_succ, Option.some.injEq] at hoo
          subst hoo
          have e5 : a.tmps.getD 5 undef = .int .i64 (j : Int) := hF.2.2 5 (by decide)
          refine Does.plain rfl ?_
          unfold yieldsK
          go_simp
          exact ⟨rfl, Keep.refl _ _⟩
        by_cases h8 : i = 8
        · subst h8
          simp only [List.getElem?_toArray, List.getElem?_cons_zero, List.getElem?_cons_succ, Option.some.injEq] at hoo
          subst hoo
          have e34 : a.tmps.getD 34 undef = .slice (some ⟨g2, off2, none⟩) n c2 := hA ⟨6, .data⟩ (by simp) rfl
          have e35 : a.tmps.getD 35 undef = .int .i64 (j : Int) := hA ⟨7, .data⟩ (by simp) rfl
          have hkn : (j : Int) < (n : Int) := by omega
          refine Does.plain rfl ?_
          unfold yieldsK
          go_simp
          exact ⟨rfl, Keep.refl _ _⟩
        by_cases h9 : i = 9
        · subst h9
          simp only [List.getElem?_toArray, List.getElem?_cons_zero, List.getElem?_cons_succ, Option.some.injEq] at hoo
          subst hoo
          have e36 : a.tmps.getD 36 undef = .pointer (some ⟨g2, off2 + j * 2, none⟩) := hA ⟨8, .data⟩ (by simp) rfl
          have q0 := Keep.cell hK k0 id
          have q1 := Keep.cell hK k1 id
          refine Does.plain rfl ?_
          unfold yieldsK
          go_simp
          exact ⟨rfl, Keep.refl _ _⟩
        by_cases h10 : i = 10
        · subst h10
          simp only [List.getElem?_toArray, List.getElem?_cons_zero, List.getElem?_cons_succ, Option.some.injEq] at hoo
          subst hoo
          have e32 : a.tmps.getD 32 undef = .agg #[.slice a1.A a1.n a1.c, .slice b1.A b1.n b1.c] := hA ⟨4, .data⟩ (by simp) rfl
          have e37 : a.tmps.getD 37 undef = .agg #[.slice a2.A a2.n a2.c, .slice b2.A b2.n b2.c] := hA ⟨9, .data⟩ (by simp) rfl
          refine Does.plain rfl ?_
          unfold yieldsK
          go_simp
          refine (HCM.out w' hK).mono ?_
          rintro e w9 ⟨rfl, h9⟩
          exact ⟨_, rfl, rfl, h9⟩
        by_cases h11 : i = 11
        · subst h11
          simp only [List.getElem?_toArray, List.getElem?_cons_zero, List.getElem?_cons_succ, Option.some.injEq] at hoo
          subst hoo
          have e38 : a.tmps.getD 38 undef = .bool true := hA ⟨10, .data⟩ (by simp) rfl
          refine Does.plain rfl ?_
          unfold yieldsK
          go_simp
          exact ⟨rfl, Keep.refl _ _⟩
        omega
      case spec =>
        intro o a w' hoo
        simp at hoo
      case fin =>
        intro a w' hF gK hA
        have e6 : a.tmps.getD 6 undef = .bool true := hA 11 (by decide)
        have ha := frameD_list (l := [28, 29, 30, 31, 32, 33, 34, 35, 36, 37, 38, 6]) rfl hF
        rw [ha]
        simp only [List.map_cons, List.map_nil, e6]
        generalize a.tmps.getD 28 undef = u0
        generalize a.tmps.getD 29 undef = u1
        generalize a.tmps.getD 30 undef = u2
        generalize a.tmps.getD 31 undef = u3
        generalize a.tmps.getD 32 undef = u4
        generalize a.tmps.getD 33 undef = u5
        generalize a.tmps.getD 34 undef = u6
        generalize a.tmps.getD 35 undef = u7
        generalize a.tmps.getD 36 undef = u8
        generalize a.tmps.getD 37 undef = u9
        generalize a.tmps.getD 38 undef = u10
        simp only [fillD, List.setIfInBounds_toArray, List.set_cons_zero, List.set_cons_succ]
        have HK9 := Lib.hid (keepN HK.out gK)
        clear hA hF ha e6 HCM d0 d1 k0 k1 y0 y1 HK gK
        go_wp2
        go_roundw
        case rel => exact ⟨j + 1, by omega, by go_num, HK9.out⟩
        case measure => simp [intOf]; omega
    · obtain rfl : j = n := by omega
      clear y0 y1
      have y0 := HK.out.cell x0 id
      have HK2 := Lib.hid (keepN gK HK.out)
      clear HK
      go_wp2
      go_ret
      exact ⟨rfl, HK2.out⟩

end Go.Proofs.YtgifflfjhockaaaGreatDoor.I

namespace Go.Proofs.YtgifflfjhockaaaGreatDoor.F
open Go.RowKit W

/-- A row whose every size-th cell is a number, in a block from lo on. -/
def WipeR (E size : Nat) (A : Option Addr) (m lo : Nat) (w : World) : Prop := 0 < m → ∃ g, A = some ⟨g, 0, none⟩ ∧ lo ≤ g ∧ ∃ cur, Blk w g E cur ∧ ∀ j, j < m → ∃ t : Int, cur[j * size]? = some (.int .i64 t)
theorem WipeR.keep {E size m lo : Nat} {A : Option Addr} {w w' : World} {O : Nat → Prop} (h : WipeR E size A m lo w) (hk : Keep O w w') (hO : ∀ k, lo ≤ k → k < w.heap.size → ¬ O k) : WipeR E size A m lo w' := fun hm => by
  obtain ⟨g, e, h1, cur, hb, hc⟩ := h hm
  exact ⟨g, e, h1, cur, hb.keep hk (hO g h1 hb.lt), hc⟩
theorem WipeR.put {E size m lo g i : Nat} {A : Option Addr} {w : World} (h : WipeR E size A m lo w) (z : Int) : WipeR E size A m lo (w.setCell ⟨g, i, none⟩ (.int .i64 z)) := fun hm => by
  obtain ⟨g', e, h1, cur, hb, hc⟩ := h hm
  by_cases hg : g' = g
  · subst hg
    refine ⟨g', e, h1, _, hb.put i _, fun j hj => ?_⟩
    obtain ⟨t, ht⟩ := hc j hj
    have hsz := (Array.getElem?_eq_some_iff.1 ht).1
    by_cases ej : i = j * size
    · subst ej; exact ⟨z, by simp [hsz]⟩
    · exact ⟨t, by rw [Array.getElem?_setIfInBounds, if_neg ej]; exact ht⟩
  · exact ⟨g', e, h1, cur, hb.far (p := ⟨g, i, none⟩) hg _, hc⟩
theorem wipe_of {w : World} {E size n c lo : Nat} {P : Nat → Prop} {A : Option Addr} {xs : List Value} (h : Own w E size P (.slice A n c) n xs) (hP : ∀ k, P k → lo ≤ k) (hx : ∀ j, j < n → ∃ t : Int, xs[j * size]? = some (.int .i64 t)) : WipeR E size A n lo w := fun hm => by
  rcases h.1.2 with ⟨e, h0⟩ | ⟨g, cap, cur, e, _, hh, _⟩
  · omega
  · injection e with e1 e2 e3
    subst e1
    refine ⟨g, rfl, hP g (h.2 g rfl), cur, hh, fun j hj => ?_⟩
    obtain ⟨t, ht⟩ := hx j hj
    refine ⟨t, ?_⟩
    have h2 := h.1.cells (g := g) rfl _ _ ht
    have ea : (⟨g, 0, none⟩ : Addr).add (j * size) = ⟨g, j * size, none⟩ := by unfold Addr.add; by_cases hj : j * size = 0 <;> simp [hj]
    rw [ea] at h2
    exact (Blk.cell (show Blk w g E cur from hh) (j * size)).symm.trans h2
theorem ivs_nums (l : List Int) : ∀ j, j < l.length → ∃ t : Int, (ivs l)[j * 1]? = some (.int .i64 t) := fun j hj => ⟨l[j], by simp [hj]⟩
theorem iis_nums : ∀ (l : List C.I3) (j : Nat), j < l.length → ∃ t : Int, (C.iis l)[j * 3]? = some (.int .i64 t)
  | x :: l, 0, _ => ⟨x.1, by rw [C.iis_cons]; rfl⟩
  | x :: l, j + 1, h => by
    obtain ⟨t, ht⟩ := iis_nums l j (by simpa using h)
    refine ⟨t, ?_⟩
    rw [C.iis_cons, show (j + 1) * 3 = j * 3 + 3 by omega]
    simpa using ht
/-- A function's lists may be written. -/
structure SpF (lo : Nat) (v : FV) (w : World) : Prop where
  a : WipeR 3 1 v.A v.na lo w
  b : WipeR 3 1 v.B v.nb lo w
  l : WipeR 3 1 v.L v.nl lo w
  d : WipeR 63 3 v.D v.nd lo w
theorem SpF.keep {w w' : World} {O : Nat → Prop} {v : FV} {lo : Nat} (h : SpF lo v w) (hk : Keep O w w') (hO : ∀ k, lo ≤ k → k < w.heap.size → ¬ O k) : SpF lo v w' := ⟨h.a.keep hk hO, h.b.keep hk hO, h.l.keep hk hO, h.d.keep hk hO⟩
structure SpI (lo : Nat) (w0 : World) (x : Nat) (v : FV) (wr : World) : Prop where
  sp : SpF lo v wr
  keep : Keep (fun k => lo ≤ k) w0 wr
  box : Blk wr x 61 v.cells
theorem SpI.put {lo x g i E : Nat} {w0 wr : World} {v : FV} {cur : Array Value} (h : SpI lo w0 x v wr) (hg : lo ≤ g) (hb : Blk wr g E cur) (hE : 61 ≠ E) (z : Int) : SpI lo w0 x v (wr.setCell ⟨g, i, none⟩ (.int .i64 z)) :=
  ⟨⟨h.sp.a.put z, h.sp.b.put z, h.sp.l.put z, h.sp.d.put z⟩, h.keep.setCell (p := ⟨g, i, none⟩) (fun _ => hg) _, h.box.far (p := ⟨g, i, none⟩) (h.box.ne hb hE) _⟩

end Go.Proofs.YtgifflfjhockaaaGreatDoor.F

namespace Go.Proofs.YtgifflfjhockaaaGreatDoor.I
open Go.RowKit W

/-- What may be written over, and what stays ahead of it. -/
structure SpQ (w0 W : World) (gc gd : Nat) (X : Option Addr) (n cx : Nat) (N : Int) (gs : List GE) (d : IV) (es : List SE) (fs : List FE) : Prop where
  kp : Keep (fun k => w0.heap.size ≤ k) w0 W
  bc : Blk W gc 52 #[.slice X n cx, .int .i64 N]
  bd : Blk W gd 25 d.cells
  rc : Own W 57 2 (fun k => w0.heap.size ≤ k) (.slice X n cx) n (gvs gs)
  rs : Own W 58 1 (fun k => w0.heap.size ≤ k) (.slice d.X d.nx d.cx) d.nx (svs es)
  rf : Own W 61 5 (fun k => w0.heap.size ≤ k) (.slice d.Y d.ny d.cy) d.ny (fvs fs)
  wc : ∀ e ∈ gs, F.WipeR 3 1 e.1.1.A e.1.1.n w0.heap.size W
  ws : ∀ e ∈ es, F.WipeR 3 1 e.1.A e.1.n w0.heap.size W
  wf : ∀ e ∈ fs, F.WipeR 63 3 e.1.D e.1.nd w0.heap.size W
theorem SpQ.put {w0 W : World} {gc gd g E n cx : Nat} {X : Option Addr} {N : Int} {gs : List GE} {d : IV} {es : List SE} {fs : List FE} {cur : Array Value} (h : SpQ w0 W gc gd X n cx N gs d es fs) (hg : w0.heap.size ≤ g) (hb : Blk W g E cur) (hE : E = 3 ∨ E = 63) (i : Nat) (z : Int) :
    SpQ w0 (W.setCell ⟨g, i, none⟩ (.int .i64 z)) gc gd X n cx N gs d es fs := by
  have kk : Keep (fun j => j = g) W (W.setCell ⟨g, i, none⟩ (.int .i64 z)) := (Keep.refl (fun j => j = g) W).setCell (p := ⟨g, i, none⟩) (fun _ => rfl) _
  have hot : ∀ T : TypeId, T ≠ 3 → T ≠ 63 → ∀ k, k = g → ∀ cs f, W.heap[k]? ≠ some (.cells cs T f) := fun T h1 h2 k hk cs f h3 => by
    subst hk
    rw [show W.heap[k]? = _ from hb] at h3
    cases h3
    exact hE.elim h1 h2
  exact ⟨h.kp.setCell (p := ⟨g, i, none⟩) (fun _ => hg) _, blk_other h.bc kk (hot _ (by decide) (by decide)), blk_other h.bd kk (hot _ (by decide) (by decide)), own_other h.rc kk (hot _ (by decide) (by decide)), own_other h.rs kk (hot _ (by decide) (by decide)), own_other h.rf kk (hot _ (by decide) (by decide)),
    fun e he => (h.wc e he).put z, fun e he => (h.ws e he).put z, fun e he => (h.wf e he).put z⟩
/-- What lies in memory ahead of what is answered. -/
structure IAs (W : World) (b0 b1 b2 : Nat) (v u o : IV) (es gs eo : List SE) (fs hs fo : List FE) : Prop where
  k0 : Blk W b0 25 v.cells
  k1 : Blk W b1 25 u.cells
  k2 : Blk W b2 25 o.cells
  i0 : ImAt W v es fs
  i1 : ImAt W u gs hs
  i2 : ImAt W o eo fo
theorem IAs.keep {W W' : World} {O : Nat → Prop} {b0 b1 b2 : Nat} {v u o : IV} {es gs eo : List SE} {fs hs fo : List FE} (h : IAs W b0 b1 b2 v u o es gs eo fs hs fo) (hk : Keep O W W') (hO : ∀ k, k < W.heap.size → ¬ O k) : IAs W' b0 b1 b2 v u o es gs eo fs hs fo :=
  ⟨h.k0.keep hk (hO _ h.k0.lt), h.k1.keep hk (hO _ h.k1.lt), h.k2.keep hk (hO _ h.k2.lt), h.i0.keep hk hO, h.i1.keep hk hO, h.i2.keep hk hO⟩
/-- What the values are that the region of what is answered yields. -/
def SA6 (m : Nat) (o : IV) (eo : List SE) (fo : List FE) : Nat → Value → World → Prop
  | 0 => fun u _ => u = o.val
  | 1 => fun u W => ∃ X cx, ∃ gs : List GE, u = .agg #[.slice X o.ny cx, .int .i64 (o.nx : Int)] ∧ Own W 57 2 (fun k => m ≤ k) (.slice X o.ny cx) o.ny (gvs gs) ∧ (∀ e ∈ gs, OwnGE W (fun k => m ≤ k) e) ∧ gs.map gsg = (fo.map fun e => (e.2.ar, e.2.rs))
  | 2 => fun u _ => u = o.val
  | 3 => fun u W => ∃ d : IV, ∃ ed fd, u = d.val ∧ OwnIm W (fun k => m ≤ k) d ed fd ∧ imOf ed fd = imOf eo fo
  | 4 => fun u W => ∃ g, u = .pointer (some ⟨g, 0, none⟩) ∧ m ≤ g ∧ Blk W g 52 #[.slice none 0 0, .int .i64 0]
  | 5 => fun u W => ∃ g, u = .pointer (some ⟨g, 0, none⟩) ∧ m ≤ g ∧ Blk W g 25 #[.slice none 0 0, .slice none 0 0]
  | _ => fun _ _ => True
theorem SA6_stable (m : Nat) (o : IV) (eo : List SE) (fo : List FE) : ∀ i u W W', SA6 m o eo fo i u W → Keep NoB W W' → SA6 m o eo fo i u W'
  | 0, _, _, _, h, _ | 2, _, _, _, h, _ => h
  | 1, _, _, _, ⟨X, cx, gs, e, h1, h2, h3⟩, hk => ⟨X, cx, gs, e, h1.keepN hk, fun e he => (h2 e he).keepN hk, h3⟩
  | 3, _, _, _, ⟨d, ed, fd, e, h1, h2⟩, hk => ⟨d, ed, fd, e, h1.keepN hk, h2⟩
  | 4, _, _, _, ⟨g, e, hm, hb⟩, hk => ⟨g, e, hm, hb.keep hk id⟩
  | 5, _, _, _, ⟨g, e, hm, hb⟩, hk => ⟨g, e, hm, hb.keep hk id⟩
  | _ + 6, _, _, _, h, _ => h
/-- What the values are that the region of the comparisons yields. -/
def SA7 (v u o d : IV) (fN fE : Int) (Xc : Option Addr) (nc cxc nx : Nat) (fs : List FE) (sm : Bool) : Nat → Value → World → Prop
  | 0 => fun z _ => z = .int .i64 fN
  | 1 => fun z _ => z = .int .i64 fN
  | 2 => fun z _ => z = .bool false
  | 3 => fun z _ => z = .bool false
  | 4 => fun z _ => z = .int .i64 fE
  | 5 => fun z _ => z = .int .i64 fE
  | 6 => fun z _ => z = .bool false
  | 7 => fun z _ => z = .bool false
  | 8 => fun z _ => z = .bool false
  | 9 => fun z _ => z = .agg #[.slice Xc nc cxc, .int .i64 (nx : Int)]
  | 10 => fun z _ => z = v.val
  | 11 => fun z W => ∃ X cx, ∃ gs : List GE, z = .agg #[.slice X nc cx, .int .i64 (nx : Int)] ∧ Rd W X (gvs gs) ∧ (∀ e ∈ gs, GAt W e) ∧ gs.map gsg = (fs.map fun e => (e.2.ar, e.2.rs))
  | 12 => fun z _ => z = .bool true
  | 13 => fun z _ => z = .bool false
  | 14 => fun z _ => z = .bool false
  | 15 => fun z _ => z = .bool false
  | 16 => fun z _ => z = o.val
  | 17 => fun z _ => z = u.val
  | 18 => fun z _ => z = .bool sm
  | 19 => fun z _ => z = v.val
  | 20 => fun z _ => z = u.val
  | 21 => fun z _ => z = .bool sm
  | 22 => fun z _ => z = .bool false
  | 23 => fun z _ => z = .bool false
  | 24 => fun z _ => z = .bool false
  | 25 => fun z _ => z = d.val
  | 26 => fun z _ => z = v.val
  | 27 => fun z _ => z = .bool true
  | 28 => fun z _ => z = .bool false
  | 29 => fun z _ => z = .bool false
  | _ => fun _ _ => True
theorem SA7_stable (v u o d : IV) (fN fE : Int) (Xc : Option Addr) (nc cxc nx : Nat) (fs : List FE) (sm : Bool) (i : Nat) (z : Value) (W W' : World) (h : SA7 v u o d fN fE Xc nc cxc nx fs sm i z W) (hk : Keep NoB W W') : SA7 v u o d fN fE Xc nc cxc nx fs sm i z W' := by
  unfold SA7 at h ⊢
  split at h <;> first | exact h | (obtain ⟨X, cx, gs, e, h1, h2, h3⟩ := h; exact ⟨X, cx, gs, e, h1.keepN hk, fun e he => (h2 e he).keepN hk, h3⟩)

set_option maxRecDepth 100000 in
set_option maxHeartbeats 16000000 in
theorem asks_walk (v u : IV) (es gs : List SE) (fs hs : List FE) (S : ByteArray) (w : World) (h : ImAt w v es fs) (h2 : ImAt w u gs hs) (hl : LgI v es fs) (hl2 : LgI u gs hs) :
    Calls Tryz.prog 4 #[v.val, u.val, .string S] w fun e w' => e = .returned (.bool true) ∧ Keep NoB w w' := by
  have bx := (Blk.new w 25 v.cells).alloc (.cells u.cells 25)
  have bu := Blk.new (w.alloc (.cells v.cells 25)) 25 u.cells
  rw [World.size_alloc] at bu
  have gK := ((Keep.refl NoB w).alloc (.cells v.cells 25)).alloc (.cells u.cells 25)
  have HIV := Lib.hid (fun W (hk : Keep NoB w W) => (And.intro (h.keepN hk) (h2.keepN hk) : ImAt W v es fs ∧ ImAt W u gs hs))
  have HG := Lib.hid (fun W (hk : Keep NoB w W) => great_any v es fs W (h.keepN hk) hl)
  have HG2 := Lib.hid (fun W (hk : Keep NoB w W) => great_any u gs hs W (h2.keepN hk) hl2)
  have HLN := Lib.hid (And.intro h.lens (And.intro h.ly h.lx))
  clear h h2 hl hl2
  obtain ⟨X, nx, cx, Y, ny, cy⟩ := v
  obtain ⟨X2, nx2, cx2, Y2, ny2, cy2⟩ := u
  dsimp only [IV.val, IV.cells] at *
  obtain ⟨p0, p1⟩ := blk2 (v := ⟨X, nx, cx, Y, ny, cy⟩) bx
  dsimp only at p0 p1
  go_enter Tryz.func4, Tryz.ntmps4
  go_wp2_with fail
  refine (HG.out _ gK).mono ?_
  rintro e w2 ⟨hg, k2⟩
  replace bx := bx.keep k2 id
  replace bu := bu.keep k2 id
  replace gK := keepN gK k2
  clear k2 p0 p1 HG
  rcases hg with ⟨rfl, hg1, hg2⟩ | rfl
  rotate_left
  · clear bx bu
    go_wp2
    go_ret
    exact ⟨rfl, gK⟩
  clear hg2
  have HSM := Lib.hid hg1
  clear hg1
  obtain ⟨p0, p1⟩ := blk2 (v := ⟨X2, nx2, cx2, Y2, ny2, cy2⟩) bu
  dsimp only at p0 p1
  go_wp2_with fail
  refine (HG2.out _ gK).mono ?_
  rintro e w3 ⟨hg, k2⟩
  replace bx := bx.keep k2 id
  replace bu := bu.keep k2 id
  replace gK := keepN gK k2
  clear k2 p0 p1 HG2
  rcases hg with ⟨rfl, hg1, hg2⟩ | rfl
  rotate_left
  · clear bx bu
    go_wp2
    go_ret
    exact ⟨rfl, gK⟩
  clear hg2
  have HSU := Lib.hid hg1
  clear hg1
  by_cases hS : S.size ≤ 100
  rotate_left
  · have hq : decide ((100 : Int) < (S.size : Int)) = true := by rw [decide_eq_true_iff]; omega
    clear bx bu
    go_wp2
    go_ret
    exact ⟨rfl, gK⟩
  have hq : decide ((100 : Int) < (S.size : Int)) = false := by rw [decide_eq_false_iff_not]; omega
  obtain ⟨p0, p1⟩ := blk2 (v := ⟨X, nx, cx, Y, ny, cy⟩) bx
  dsimp only at p0 p1
  go_wp2_with fail
  refine (rcopyI_any ⟨X, nx, cx, Y, ny, cy⟩ es fs _ (HIV.out _ gK).1 HSM.out).mono ?_
  rintro e w4 ⟨o, eo, fo, rfl, hO, hOe, k3⟩
  have HSO := Lib.hid (smI_same (HIV.out _ gK).1 HSM.out hO.im hOe)
  have HOE := Lib.hid hOe
  have hOi := hO.im
  clear hO hOe
  obtain ⟨oX, onx, ocx, oY, ony, ocy⟩ := o
  dsimp only [IV.val, IV.cells] at *
  have b1 := Blk.new w4 25 #[.slice oX onx ocx, .slice oY ony ocy]
  have kA := (Keep.refl NoB w4).alloc (.cells #[.slice oX onx ocx, .slice oY ony ocy] 25)
  have kB := keepN k3 kA
  have HIA : Hid (IAs (w4.alloc (.cells #[.slice oX onx ocx, .slice oY ony ocy] 25)) w.heap.size (w.heap.size + 1) w4.heap.size ⟨X, nx, cx, Y, ny, cy⟩ ⟨X2, nx2, cx2, Y2, ny2, cy2⟩ ⟨oX, onx, ocx, oY, ony, ocy⟩ es gs eo fs hs fo) :=
    ⟨bx.keep kB id, bu.keep kB id, b1, (HIV.out _ (keepN gK kB)).1, (HIV.out _ (keepN gK kB)).2, hOi.keepN kA⟩
  have HGK := Lib.hid (keepN gK kB)
  have HLO := Lib.hid (And.intro hOi.lx hOi.ly)
  clear k3 kA kB bx bu b1 hOi gK HIV p0 p1
  generalize hw5 : w4.alloc (.cells #[.slice oX onx ocx, .slice oY ony ocy] 25) = w5 at *
  obtain ⟨p0, p1⟩ := blk2 (v := ⟨X, nx, cx, Y, ny, cy⟩) HIA.out.k0
  obtain ⟨y0, y1⟩ := blk2 (v := ⟨oX, onx, ocx, oY, ony, ocy⟩) HIA.out.k2
  dsimp only at p0 p1 y0 y1
  go_wp2_with fail
  clear hw5
  refine (find_any ⟨oX, onx, ocx, oY, ony, ocy⟩ eo fo S _ w5 HIA.out.i2 (by have := HLO.out.2; have := HSO.out.nf; dsimp only at *; omega) rfl).mono ?_
  have hfe : (imOf [] fo).fn = (imOf [] fs).fn := show (fo.map fun e => e.2) = (fs.map fun e => e.2) from congrArg Im.fn HOE.out
  rw [hfe]
  clear hfe
  rintro e w6 ⟨rfl, k6⟩
  have HIA6 := Lib.hid (HIA.out.keep k6 (fun _ _ => id))
  have HGK6 := Lib.hid (keepN HGK.out k6)
  clear p0 p1 y0 y1 k6 HIA HGK
  obtain ⟨p0, p1⟩ := blk2 (v := ⟨X, nx, cx, Y, ny, cy⟩) HIA6.out.k0
  dsimp only at p0 p1
  go_wp2_with fail
  refine (rfind_any ⟨X, nx, cx, Y, ny, cy⟩ es fs S _ w6 HIA6.out.i0 (by have := HLN.out.2.1; have := HSM.out.nf; dsimp only at *; omega) rfl).mono ?_
  rintro e w7 ⟨rfl, k7⟩
  have HIA := Lib.hid (HIA6.out.keep k7 (fun _ _ => id))
  have HGK := Lib.hid (keepN HGK6.out k7)
  clear p0 p1 k7 HIA6 HGK6
  generalize findN (imOf [] fs).fn S.data.toList = fN at *
  generalize findE (imOf [] fs).fn S.data.toList = fE at *
  obtain ⟨p0, p1⟩ := blk2 (v := ⟨X, nx, cx, Y, ny, cy⟩) HIA.out.k0
  obtain ⟨x0, x1⟩ := blk2 (v := ⟨X2, nx2, cx2, Y2, ny2, cy2⟩) HIA.out.k1
  obtain ⟨y0, y1⟩ := blk2 (v := ⟨oX, onx, ocx, oY, ony, ocy⟩) HIA.out.k2
  dsimp only at p0 p1 x0 x1 y0 y1
  have HCX := Lib.hid (fun W (hk : Keep NoB w7 W) => context_any ⟨oX, onx, ocx, oY, ony, ocy⟩ eo fo W (HIA.out.i2.keepN hk) HSO.out.fn (by have := HLO.out.2; have := HSO.out.nf; dsimp only at *; omega))
  have HCY := Lib.hid (fun W (hk : Keep NoB w7 W) => copyI_any ⟨oX, onx, ocx, oY, ony, ocy⟩ eo fo W (HIA.out.i2.keepN hk) HSO.out)
  go_wp2_with fail
  refine wp_region_tail (fun i => [47, 48, 49, 50, 12, 13].getD i 0) 6 (by kernel_rfl) (by kernel_rfl) (by kernel_rfl) (by kernel_rfl) (by kernel_rfl) (SA6 w7.heap.size ⟨oX, onx, ocx, oY, ony, ocy⟩ eo fo) (fun i u x y h hk => SA6_stable _ _ _ _ i u x y h hk) rfl ?step ?fin
  case step =>
    intro i o a w' hoo hi hF hK hA
    by_cases h0 : i = 0
    · subst h0
      simp only [List.getElem?_toArray, List.getElem?_cons_zero, Option.some.injEq] at hoo
      subst hoo
      have e7 : a.tmps.getD 7 undef = .pointer (some ⟨w4.heap.size, 0, none⟩) := hF.2.2 7 (by decide)
      have c0 := Keep.cell hK y0 id
      have c1 := Keep.cell hK y1 id
      refine Does.plain rfl ?_
      unfold yieldsK
      go_simp
      exact ⟨rfl, Keep.refl _ _⟩
    by_cases h1 : i = 1
    · subst h1
      simp only [List.getElem?_toArray, List.getElem?_cons_zero, List.getElem?_cons_succ, Option.some.injEq] at hoo
      subst hoo
      have e47 : a.tmps.getD 47 undef = .agg #[.slice oX onx ocx, .slice oY ony ocy] := hA ⟨0, .data⟩ (by simp) rfl
      refine Does.plain rfl ?_
      unfold yieldsK
      go_simp
      refine (HCX.out w' hK).mono ?_
      rintro e w9 ⟨X9, c9, g9, rfl, h9, h9s, h9m, hk9⟩
      have hks := hK.size
      exact ⟨_, rfl, ⟨X9, c9, g9, rfl, h9.mono (fun k (hk : Fresh w' k) _ => by unfold Fresh at hk; omega), fun e he => ⟨(h9s e he).a.mono (fun k (hk : Fresh w' k) _ => by unfold Fresh at hk; omega), (h9s e he).b.mono (fun k (hk : Fresh w' k) _ => by unfold Fresh at hk; omega)⟩, h9m⟩, hk9⟩
    by_cases h2 : i = 2
    · subst h2
      simp only [List.getElem?_toArray, List.getElem?_cons_zero, List.getElem?_cons_succ, Option.some.injEq] at hoo
      subst hoo
      have e7 : a.tmps.getD 7 undef = .pointer (some ⟨w4.heap.size, 0, none⟩) := hF.2.2 7 (by decide)
      have c0 := Keep.cell hK y0 id
      have c1 := Keep.cell hK y1 id
      refine Does.plain rfl ?_
      unfold yieldsK
      go_simp
      exact ⟨rfl, Keep.refl _ _⟩
    by_cases h3 : i = 3
    · subst h3
      simp only [List.getElem?_toArray, List.getElem?_cons_zero, List.getElem?_cons_succ, Option.some.injEq] at hoo
      subst hoo
      have e49 : a.tmps.getD 49 undef = .agg #[.slice oX onx ocx, .slice oY ony ocy] := hA ⟨2, .data⟩ (by simp) rfl
      refine Does.plain rfl ?_
      unfold yieldsK
      go_simp
      refine (HCY.out w' hK).mono ?_
      rintro e w9 ⟨d9, e9, f9, rfl, h9, h9m, hk9⟩
      have hks := hK.size
      exact ⟨_, rfl, ⟨d9, e9, f9, rfl, h9.mono (fun k (hk : Fresh w' k) _ => by unfold Fresh at hk; omega), h9m⟩, hk9⟩
    by_cases h4 : i = 4
    · subst h4
      simp only [List.getElem?_toArray, List.getElem?_cons_zero, List.getElem?_cons_succ, Option.some.injEq] at hoo
      subst hoo
      refine Does.plain rfl ?_
      unfold yieldsK
      go_simp
      exact ⟨⟨w'.heap.size, rfl, hK.size, Blk.new _ _ _⟩, (Keep.refl _ _).alloc _⟩
    by_cases h5 : i = 5
    · subst h5
      simp only [List.getElem?_toArray, List.getElem?_cons_zero, List.getElem?_cons_succ, Option.some.injEq] at hoo
      subst hoo
      refine Does.plain rfl ?_
      unfold yieldsK
      go_simp
      exact ⟨⟨w'.heap.size, rfl, hK.size, Blk.new _ _ _⟩, (Keep.refl _ _).alloc _⟩
    omega
  case fin =>
    intro a w' hF gK hA
    obtain ⟨Xc, cxc, gcs, e48, oc, ocs, mc⟩ := hA 1 (by decide)
    have e48 : a.tmps.getD 48 undef = .agg #[.slice Xc ony cxc, .int .i64 (onx : Int)] := e48
    obtain ⟨d, ed, fd, e50, od, md⟩ := hA 3 (by decide)
    obtain ⟨dX, dnx, dcx, dY, dny, dcy⟩ := d
    have e50 : a.tmps.getD 50 undef = .agg #[.slice dX dnx dcx, .slice dY dny dcy] := e50
    obtain ⟨gc, e12, hgc, bc⟩ := hA 4 (by decide)
    have e12 : a.tmps.getD 12 undef = .pointer (some ⟨gc, 0, none⟩) := e12
    obtain ⟨gd, e13, hgd, bd⟩ := hA 5 (by decide)
    have e13 : a.tmps.getD 13 undef = .pointer (some ⟨gd, 0, none⟩) := e13
    have ha := frameD_list (l := [47, 48, 49, 50, 12, 13]) rfl hF
    rw [ha]
    simp only [List.map_cons, List.map_nil, e48, e50, e12, e13]
    generalize a.tmps.getD 47 undef = u0
    generalize a.tmps.getD 49 undef = u2
    simp only [fillD, List.setIfInBounds_toArray, List.set_cons_zero, List.set_cons_succ]
    have hne : gc ≠ gd := fun e => by subst e; have h1 : _ = _ := bc; have h2 : _ = _ := bd; rw [h1] at h2; cases h2
    have hbc2 := put2_ctx bc (.slice Xc ony cxc) (.int .i64 (onx : Int))
    have kq := keep2_img w' gc (.slice Xc ony cxc) (.int .i64 (onx : Int))
    have hbd1 := bd.keep kq (fun e => hne e.symm)
    have hbd2 := put2_img hbd1 (.slice dX dnx dcx) (.slice dY dny dcy)
    have kq2 := keep2_img ((w'.setCell ⟨gc, 0, none⟩ (.slice Xc ony cxc)).setCell ⟨gc, 1, none⟩ (.int .i64 (onx : Int))) gd (.slice dX dnx dcx) (.slice dY dny dcy)
    have t0 := bc.cell 0
    have t1 := bc.cell 1
    have s0 := hbd1.cell 0
    have s1 := hbd1.cell 1
    simp only [List.getElem?_toArray, List.getElem?_cons_zero, List.getElem?_cons_succ] at t0 t1 s0 s1
    have ft := fun i => bc.frozen i
    have fs2 := fun i => hbd1.frozen i
    have ltc := bc.lt
    have ltd := hbd1.lt
    have hot1 : ∀ T : TypeId, T ≠ 52 → ∀ k, k = gc → ∀ cs f, w'.heap[k]? ≠ some (.cells cs T f) := fun T h1 k hk cs f h3 => by
      subst hk
      rw [show w'.heap[k]? = _ from bc] at h3
      cases h3; exact h1 rfl
    have hot2 : ∀ T : TypeId, T ≠ 25 → ∀ k, k = gd → ∀ cs f, ((w'.setCell ⟨gc, 0, none⟩ (.slice Xc ony cxc)).setCell ⟨gc, 1, none⟩ (.int .i64 (onx : Int))).heap[k]? ≠ some (.cells cs T f) := fun T h1 k hk cs f h3 => by
      subst hk
      rw [show ((w'.setCell ⟨gc, 0, none⟩ (.slice Xc ony cxc)).setCell ⟨gc, 1, none⟩ (.int .i64 (onx : Int))).heap[k]? = _ from hbd1] at h3
      cases h3; exact h1 rfl
    have HSP : Hid (SpQ w7 ((((w'.setCell ⟨gc, 0, none⟩ (.slice Xc ony cxc)).setCell ⟨gc, 1, none⟩ (.int .i64 (onx : Int))).setCell ⟨gd, 0, none⟩ (.slice dX dnx dcx)).setCell ⟨gd, 1, none⟩ (.slice dY dny dcy)) gc gd Xc ony cxc (onx : Int) gcs ⟨dX, dnx, dcx, dY, dny, dcy⟩ ed fd) :=
      ⟨((gK.mono (fun _ hf _ => hf.elim)).trans kq (fun k e _ => by subst e; exact hgc)).trans kq2 (fun k e _ => by subst e; exact hgd), hbc2.keep kq2 (fun e => hne e), hbd2,
        own_other (own_other oc kq (hot1 _ (by decide))) kq2 (hot2 _ (by decide)), own_other (own_other od.ox kq (hot1 _ (by decide))) kq2 (hot2 _ (by decide)), own_other (own_other od.oy kq (hot1 _ (by decide))) kq2 (hot2 _ (by decide)),
        fun e he => F.wipe_of (own_other (own_other (ocs e he).a kq (hot1 _ (by decide))) kq2 (hot2 _ (by decide))) (fun _ h => h) (by have := F.own_len (ocs e he).a; have h2 := F.ivs_nums e.1.2; rw [this] at h2; exact h2),
        fun e he => F.wipe_of (own_other (own_other (od.hs e he) kq (hot1 _ (by decide))) kq2 (hot2 _ (by decide))) (fun _ h => h) (by have := F.own_len (od.hs e he); have h2 := F.ivs_nums e.2; rw [this] at h2; exact h2),
        fun e he => F.wipe_of (own_other (own_other (od.hf e he).od kq (hot1 _ (by decide))) kq2 (hot2 _ (by decide))) (fun _ h => h) (by have := F.own_lenD (od.hf e he).od; have h2 := F.iis_nums e.2.bd; rw [this] at h2; exact h2)⟩
    have HGA : Hid (∀ e ∈ gcs, GAt ((((w'.setCell ⟨gc, 0, none⟩ (.slice Xc ony cxc)).setCell ⟨gc, 1, none⟩ (.int .i64 (onx : Int))).setCell ⟨gd, 0, none⟩ (.slice dX dnx dcx)).setCell ⟨gd, 1, none⟩ (.slice dY dny dcy)) e) := fun e he => OwnGE.gat (⟨own_other (own_other (ocs e he).a kq (hot1 _ (by decide))) kq2 (hot2 _ (by decide)), own_other (own_other (ocs e he).b kq (hot1 _ (by decide))) kq2 (hot2 _ (by decide))⟩ : OwnGE _ (fun k => w7.heap.size ≤ k) e)
    have HDI : Hid (ImAt ((((w'.setCell ⟨gc, 0, none⟩ (.slice Xc ony cxc)).setCell ⟨gc, 1, none⟩ (.int .i64 (onx : Int))).setCell ⟨gd, 0, none⟩ (.slice dX dnx dcx)).setCell ⟨gd, 1, none⟩ (.slice dY dny dcy)) ⟨dX, dnx, dcx, dY, dny, dcy⟩ ed fd) := (⟨own_other (own_other od.ox kq (hot1 _ (by decide))) kq2 (hot2 _ (by decide)), own_other (own_other od.oy kq (hot1 _ (by decide))) kq2 (hot2 _ (by decide)), fun e he => own_other (own_other (od.hs e he) kq (hot1 _ (by decide))) kq2 (hot2 _ (by decide)), fun e he => ownF_other (ownF_other (od.hf e he) kq (hot1 _ (by decide)) (hot1 _ (by decide))) kq2 (hot2 _ (by decide)) (hot2 _ (by decide))⟩ : OwnIm _ (fun k => w7.heap.size ≤ k) _ ed fd).im
    have HMC : Hid (gcs.map gsg = fs.map fun e => (e.2.ar, e.2.rs)) := by
      have h5 := congrArg (fun l => l.map fun f : F.Fu => (f.ar, f.rs)) (congrArg Im.fn HOE.out)
      show _ = _
      rw [mc]
      simpa [imOf, Function.comp_def] using h5
    have HMD : Hid (imOf ed fd = imOf es fs) := md.trans HOE.out
    have HSD := Lib.hid (smI_same HIA.out.i0 HSM.out od.im HMD.out)
    have HLC : Hid (gcs.length = ony) := by
      have h5 : gcs.length * 2 = ony * 2 := by rw [← gvs_length]; exact oc.1.1
      show _ = _
      omega
    have HSC : Hid (∀ e ∈ gcs, e.1.2.length ≤ 1000 ∧ e.2.2.length ≤ 1000) := fun e he => by
      have hm : gsg e ∈ fs.map fun e => (e.2.ar, e.2.rs) := by rw [← HMC.out]; exact List.mem_map.2 ⟨e, he, rfl⟩
      obtain ⟨q, hq, hqe⟩ := List.mem_map.1 hm
      have hf := HIA.out.i0.hf q hq
      have hsq := HSM.out.fn q hq
      have h1 : q.2.ar = e.1.2 := congrArg Prod.fst hqe
      have h2 : q.2.rs = e.2.2 := congrArg Prod.snd hqe
      have := hf.la; have := hf.lb; have := hsq.na; have := hsq.nb
      rw [h1] at *
      rw [h2] at *
      omega
    have HSN : Hid (∀ e ∈ gcs, e.1.1.n ≤ 1000) := fun e he => by have := F.own_len (ocs e he).a; have := (HSC.out e he).1; omega
    have HLD := Lib.hid (And.intro od.im.lx od.im.ly)
    have hdd : ony = ny ∧ onx = nx := by
      have a1 := HLO.out; have a2 := HLN.out
      have h5 : eo.length = es.length := by have := congrArg (fun p => p.sh.length) HOE.out; simpa [imOf] using this
      have h6 : fo.length = fs.length := by have := congrArg (fun p => p.fn.length) HOE.out; simpa [imOf] using this
      obtain ⟨a3, a4⟩ := a1
      obtain ⟨_, a5, a6⟩ := a2
      try dsimp only at a3 a4 a5 a6
      omega
    obtain ⟨rfl, rfl⟩ := hdd
    clear hA hF ha e48 e50 e12 e13 bc bd oc ocs mc od md hbc2 kq hbd1 hbd2 kq2 hot1 hot2 gK hgc hgd HCX HCY
    simp only [List.drop_succ_cons, List.drop_zero]
    go_wp2_with fail
    clear t0 t1 s0 s1 ft fs2 ltc ltd
    generalize ((((w'.setCell ⟨gc, 0, none⟩ (.slice Xc ony cxc)).setCell ⟨gc, 1, none⟩ (.int .i64 (onx : Int))).setCell ⟨gd, 0, none⟩ (.slice dX dnx dcx)).setCell ⟨gd, 1, none⟩ (.slice dY dny dcy)) = wA at *
    have F8 := HIA.out.keep HSP.out.kp (fun k h1 h2 => by omega)
    have HF8 := Lib.hid F8
    clear F8 p0 p1 x0 x1 y0 y1
    obtain ⟨p0, p1⟩ := blk2 (v := ⟨X, onx, cx, Y, ony, cy⟩) HF8.out.k0
    obtain ⟨x0, x1⟩ := blk2 (v := ⟨X2, nx2, cx2, Y2, ny2, cy2⟩) HF8.out.k1
    obtain ⟨y0, y1⟩ := blk2 (v := ⟨oX, onx, ocx, oY, ony, ocy⟩) HF8.out.k2
    obtain ⟨z0, z1⟩ := blk2 (v := ⟨dX, dnx, dcx, dY, dny, dcy⟩) HSP.out.bd
    have c0 : wA.cell? ⟨gc, 0, none⟩ = some (.slice Xc ony cxc) := HSP.out.bc.cell 0
    have c1 : wA.cell? ⟨gc, 1, none⟩ = some (.int .i64 (onx : Int)) := HSP.out.bc.cell 1
    try dsimp only at p0 p1 x0 x1 y0 y1 z0 z1
    obtain ⟨sm, hsm⟩ : ∃ sm, sameI (imOf es fs) (imOf gs hs) = sm := ⟨_, rfl⟩
    have HSMB := Lib.hid hsm
    clear hsm
    refine wp_region_props6 (fun i => [51, 52, 53, 54, 55, 56, 57, 58, 59, 60, 61, 62, 63, 64, 65, 66, 67, 68, 69, 70, 71, 72, 73, 74, 75, 76, 77, 78, 79, 80].getD i 0) 9999 (NoB) (fun _ => false) (by kernel_rfl) (by kernel_rfl) (by kernel_rfl) (SA7 ⟨X, onx, cx, Y, ony, cy⟩ ⟨X2, nx2, cx2, Y2, ny2, cy2⟩ ⟨oX, onx, ocx, oY, ony, ocy⟩ ⟨dX, dnx, dcx, dY, dny, dcy⟩ fN fE Xc ony cxc onx fs sm) (fun i u x y _ _ _ h hk => SA7_stable _ _ _ _ _ _ _ _ _ _ _ _ i u x y h (hk.mono (fun _ hf _ => hf))) (fun i u x y _ h hk => SA7_stable _ _ _ _ _ _ _ _ _ _ _ _ i u x y h hk) rfl ?step ?spec ?fin
    case step =>
      intro i o a w' hoo hic hF hK hA
      have hi : i < 30 := by simpa using (Array.getElem?_eq_some_iff.1 hoo).1
      by_cases h0 : i = 0
      · subst h0
        simp only [List.getElem?_toArray, List.getElem?_cons_zero, Option.some.injEq] at hoo
        subst hoo
        have e8 : a.tmps.getD 8 undef = .int .i64 fN := hF.2.2 8 (by decide)
        refine Does.plain rfl ?_
        unfold yieldsK
        go_simp
        exact ⟨rfl, Keep.refl _ _⟩
      by_cases h1 : i = 1
      · subst h1
        simp only [List.getElem?_toArray, List.getElem?_cons_zero, List.getElem?_cons_succ, Option.some.injEq] at hoo
        subst hoo
        have e10 : a.tmps.getD 10 undef = .int .i64 fN := hF.2.2 10 (by decide)
        refine Does.plain rfl ?_
        unfold yieldsK
        go_simp
        exact ⟨rfl, Keep.refl _ _⟩
      by_cases h2 : i = 2
      · subst h2
        simp only [List.getElem?_toArray, List.getElem?_cons_zero, List.getElem?_cons_succ, Option.some.injEq] at hoo
        subst hoo
        have e51 : a.tmps.getD 51 undef = .int .i64 fN := hA ⟨0, .data⟩ (by simp) rfl
        have e52 : a.tmps.getD 52 undef = .int .i64 fN := hA ⟨1, .data⟩ (by simp) rfl
        refine Does.plain rfl ?_
        unfold yieldsK
        go_simp
        exact ⟨rfl, Keep.refl _ _⟩
      by_cases h3 : i = 3
      · subst h3
        simp only [List.getElem?_toArray, List.getElem?_cons_zero, List.getElem?_cons_succ, Option.some.injEq] at hoo
        subst hoo
        have e53 : a.tmps.getD 53 undef = .bool false := hA ⟨2, .data⟩ (by simp) rfl
        refine Does.plain rfl ?_
        unfold yieldsK
        go_simp
        exact ⟨rfl, Keep.refl _ _⟩
      by_cases h4 : i = 4
      · subst h4
        simp only [List.getElem?_toArray, List.getElem?_cons_zero, List.getElem?_cons_succ, Option.some.injEq] at hoo
        subst hoo
        have e9 : a.tmps.getD 9 undef = .int .i64 fE := hF.2.2 9 (by decide)
        refine Does.yes (j := 3) (d := 54) (want := false) rfl rfl (hA ⟨3, .guard⟩ (by simp) rfl) ?_
        unfold yieldsK
        go_simp
        exact ⟨rfl, Keep.refl _ _⟩
      by_cases h5 : i = 5
      · subst h5
        simp only [List.getElem?_toArray, List.getElem?_cons_zero, List.getElem?_cons_succ, Option.some.injEq] at hoo
        subst hoo
        have e11 : a.tmps.getD 11 undef = .int .i64 fE := hF.2.2 11 (by decide)
        refine Does.yes (j := 3) (d := 54) (want := false) rfl rfl (hA ⟨3, .guard⟩ (by simp) rfl) ?_
        unfold yieldsK
        go_simp
        exact ⟨rfl, Keep.refl _ _⟩
      by_cases h6 : i = 6
      · subst h6
        simp only [List.getElem?_toArray, List.getElem?_cons_zero, List.getElem?_cons_succ, Option.some.injEq] at hoo
        subst hoo
        have e55 : a.tmps.getD 55 undef = .int .i64 fE := hA ⟨4, .data⟩ (by simp) rfl
        have e56 : a.tmps.getD 56 undef = .int .i64 fE := hA ⟨5, .data⟩ (by simp) rfl
        refine Does.yes (j := 3) (d := 54) (want := false) rfl rfl (hA ⟨3, .guard⟩ (by simp) rfl) ?_
        unfold yieldsK
        go_simp
        exact ⟨rfl, Keep.refl _ _⟩
      by_cases h7 : i = 7
      · subst h7
        simp only [List.getElem?_toArray, List.getElem?_cons_zero, List.getElem?_cons_succ, Option.some.injEq] at hoo
        subst hoo
        have e54 : a.tmps.getD 54 undef = .bool false := hA ⟨3, .data⟩ (by simp) rfl
        have e57 : a.tmps.getD 57 undef = .bool false := hA ⟨6, .data⟩ (by simp) rfl
        refine Does.plain rfl ?_
        unfold yieldsK
        go_simp
        exact ⟨rfl, Keep.refl _ _⟩
      by_cases h8 : i = 8
      · subst h8
        simp only [List.getElem?_toArray, List.getElem?_cons_zero, List.getElem?_cons_succ, Option.some.injEq] at hoo
        subst hoo
        have e58 : a.tmps.getD 58 undef = .bool false := hA ⟨7, .data⟩ (by simp) rfl
        refine Does.plain rfl ?_
        unfold yieldsK
        go_simp
        exact ⟨rfl, Keep.refl _ _⟩
      by_cases h9 : i = 9
      · subst h9
        simp only [List.getElem?_toArray, List.getElem?_cons_zero, List.getElem?_cons_succ, Option.some.injEq] at hoo
        subst hoo
        have e12 : a.tmps.getD 12 undef = .pointer (some ⟨gc, 0, none⟩) := hF.2.2 12 (by decide)
        have q0 := Keep.cell hK c0 id
        have q1 := Keep.cell hK c1 id
        refine Does.yes (j := 8) (d := 59) (want := false) rfl rfl (hA ⟨8, .guard⟩ (by simp) rfl) ?_
        unfold yieldsK
        go_simp
        exact ⟨rfl, Keep.refl _ _⟩
      by_cases h10 : i = 10
      · subst h10
        simp only [List.getElem?_toArray, List.getElem?_cons_zero, List.getElem?_cons_succ, Option.some.injEq] at hoo
        subst hoo
        have e3 : a.tmps.getD 3 undef = .pointer (some ⟨w.heap.size, 0, none⟩) := hF.2.2 3 (by decide)
        have q0 := Keep.cell hK p0 id
        have q1 := Keep.cell hK p1 id
        refine Does.yes (j := 8) (d := 59) (want := false) rfl rfl (hA ⟨8, .guard⟩ (by simp) rfl) ?_
        unfold yieldsK
        go_simp
        exact ⟨rfl, Keep.refl _ _⟩
      by_cases h11 : i = 11
      · subst h11
        simp only [List.getElem?_toArray, List.getElem?_cons_zero, List.getElem?_cons_succ, Option.some.injEq] at hoo
        subst hoo
        have e61 : a.tmps.getD 61 undef = .agg #[.slice X onx cx, .slice Y ony cy] := hA ⟨10, .data⟩ (by simp) rfl
        refine Does.yes (j := 8) (d := 59) (want := false) rfl rfl (hA ⟨8, .guard⟩ (by simp) rfl) ?_
        unfold yieldsK
        go_simp
        refine (rcontext_any ⟨X, onx, cx, Y, ony, cy⟩ es fs w' (HF8.out.i0.keepN hK) HSM.out).mono ?_
        rintro e w9 ⟨X9, c9, g9, rfl, h9, h9s, h9m, hk9⟩
        exact ⟨_, rfl, ⟨X9, c9, g9, rfl, F.own_rdS h9, fun e he => (h9s e he).gat, h9m⟩, hk9⟩
      by_cases h12 : i = 12
      · subst h12
        simp only [List.getElem?_toArray, List.getElem?_cons_zero, List.getElem?_cons_succ, Option.some.injEq] at hoo
        subst hoo
        have e60 : a.tmps.getD 60 undef = .agg #[.slice Xc ony cxc, .int .i64 (onx : Int)] := hA ⟨9, .data⟩ (by simp) rfl
        obtain ⟨X9, c9, g9, e62, h9, h9s, h9m⟩ := hA ⟨11, .data⟩ (by simp) rfl
        have e62 : a.tmps.getD 62 undef = .agg #[.slice X9 ony c9, .int .i64 (onx : Int)] := e62
        refine Does.yes (j := 8) (d := 59) (want := false) rfl rfl (hA ⟨8, .guard⟩ (by simp) rfl) ?_
        unfold yieldsK
        simp only [Array.getD_eq_getD_getElem?] at e62
        go_simp
        refine (rcontexts_any Xc X9 gcs g9 ony cxc c9 onx w' ((F.own_rdS HSP.out.rc).keepN hK) h9 (fun e he => (HGA.out e he).keepN hK) h9s HLC.out (HMC.out.trans h9m.symm) (by have := HLO.out.2; have := HSO.out.nf; dsimp only at *; omega) HSC.out).mono ?_
        rintro e w9 ⟨rfl, h9⟩
        exact ⟨_, rfl, rfl, h9⟩
      by_cases h13 : i = 13
      · subst h13
        simp only [List.getElem?_toArray, List.getElem?_cons_zero, List.getElem?_cons_succ, Option.some.injEq] at hoo
        subst hoo
        have e63 : a.tmps.getD 63 undef = .bool true := hA ⟨12, .data⟩ (by simp) rfl
        refine Does.yes (j := 8) (d := 59) (want := false) rfl rfl (hA ⟨8, .guard⟩ (by simp) rfl) ?_
        unfold yieldsK
        go_simp
        exact ⟨rfl, Keep.refl _ _⟩
      by_cases h14 : i = 14
      · subst h14
        simp only [List.getElem?_toArray, List.getElem?_cons_zero, List.getElem?_cons_succ, Option.some.injEq] at hoo
        subst hoo
        have e59 : a.tmps.getD 59 undef = .bool false := hA ⟨8, .data⟩ (by simp) rfl
        have e64 : a.tmps.getD 64 undef = .bool false := hA ⟨13, .data⟩ (by simp) rfl
        refine Does.plain rfl ?_
        unfold yieldsK
        go_simp
        exact ⟨rfl, Keep.refl _ _⟩
      by_cases h15 : i = 15
      · subst h15
        simp only [List.getElem?_toArray, List.getElem?_cons_zero, List.getElem?_cons_succ, Option.some.injEq] at hoo
        subst hoo
        have e65 : a.tmps.getD 65 undef = .bool false := hA ⟨14, .data⟩ (by simp) rfl
        refine Does.plain rfl ?_
        unfold yieldsK
        go_simp
        exact ⟨rfl, Keep.refl _ _⟩
      by_cases h16 : i = 16
      · subst h16
        simp only [List.getElem?_toArray, List.getElem?_cons_zero, List.getElem?_cons_succ, Option.some.injEq] at hoo
        subst hoo
        have e7 : a.tmps.getD 7 undef = .pointer (some ⟨w4.heap.size, 0, none⟩) := hF.2.2 7 (by decide)
        have q0 := Keep.cell hK y0 id
        have q1 := Keep.cell hK y1 id
        refine Does.yes (j := 15) (d := 66) (want := false) rfl rfl (hA ⟨15, .guard⟩ (by simp) rfl) ?_
        unfold yieldsK
        go_simp
        exact ⟨rfl, Keep.refl _ _⟩
      by_cases h17 : i = 17
      · subst h17
        simp only [List.getElem?_toArray, List.getElem?_cons_zero, List.getElem?_cons_succ, Option.some.injEq] at hoo
        subst hoo
        have e4 : a.tmps.getD 4 undef = .pointer (some ⟨w.heap.size + 1, 0, none⟩) := hF.2.2 4 (by decide)
        have q0 := Keep.cell hK x0 id
        have q1 := Keep.cell hK x1 id
        refine Does.yes (j := 15) (d := 66) (want := false) rfl rfl (hA ⟨15, .guard⟩ (by simp) rfl) ?_
        unfold yieldsK
        go_simp
        exact ⟨rfl, Keep.refl _ _⟩
      by_cases h18 : i = 18
      · subst h18
        simp only [List.getElem?_toArray, List.getElem?_cons_zero, List.getElem?_cons_succ, Option.some.injEq] at hoo
        subst hoo
        have e67 : a.tmps.getD 67 undef = .agg #[.slice oX onx ocx, .slice oY ony ocy] := hA ⟨16, .data⟩ (by simp) rfl
        have e68 : a.tmps.getD 68 undef = .agg #[.slice X2 nx2 cx2, .slice Y2 ny2 cy2] := hA ⟨17, .data⟩ (by simp) rfl
        refine Does.yes (j := 15) (d := 66) (want := false) rfl rfl (hA ⟨15, .guard⟩ (by simp) rfl) ?_
        unfold yieldsK
        go_simp
        refine (same_any ⟨oX, onx, ocx, oY, ony, ocy⟩ ⟨X2, nx2, cx2, Y2, ny2, cy2⟩ eo gs fo hs w' (HF8.out.i2.keepN hK) (HF8.out.i1.keepN hK) HSO.out HSU.out).mono ?_
        rw [HOE.out, HSMB.out]
        rintro e w9 ⟨rfl, h9⟩
        exact ⟨_, rfl, rfl, h9⟩
      by_cases h19 : i = 19
      · subst h19
        simp only [List.getElem?_toArray, List.getElem?_cons_zero, List.getElem?_cons_succ, Option.some.injEq] at hoo
        subst hoo
        have e3 : a.tmps.getD 3 undef = .pointer (some ⟨w.heap.size, 0, none⟩) := hF.2.2 3 (by decide)
        have q0 := Keep.cell hK p0 id
        have q1 := Keep.cell hK p1 id
        refine Does.yes (j := 15) (d := 66) (want := false) rfl rfl (hA ⟨15, .guard⟩ (by simp) rfl) ?_
        unfold yieldsK
        go_simp
        exact ⟨rfl, Keep.refl _ _⟩
      by_cases h20 : i = 20
      · subst h20
        simp only [List.getElem?_toArray, List.getElem?_cons_zero, List.getElem?_cons_succ, Option.some.injEq] at hoo
        subst hoo
        have e4 : a.tmps.getD 4 undef = .pointer (some ⟨w.heap.size + 1, 0, none⟩) := hF.2.2 4 (by decide)
        have q0 := Keep.cell hK x0 id
        have q1 := Keep.cell hK x1 id
        refine Does.yes (j := 15) (d := 66) (want := false) rfl rfl (hA ⟨15, .guard⟩ (by simp) rfl) ?_
        unfold yieldsK
        go_simp
        exact ⟨rfl, Keep.refl _ _⟩
      by_cases h21 : i = 21
      · subst h21
        simp only [List.getElem?_toArray, List.getElem?_cons_zero, List.getElem?_cons_succ, Option.some.injEq] at hoo
        subst hoo
        have e70 : a.tmps.getD 70 undef = .agg #[.slice X onx cx, .slice Y ony cy] := hA ⟨19, .data⟩ (by simp) rfl
        have e71 : a.tmps.getD 71 undef = .agg #[.slice X2 nx2 cx2, .slice Y2 ny2 cy2] := hA ⟨20, .data⟩ (by simp) rfl
        refine Does.yes (j := 15) (d := 66) (want := false) rfl rfl (hA ⟨15, .guard⟩ (by simp) rfl) ?_
        unfold yieldsK
        go_simp
        refine (rsame_any ⟨X, onx, cx, Y, ony, cy⟩ ⟨X2, nx2, cx2, Y2, ny2, cy2⟩ es gs fs hs w' (HF8.out.i0.keepN hK) (HF8.out.i1.keepN hK) HSM.out HSU.out).mono ?_
        rw [HSMB.out]
        rintro e w9 ⟨rfl, h9⟩
        exact ⟨_, rfl, rfl, h9⟩
      by_cases h22 : i = 22
      · subst h22
        simp only [List.getElem?_toArray, List.getElem?_cons_zero, List.getElem?_cons_succ, Option.some.injEq] at hoo
        subst hoo
        have e69 : a.tmps.getD 69 undef = .bool sm := hA ⟨18, .data⟩ (by simp) rfl
        have e72 : a.tmps.getD 72 undef = .bool sm := hA ⟨21, .data⟩ (by simp) rfl
        refine Does.yes (j := 15) (d := 66) (want := false) rfl rfl (hA ⟨15, .guard⟩ (by simp) rfl) ?_
        unfold yieldsK
        go_simp
        exact ⟨rfl, Keep.refl _ _⟩
      by_cases h23 : i = 23
      · subst h23
        simp only [List.getElem?_toArray, List.getElem?_cons_zero, List.getElem?_cons_succ, Option.some.injEq] at hoo
        subst hoo
        have e66 : a.tmps.getD 66 undef = .bool false := hA ⟨15, .data⟩ (by simp) rfl
        have e73 : a.tmps.getD 73 undef = .bool false := hA ⟨22, .data⟩ (by simp) rfl
        refine Does.plain rfl ?_
        unfold yieldsK
        go_simp
        exact ⟨rfl, Keep.refl _ _⟩
      by_cases h24 : i = 24
      · subst h24
        simp only [List.getElem?_toArray, List.getElem?_cons_zero, List.getElem?_cons_succ, Option.some.injEq] at hoo
        subst hoo
        have e74 : a.tmps.getD 74 undef = .bool false := hA ⟨23, .data⟩ (by simp) rfl
        refine Does.plain rfl ?_
        unfold yieldsK
        go_simp
        exact ⟨rfl, Keep.refl _ _⟩
      by_cases h25 : i = 25
      · subst h25
        simp only [List.getElem?_toArray, List.getElem?_cons_zero, List.getElem?_cons_succ, Option.some.injEq] at hoo
        subst hoo
        have e13 : a.tmps.getD 13 undef = .pointer (some ⟨gd, 0, none⟩) := hF.2.2 13 (by decide)
        have q0 := Keep.cell hK z0 id
        have q1 := Keep.cell hK z1 id
        refine Does.yes (j := 24) (d := 75) (want := false) rfl rfl (hA ⟨24, .guard⟩ (by simp) rfl) ?_
        unfold yieldsK
        go_simp
        exact ⟨rfl, Keep.refl _ _⟩
      by_cases h26 : i = 26
      · subst h26
        simp only [List.getElem?_toArray, List.getElem?_cons_zero, List.getElem?_cons_succ, Option.some.injEq] at hoo
        subst hoo
        have e3 : a.tmps.getD 3 undef = .pointer (some ⟨w.heap.size, 0, none⟩) := hF.2.2 3 (by decide)
        have q0 := Keep.cell hK p0 id
        have q1 := Keep.cell hK p1 id
        refine Does.yes (j := 24) (d := 75) (want := false) rfl rfl (hA ⟨24, .guard⟩ (by simp) rfl) ?_
        unfold yieldsK
        go_simp
        exact ⟨rfl, Keep.refl _ _⟩
      by_cases h27 : i = 27
      · subst h27
        simp only [List.getElem?_toArray, List.getElem?_cons_zero, List.getElem?_cons_succ, Option.some.injEq] at hoo
        subst hoo
        have e76 : a.tmps.getD 76 undef = .agg #[.slice dX dnx dcx, .slice dY dny dcy] := hA ⟨25, .data⟩ (by simp) rfl
        have e77 : a.tmps.getD 77 undef = .agg #[.slice X onx cx, .slice Y ony cy] := hA ⟨26, .data⟩ (by simp) rfl
        refine Does.yes (j := 24) (d := 75) (want := false) rfl rfl (hA ⟨24, .guard⟩ (by simp) rfl) ?_
        unfold yieldsK
        go_simp
        refine (rsame_any ⟨dX, dnx, dcx, dY, dny, dcy⟩ ⟨X, onx, cx, Y, ony, cy⟩ ed es fd fs w' (HDI.out.keepN hK) (HF8.out.i0.keepN hK) HSD.out HSM.out).mono ?_
        rw [HMD.out, same_self]
        rintro e w9 ⟨rfl, h9⟩
        exact ⟨_, rfl, rfl, h9⟩
      by_cases h28 : i = 28
      · subst h28
        simp only [List.getElem?_toArray, List.getElem?_cons_zero, List.getElem?_cons_succ, Option.some.injEq] at hoo
        subst hoo
        have e78 : a.tmps.getD 78 undef = .bool true := hA ⟨27, .data⟩ (by simp) rfl
        refine Does.yes (j := 24) (d := 75) (want := false) rfl rfl (hA ⟨24, .guard⟩ (by simp) rfl) ?_
        unfold yieldsK
        go_simp
        exact ⟨rfl, Keep.refl _ _⟩
      by_cases h29 : i = 29
      · subst h29
        simp only [List.getElem?_toArray, List.getElem?_cons_zero, List.getElem?_cons_succ, Option.some.injEq] at hoo
        subst hoo
        have e75 : a.tmps.getD 75 undef = .bool false := hA ⟨24, .data⟩ (by simp) rfl
        have e79 : a.tmps.getD 79 undef = .bool false := hA ⟨28, .data⟩ (by simp) rfl
        refine Does.plain rfl ?_
        unfold yieldsK
        go_simp
        exact ⟨rfl, Keep.refl _ _⟩
      omega
    case spec =>
      intro o a w' hoo
      simp at hoo
    case fin =>
      intro a w' hF gK hA
      have e80 : a.tmps.getD 80 undef = .bool false := hA 29 (by decide)
      have ha := frameD_list (l := [51, 52, 53, 54, 55, 56, 57, 58, 59, 60, 61, 62, 63, 64, 65, 66, 67, 68, 69, 70, 71, 72, 73, 74, 75, 76, 77, 78, 79, 80]) rfl hF
      rw [ha]
      simp only [List.map_cons, List.map_nil, e80]
      generalize a.tmps.getD 51 undef = u0
      generalize a.tmps.getD 52 undef = u1
      generalize a.tmps.getD 53 undef = u2
      generalize a.tmps.getD 54 undef = u3
      generalize a.tmps.getD 55 undef = u4
      generalize a.tmps.getD 56 undef = u5
      generalize a.tmps.getD 57 undef = u6
      generalize a.tmps.getD 58 undef = u7
      generalize a.tmps.getD 59 undef = u8
      generalize a.tmps.getD 60 undef = u9
      generalize a.tmps.getD 61 undef = u10
      generalize a.tmps.getD 62 undef = u11
      generalize a.tmps.getD 63 undef = u12
      generalize a.tmps.getD 64 undef = u13
      generalize a.tmps.getD 65 undef = u14
      generalize a.tmps.getD 66 undef = u15
      generalize a.tmps.getD 67 undef = u16
      generalize a.tmps.getD 68 undef = u17
      generalize a.tmps.getD 69 undef = u18
      generalize a.tmps.getD 70 undef = u19
      generalize a.tmps.getD 71 undef = u20
      generalize a.tmps.getD 72 undef = u21
      generalize a.tmps.getD 73 undef = u22
      generalize a.tmps.getD 74 undef = u23
      generalize a.tmps.getD 75 undef = u24
      generalize a.tmps.getD 76 undef = u25
      generalize a.tmps.getD 77 undef = u26
      generalize a.tmps.getD 78 undef = u27
      generalize a.tmps.getD 79 undef = u28
      simp only [fillD, List.setIfInBounds_toArray, List.set_cons_zero, List.set_cons_succ]
      have HQ : Hid (SpQ w7 w' gc gd Xc ony cxc (onx : Int) gcs ⟨dX, dnx, dcx, dY, dny, dcy⟩ ed fd) := ⟨HSP.out.kp.trans (gK.mono (fun _ hf _ => hf.elim)) (fun _ h _ => h), HSP.out.bc.keep gK id, HSP.out.bd.keep gK id, HSP.out.rc.keepN gK, HSP.out.rs.keepN gK, HSP.out.rf.keepN gK, fun e he => (HSP.out.wc e he).keep gK (fun _ _ _ => id), fun e he => (HSP.out.ws e he).keep gK (fun _ _ _ => id), fun e he => (HSP.out.wf e he).keep gK (fun _ _ _ => id)⟩
      have hs0 : w'.cell? ⟨gc, 0, none⟩ = some (.slice Xc ony cxc) := HQ.out.bc.cell 0
      have hb1 : ony ≤ 1000 := by have := HLO.out.2; have := HSO.out.nf; omega
      have hb2 : dnx ≤ 1000 := by have := HLD.out.1; have := HSD.out.ns; dsimp only at *; omega
      have hb3 : dny ≤ 1000 := by have := HLD.out.2; have := HSD.out.nf; dsimp only at *; omega
      clear hA hF ha e80 HSP HGA HDI HF8 HMC HMD HSMB p0 p1 x0 x1 y0 y1 z0 z1 c0 c1 gK HSC HSU
      go_wp2_with fail
      go_loopw [84] (fun i wr => ∃ k : Nat, k ≤ ony ∧ i = .int .i64 k ∧ Hid (SpQ w7 wr gc gd Xc ony cxc (onx : Int) gcs ⟨dX, dnx, dcx, dY, dny, dcy⟩ ed fd)) (fun i _ => ony - (intOf i).toNat)
      case atStart => exact ⟨0, Nat.zero_le _, rfl, HQ.out⟩
      case round =>
        obtain ⟨i, hin, rfl, HR⟩ := hrel
        clear HQ hs0
        obtain ⟨wo, hwo⟩ : ∃ wo, wo = wr := ⟨_, rfl⟩
        subst hwo
        have c0 : wo.cell? ⟨gc, 0, none⟩ = some (.slice Xc ony cxc) := HR.out.bc.cell 0
        by_cases hlt : i < ony
        · have hil : i < gcs.length := by have := HLC.out; (try dsimp only at this); omega
          obtain ⟨g, off, eX0, d0, d1⟩ := sig_at (F.own_rdS HR.out.rc) hil
          have eX : Xc = some ⟨g, off, none⟩ := eX0
          clear eX0
          rw [eX] at c0
          have HEX := Lib.hid eX
          clear eX
          have hm := List.getElem_mem hil
          have hsz : _ ≤ _ := HSN.out _ hm
          generalize he : gcs[i] = e at *
          obtain ⟨⟨⟨A1, n1, c1⟩, l1⟩, ⟨⟨A2, n2, c2⟩, l2⟩⟩ := e
          dsimp only at *
          go_wp2_with fail
          go_loopw [94] (fun i wr => ∃ k : Nat, k ≤ n1 ∧ i = .int .i64 k ∧ Hid (SpQ w7 wr gc gd Xc ony cxc (onx : Int) gcs ⟨dX, dnx, dcx, dY, dny, dcy⟩ ed fd)) (fun i _ => n1 - (intOf i).toNat)
          case atStart => exact ⟨0, Nat.zero_le _, rfl, HR.out⟩
          case round =>
            obtain ⟨k, hk, rfl, HR2⟩ := hrel
            clear c0 d0 d1 HR
            have c0 : wr.cell? ⟨gc, 0, none⟩ = some (.slice Xc ony cxc) := HR2.out.bc.cell 0
            obtain ⟨g2, off2, eg0, d0, d1⟩ := sig_at (F.own_rdS HR2.out.rc) hil
            have eg : Xc = some ⟨g2, off2, none⟩ := eg0
            clear eg0
            rw [HEX.out] at c0 eg
            injection eg with eg
            injection eg with eg1 eg2
            subst eg1 eg2
            simp only [he] at d0 d1
            by_cases hlt2 : k < n1
            · obtain ⟨h9, rfl, hg9, cur, hb, hc⟩ := HR2.out.wc _ hm (by dsimp only; omega)
              obtain ⟨t, ht⟩ := hc k hlt2
              rw [Nat.mul_one] at ht
              have cx : wr.cell? ⟨h9, k, none⟩ = some (.int .i64 t) := (hb.cell _).trans ht
              have hf := fun i => hb.frozen i
              have hbl := hb.lt
              have HA : Hid (∀ z : Int, SpQ w7 (wr.setCell ⟨h9, k, none⟩ (.int .i64 z)) gc gd Xc ony cxc (onx : Int) gcs ⟨dX, dnx, dcx, dY, dny, dcy⟩ ed fd) := fun z => HR2.out.put hg9 hb (.inl rfl) _ z
              clear hb hc ht HR2
              go_wp2
              go_roundw
              case rel => exact ⟨k + 1, by omega, by go_num, HA.out _⟩
              case measure => simp [intOf]; omega
            · obtain rfl : k = n1 := by omega
              clear c0 d0 d1
              go_wp2
              go_roundw
              case rel => exact ⟨i + 1, by omega, by go_num, HR2.out⟩
              case measure => simp [intOf]; omega
        · obtain rfl : ony = i := by omega
          have HQ := HR
          clear HR
          have c1 : wo.cell? ⟨gd, 0, none⟩ = some (.slice dX dnx dcx) := HQ.out.bd.cell 0
          go_wp2_with fail
          clear c0
          have hs0 := c1
          clear c1
          go_loopw [110] (fun i wr => ∃ k : Nat, k ≤ dnx ∧ i = .int .i64 k ∧ Hid (SpQ w7 wr gc gd Xc ony cxc (onx : Int) gcs ⟨dX, dnx, dcx, dY, dny, dcy⟩ ed fd)) (fun i _ => dnx - (intOf i).toNat)
          case atStart => exact ⟨0, Nat.zero_le _, rfl, HQ.out⟩
          case round =>
            obtain ⟨i, hin, rfl, HR⟩ := hrel
            clear HQ hs0
            obtain ⟨wo, hwo⟩ : ∃ wo, wo = wr := ⟨_, rfl⟩
            subst hwo
            have c0 : wo.cell? ⟨gd, 0, none⟩ = some (.slice dX dnx dcx) := HR.out.bd.cell 0
            by_cases hlt : i < dnx
            · have hil : i < ed.length := by have := HLD.out.1; (try dsimp only at this); omega
              obtain ⟨g, off, eX0, d0⟩ := shape_at (F.own_rdS HR.out.rs) hil
              have eX : dX = some ⟨g, off, none⟩ := eX0
              clear eX0
              rw [eX] at c0
              have HEX := Lib.hid eX
              clear eX
              have hm := List.getElem_mem hil
              have hsz : _ ≤ _ := HSD.out.sh _ hm
              generalize he : ed[i] = e at *
              obtain ⟨⟨A1, n1, c1⟩, l1⟩ := e
              dsimp only at *
              go_wp2_with fail
              go_loopw [119] (fun i wr => ∃ k : Nat, k ≤ n1 ∧ i = .int .i64 k ∧ Hid (SpQ w7 wr gc gd Xc ony cxc (onx : Int) gcs ⟨dX, dnx, dcx, dY, dny, dcy⟩ ed fd)) (fun i _ => n1 - (intOf i).toNat)
              case atStart => exact ⟨0, Nat.zero_le _, rfl, HR.out⟩
              case round =>
                obtain ⟨k, hk, rfl, HR2⟩ := hrel
                clear c0 d0 HR
                have c0 : wr.cell? ⟨gd, 0, none⟩ = some (.slice dX dnx dcx) := HR2.out.bd.cell 0
                obtain ⟨g2, off2, eg0, d0⟩ := shape_at (F.own_rdS HR2.out.rs) hil
                have eg : dX = some ⟨g2, off2, none⟩ := eg0
                clear eg0
                rw [HEX.out] at c0 eg
                injection eg with eg
                injection eg with eg1 eg2
                subst eg1 eg2
                simp only [he] at d0
                by_cases hlt2 : k < n1
                · obtain ⟨h9, rfl, hg9, cur, hb, hc⟩ := HR2.out.ws _ hm (by dsimp only; omega)
                  obtain ⟨t, ht⟩ := hc k hlt2
                  rw [Nat.mul_one] at ht
                  have cx : wr.cell? ⟨h9, k, none⟩ = some (.int .i64 t) := (hb.cell _).trans ht
                  have hf := fun i => hb.frozen i
                  have hbl := hb.lt
                  have HA : Hid (∀ z : Int, SpQ w7 (wr.setCell ⟨h9, k, none⟩ (.int .i64 z)) gc gd Xc ony cxc (onx : Int) gcs ⟨dX, dnx, dcx, dY, dny, dcy⟩ ed fd) := fun z => HR2.out.put hg9 hb (.inl rfl) _ z
                  clear hb hc ht HR2
                  go_wp2
                  go_roundw
                  case rel => exact ⟨k + 1, by omega, by go_num, HA.out _⟩
                  case measure => simp [intOf]; omega
                · obtain rfl : k = n1 := by omega
                  clear c0 d0
                  go_wp2
                  go_roundw
                  case rel => exact ⟨i + 1, by omega, by go_num, HR2.out⟩
                  case measure => simp [intOf]; omega
            · obtain rfl : dnx = i := by omega
              have HQ := HR
              clear HR
              have c1 : wo.cell? ⟨gd, 1, none⟩ = some (.slice dY dny dcy) := HQ.out.bd.cell 1
              go_wp2_with fail
              clear c0
              have hs0 := c1
              clear c1
              go_loopw [134] (fun i wr => ∃ k : Nat, k ≤ dny ∧ i = .int .i64 k ∧ Hid (SpQ w7 wr gc gd Xc ony cxc (onx : Int) gcs ⟨dX, dnx, dcx, dY, dny, dcy⟩ ed fd)) (fun i _ => dny - (intOf i).toNat)
              case atStart => exact ⟨0, Nat.zero_le _, rfl, HQ.out⟩
              case round =>
                obtain ⟨i, hin, rfl, HR⟩ := hrel
                clear HQ hs0
                obtain ⟨wo, hwo⟩ : ∃ wo, wo = wr := ⟨_, rfl⟩
                subst hwo
                have c0 : wo.cell? ⟨gd, 1, none⟩ = some (.slice dY dny dcy) := HR.out.bd.cell 1
                by_cases hlt : i < dny
                · have hil : i < fd.length := by have := HLD.out.2; (try dsimp only at this); omega
                  obtain ⟨g, off, eX0, d0, d1, d2, d3, d4⟩ := fun_at (F.own_rdS HR.out.rf) hil
                  have eX : dY = some ⟨g, off, none⟩ := eX0
                  clear eX0
                  rw [eX] at c0
                  have HEX := Lib.hid eX
                  clear eX
                  have hm := List.getElem_mem hil
                  have hsz : _ ≤ _ := (HSD.out.fn _ hm).nd
                  generalize he : fd[i] = e at *
                  obtain ⟨⟨S9, A9, na9, ca9, B9, nb9, cb9, L9, nl9, cl9, A1, n1, c1⟩, f9⟩ := e
                  dsimp only at *
                  go_wp2_with fail
                  go_loopw [144] (fun i wr => ∃ k : Nat, k ≤ n1 ∧ i = .int .i64 k ∧ Hid (SpQ w7 wr gc gd Xc ony cxc (onx : Int) gcs ⟨dX, dnx, dcx, dY, dny, dcy⟩ ed fd)) (fun i _ => n1 - (intOf i).toNat)
                  case atStart => exact ⟨0, Nat.zero_le _, rfl, HR.out⟩
                  case round =>
                    obtain ⟨k, hk, rfl, HR2⟩ := hrel
                    clear c0 d0 d1 d2 d3 d4 HR
                    have c0 : wr.cell? ⟨gd, 1, none⟩ = some (.slice dY dny dcy) := HR2.out.bd.cell 1
                    obtain ⟨g2, off2, eg0, d0, d1, d2, d3, d4⟩ := fun_at (F.own_rdS HR2.out.rf) hil
                    have eg : dY = some ⟨g2, off2, none⟩ := eg0
                    clear eg0
                    rw [HEX.out] at c0 eg
                    injection eg with eg
                    injection eg with eg1 eg2
                    subst eg1 eg2
                    simp only [he] at d0 d1 d2 d3 d4
                    by_cases hlt2 : k < n1
                    · obtain ⟨h9, rfl, hg9, cur, hb, hc⟩ := HR2.out.wf _ hm (by dsimp only; omega)
                      obtain ⟨t, ht⟩ := hc k hlt2
                      have cx : wr.cell? ⟨h9, k * 3, none⟩ = some (.int .i64 t) := (hb.cell _).trans ht
                      have hf := fun i => hb.frozen i
                      have hbl := hb.lt
                      have HA : Hid (∀ z : Int, SpQ w7 (wr.setCell ⟨h9, k * 3, none⟩ (.int .i64 z)) gc gd Xc ony cxc (onx : Int) gcs ⟨dX, dnx, dcx, dY, dny, dcy⟩ ed fd) := fun z => HR2.out.put hg9 hb (.inr rfl) _ z
                      clear hb hc ht HR2
                      go_wp2
                      go_roundw
                      case rel => exact ⟨k + 1, by omega, by go_num, HA.out _⟩
                      case measure => simp [intOf]; omega
                    · obtain rfl : k = n1 := by omega
                      clear c0 d0 d1 d2 d3 d4
                      go_wp2
                      go_roundw
                      case rel => exact ⟨i + 1, by omega, by go_num, HR2.out⟩
                      case measure => simp [intOf]; omega
                · obtain rfl : dny = i := by omega
                  have HQ := HR
                  clear HR
                  clear c0
                  have FX := HIA.out.keep HQ.out.kp (fun k h1 h2 => by omega)
                  have HKE := Lib.hid (HGK.out.trans HQ.out.kp (fun k hk hl => by have := HGK.out.size; omega))
                  obtain ⟨p0, p1⟩ := blk2 (v := ⟨X, onx, cx, Y, ony, cy⟩) FX.k0
                  obtain ⟨y0, y1⟩ := blk2 (v := ⟨oX, onx, ocx, oY, ony, ocy⟩) FX.k2
                  dsimp only at p0 p1 y0 y1
                  have HSF := Lib.hid (rsame_any ⟨oX, onx, ocx, oY, ony, ocy⟩ ⟨X, onx, cx, Y, ony, cy⟩ eo es fo fs _ FX.i2 FX.i0 HSO.out HSM.out)
                  rw [HOE.out, same_self] at HSF
                  clear FX HQ
                  go_wp2_with fail
                  refine HSF.out.mono ?_
                  rintro e w9 ⟨rfl, k9⟩
                  have HKF := Lib.hid (keepN HKE.out k9)
                  clear p0 p1 y0 y1 k9 HKE HSF
                  go_wp2
                  go_ret
                  exact ⟨rfl, HKF.out⟩

end Go.Proofs.YtgifflfjhockaaaGreatDoor.I
