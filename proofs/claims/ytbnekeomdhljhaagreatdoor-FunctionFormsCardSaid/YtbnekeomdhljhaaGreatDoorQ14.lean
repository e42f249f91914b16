/-
  Copies of functions: the program's and the document's. Conditions: the function's lists lie in memory, and are no longer than statements go through.
  A region that draws its order, whose last operations, from number m on, stand behind all that are ahead of them: the first ones are taken by what each of their values is, whatever the order (as in KProps5), the last ones in their order. No program, no conditions.
  The document's copy of a function. Conditions: the function's lists lie in memory, and are no longer than statements go through.
  What the law's spoil does: numbers of the lists of a function are written over, and nothing else. Conditions: the lists are rows of numbers that may be written, from block lo on.
  Are two functions the same: the program's Same and the document's. Conditions: the functions' lists lie in memory, and are no longer than statements go through.
-/
import Derived.Test.YtbnekeomdhljhaaGreatDoorQ10
import Derived.Test.YtbnekeomdhljhaaGreatDoorQ13
import Derived.Test.YtbnekeomdhljhaaGreatDoorQ6
import Derived.Test.YtbnekeomdhljhaaGreatDoorQ7
namespace Go.Proofs.YtbnekeomdhljhaaGreatDoor.F
open Go.RowKit W

theorem rd_older {w0 w w' : World} {O : Nat → Prop} {A : Option Addr} {xs : List Value} (h2 : Rd w0 A xs) (h1 : Rd w A xs) (hk : Keep O w w') (hO : ∀ k, k < w0.heap.size → ¬ O k) : Rd w' A xs := fun hx => by
  obtain ⟨g, off, e, hc⟩ := h2 hx
  obtain ⟨g', off', e', hc'⟩ := h1 hx
  rw [e] at e'
  injection e' with e'
  injection e' with e1 e2
  subst e1 e2
  refine ⟨g, off, e, fun j u hu => hk.cell (hc' j u hu) (fun ho => ?_)⟩
  have := World.block_lt_of_cell? w0 _ (hc j u hu)
  exact hO _ this ho
/-- How Copy ends. -/
def CpyR (w : World) (f : Fu) (e : Ending) (w' : World) : Prop := ∃ u, e = .returned (FV.val u) ∧ OwnF w' (Fresh w) u f ∧ Keep NoB w w'
theorem iis_one (l : List C.I3) : ∀ u ∈ C.iis l, u.oneCell' = true := by
  intro u hu
  obtain ⟨b, _, hb⟩ := List.mem_flatMap.1 hu
  simp only [List.mem_cons, List.not_mem_nil, or_false] at hb
  rcases hb with rfl | rfl | rfl <;> rfl
/-- What the values are that Copy's region yields. -/
def SP (v : FV) (f : Fu) (x m : Nat) : Nat → Value → World → Prop
  | 0 => fun u _ => u = .pointer (some ⟨x, 0, none⟩)
  | 1 => fun u _ => u = .string v.S
  | 2 => fun u _ => u = .pointer (some ⟨x, 1, none⟩)
  | 3 => fun u _ => u = .pointer (some ⟨x, 1, none⟩)
  | 4 => fun u _ => u = .slice v.A v.na v.ca
  | 5 => fun u w => ∃ A c, u = .slice A v.na c ∧ Own w 3 1 (fun k => m ≤ k) (.slice A v.na c) v.na (ivs f.ar)
  | 6 => fun u _ => u = .pointer (some ⟨x, 1, none⟩)
  | 7 => fun u _ => u = .pointer (some ⟨x, 2, none⟩)
  | 8 => fun u _ => u = .slice v.B v.nb v.cb
  | 9 => fun u w => ∃ A c, u = .slice A v.nb c ∧ Own w 3 1 (fun k => m ≤ k) (.slice A v.nb c) v.nb (ivs f.rs)
  | 10 => fun u w => ∃ A c B d, u = .agg #[.slice A v.na c, .slice B v.nb d] ∧ Own w 3 1 (fun k => m ≤ k) (.slice A v.na c) v.na (ivs f.ar) ∧ Own w 3 1 (fun k => m ≤ k) (.slice B v.nb d) v.nb (ivs f.rs)
  | 11 => fun u _ => u = .pointer (some ⟨x, 3, none⟩)
  | 12 => fun u _ => u = .slice v.L v.nl v.cl
  | 13 => fun u w => ∃ A c, u = .slice A v.nl c ∧ Own w 3 1 (fun k => m ≤ k) (.slice A v.nl c) v.nl (ivs f.lc)
  | 14 => fun u _ => u = .pointer (some ⟨x, 4, none⟩)
  | 15 => fun u _ => u = .slice v.D v.nd v.cd
  | 16 => fun u w => ∃ A c, u = .slice A v.nd c ∧ Own w 74 3 (fun k => m ≤ k) (.slice A v.nd c) v.nd (C.iis f.bd)
  | 17 => fun u w => ∃ z : FV, u = .agg z.cells ∧ OwnF w (fun k => m ≤ k) z f
  | 18 => fun _ w => ∃ z : FV, Blk w (x + 1) 27 z.cells ∧ OwnF w (fun k => m ≤ k) z f
  | _ => fun _ _ => True
theorem SP_stable1 (v : FV) (f : Fu) (x m : Nat) (O : Nat → Prop) (hO : ∀ k, m ≤ k → ¬ O k) : ∀ i u w w', i ≠ 18 → SP v f x m i u w → Keep O w w' → SP v f x m i u w'
  | 0, _, _, _, _, h, _ => h
  | 1, _, _, _, _, h, _ => h
  | 2, _, _, _, _, h, _ => h
  | 3, _, _, _, _, h, _ => h
  | 4, _, _, _, _, h, _ => h
  | 5, _, _, _, _, ⟨A, c, e, h⟩, hk => ⟨A, c, e, h.keep hk hO⟩
  | 6, _, _, _, _, h, _ => h
  | 7, _, _, _, _, h, _ => h
  | 8, _, _, _, _, h, _ => h
  | 9, _, _, _, _, ⟨A, c, e, h⟩, hk => ⟨A, c, e, h.keep hk hO⟩
  | 10, _, _, _, _, ⟨A, c, B, d, e, h1, h2⟩, hk => ⟨A, c, B, d, e, h1.keep hk hO, h2.keep hk hO⟩
  | 11, _, _, _, _, h, _ => h
  | 12, _, _, _, _, h, _ => h
  | 13, _, _, _, _, ⟨A, c, e, h⟩, hk => ⟨A, c, e, h.keep hk hO⟩
  | 14, _, _, _, _, h, _ => h
  | 15, _, _, _, _, h, _ => h
  | 16, _, _, _, _, ⟨A, c, e, h⟩, hk => ⟨A, c, e, h.keep hk hO⟩
  | 17, _, _, _, _, ⟨z, e, h⟩, hk => ⟨z, e, h.keep hk hO⟩
  | 18, _, _, _, h, _, _ => absurd rfl h
  | _ + 19, _, _, _, _, h, _ => h
theorem SP_stable2 (v : FV) (f : Fu) (x m : Nat) (i : Nat) (u : Value) (w w' : World) (h : SP v f x m i u w) (hk : Keep NoB w w') : SP v f x m i u w' := by
  by_cases e : i = 18
  · subst e
    obtain ⟨z, h1, h2⟩ := h
    exact ⟨z, h1.keep hk id, h2.keepN hk⟩
  · exact SP_stable1 v f x m NoB (fun _ _ => id) i u w w' e h hk
theorem ret_fun1 {fn : Func} {p : Tmp} {tmps : Array Value} {w : World} {g : Nat} {v : FV} (h : fn.results = #[.cell p 27]) (hp : tmps.getD p undef = .pointer (some ⟨g, 0, none⟩)) (hb : Blk w g 27 v.cells) :
    (results fn tmps).run Tryz.prog w = .ok v.val w := ret_fun h hp hb

set_option maxRecDepth 100000 in
set_option maxHeartbeats 8000000 in
theorem copyF_any (v : FV) (f : Fu) (w : World) (h : FnAt w v f) (hs : SmF v) :
    Calls Tryz.prog 15 #[v.val] w (CpyR w f) := by
  have bx := (Blk.new w 27 v.cells).alloc (.cells nilV.cells 27)
  have by0 := Blk.new (w.alloc (.cells v.cells 27)) 27 nilV.cells
  have k0 := ((Keep.refl NoB w).alloc (.cells v.cells 27)).alloc (.cells nilV.cells 27)
  rw [World.size_alloc] at by0
  have HF := Lib.hid (h.keepN k0)
  have hlo : w.heap.size + 2 ≤ ((w.alloc (.cells v.cells 27)).alloc (.cells nilV.cells 27)).heap.size := by simp
  obtain ⟨S, A, na, ca, B, nb, cb, L, nl, cl, D, nd, cd⟩ := v
  obtain ⟨q0, q1, q2, q3, q4⟩ := blk5 bx
  obtain ⟨p1, p2, p3, p4⟩ : na ≤ 100 ∧ nb ≤ 100 ∧ nl ≤ 100 ∧ nd ≤ 600 := ⟨hs.na, hs.nb, hs.nl, hs.nd⟩
  dsimp only [FV.val, FV.cells, nilV] at bx by0 k0 HF hlo q0 q1 q2 q3 q4 ⊢
  generalize hw1 : (w.alloc (.cells #[.string S, .slice A na ca, .slice B nb cb, .slice L nl cl, .slice D nd cd] 27)).alloc (.cells #[.string ⟨#[]⟩, .slice none 0 0, .slice none 0 0, .slice none 0 0, .slice none 0 0] 27) = w1 at bx by0 k0 HF hlo q0 q1 q2 q3 q4
  have HY := Lib.hid by0
  have h0 := h
  have HLar : Hid (∀ W, Keep (fun k => k = w.heap.size + 1) w1 W → Rd W A (ivs f.ar)) := fun W hW => rd_older h0.ra HF.out.ra hW (fun k hk e => by omega)
  have HLrs : Hid (∀ W, Keep (fun k => k = w.heap.size + 1) w1 W → Rd W B (ivs f.rs)) := fun W hW => rd_older h0.rb HF.out.rb hW (fun k hk e => by omega)
  have HLlc : Hid (∀ W, Keep (fun k => k = w.heap.size + 1) w1 W → Rd W L (ivs f.lc)) := fun W hW => rd_older h0.rl HF.out.rl hW (fun k hk e => by omega)
  have HLbd : Hid (∀ W, Keep (fun k => k = w.heap.size + 1) w1 W → Rd W D (C.iis f.bd)) := fun W hW => rd_older h0.rd HF.out.rd hW (fun k hk e => by omega)
  clear bx by0 hs h h0
  go_enter Tryz.func15, Tryz.ntmps15
  go_wp2_with fail
  clear hw1
  refine wp_region_props5 (fun i => [3, 4, 5, 6, 7, 8, 9, 10, 11, 12, 13, 14, 15, 16, 17, 18, 19, 20, 999].getD i 0) 18 (fun k => k = w.heap.size + 1) (fun _ => false) (by kernel_rfl) (by kernel_rfl) (by kernel_rfl) (SP ⟨S, A, na, ca, B, nb, cb, L, nl, cl, D, nd, cd⟩ f w.heap.size (w.heap.size + 2)) (fun i u x y h1 _ _ h hk => SP_stable1 _ _ _ _ _ (fun k hk e => by omega) i u x y h1 h hk) (fun i u x y _ h hk => SP_stable2 _ _ _ _ i u x y h hk) rfl ?step ?spec ?fin
  case step =>
    intro i o a w' hoo hic hF hK hA
    have hi : i < 19 := by simpa using (Array.getElem?_eq_some_iff.1 hoo).1
    by_cases h0 : i = 0
    · subst h0
      simp only [List.getElem?_toArray, List.getElem?_cons_zero, Option.some.injEq] at hoo
      subst hoo
      have e1 : a.tmps.getD 1 undef = .pointer (some ⟨w.heap.size, 0, none⟩) := hF.2.2 1 (by decide)
      refine Does.plain rfl ?_
      unfold yieldsK
      go_simp
      exact ⟨rfl, Keep.refl _ _⟩
    by_cases h1 : i = 1
    · subst h1
      simp only [List.getElem?_toArray, List.getElem?_cons_zero, List.getElem?_cons_succ, Option.some.injEq] at hoo
      subst hoo
      have e3 : a.tmps.getD 3 undef = .pointer (some ⟨w.heap.size, 0, none⟩) := hA ⟨0, .data⟩ (by simp) rfl
      have c0 := Keep.cell hK q0 (fun e => by simp at e)
      refine Does.plain rfl ?_
      unfold yieldsK
      go_simp
      exact ⟨rfl, Keep.refl _ _⟩
    by_cases h2 : i = 2
    · subst h2
      simp only [List.getElem?_toArray, List.getElem?_cons_zero, List.getElem?_cons_succ, Option.some.injEq] at hoo
      subst hoo
      have e1 : a.tmps.getD 1 undef = .pointer (some ⟨w.heap.size, 0, none⟩) := hF.2.2 1 (by decide)
      refine Does.plain rfl ?_
      unfold yieldsK
      go_simp
      exact ⟨rfl, Keep.refl _ _⟩
    by_cases h3 : i = 3
    · subst h3
      simp only [List.getElem?_toArray, List.getElem?_cons_zero, List.getElem?_cons_succ, Option.some.injEq] at hoo
      subst hoo
      have e5 : a.tmps.getD 5 undef = .pointer (some ⟨w.heap.size, 1, none⟩) := hA ⟨2, .data⟩ (by simp) rfl
      refine Does.plain rfl ?_
      unfold yieldsK
      go_simp
      exact ⟨rfl, Keep.refl _ _⟩
    by_cases h4 : i = 4
    · subst h4
      simp only [List.getElem?_toArray, List.getElem?_cons_zero, List.getElem?_cons_succ, Option.some.injEq] at hoo
      subst hoo
      have e6 : a.tmps.getD 6 undef = .pointer (some ⟨w.heap.size, 1, none⟩) := hA ⟨3, .data⟩ (by simp) rfl
      have c1 := Keep.cell hK q1 (fun e => by simp at e)
      refine Does.plain rfl ?_
      unfold yieldsK
      go_simp
      exact ⟨rfl, Keep.refl _ _⟩
    by_cases h5 : i = 5
    · subst h5
      simp only [List.getElem?_toArray, List.getElem?_cons_zero, List.getElem?_cons_succ, Option.some.injEq] at hoo
      subst hoo
      have e7 : a.tmps.getD 7 undef = .slice A na ca := hA ⟨4, .data⟩ (by simp) rfl
      refine Does.plain rfl ?_
      unfold yieldsK
      go_simp
      refine (cloneInts_any w' A (ivs f.ar) na ca (HLar.out w' hK) (by have := HF.out.la; simpa using this) (ivs_one _) (by omega)).mono ?_
      rintro e w2 ⟨u, rfl, h1, h2⟩
      obtain ⟨A9, c9, rfl, _⟩ := h1.form
      exact ⟨_, rfl, ⟨A9, c9, rfl, h1.mono (fun k (hk : Fresh w' k) _ => (Nat.le_trans (Nat.le_trans hlo hK.size) hk : w.heap.size + 2 ≤ k))⟩, h2⟩
    by_cases h6 : i = 6
    · subst h6
      simp only [List.getElem?_toArray, List.getElem?_cons_zero, List.getElem?_cons_succ, Option.some.injEq] at hoo
      subst hoo
      have e1 : a.tmps.getD 1 undef = .pointer (some ⟨w.heap.size, 0, none⟩) := hF.2.2 1 (by decide)
      refine Does.plain rfl ?_
      unfold yieldsK
      go_simp
      exact ⟨rfl, Keep.refl _ _⟩
    by_cases h7 : i = 7
    · subst h7
      simp only [List.getElem?_toArray, List.getElem?_cons_zero, List.getElem?_cons_succ, Option.some.injEq] at hoo
      subst hoo
      have e9 : a.tmps.getD 9 undef = .pointer (some ⟨w.heap.size, 1, none⟩) := hA ⟨6, .data⟩ (by simp) rfl
      refine Does.plain rfl ?_
      unfold yieldsK
      go_simp
      exact ⟨rfl, Keep.refl _ _⟩
    by_cases h8 : i = 8
    · subst h8
      simp only [List.getElem?_toArray, List.getElem?_cons_zero, List.getElem?_cons_succ, Option.some.injEq] at hoo
      subst hoo
      have e10 : a.tmps.getD 10 undef = .pointer (some ⟨w.heap.size, 2, none⟩) := hA ⟨7, .data⟩ (by simp) rfl
      have c2 := Keep.cell hK q2 (fun e => by simp at e)
      refine Does.plain rfl ?_
      unfold yieldsK
      go_simp
      exact ⟨rfl, Keep.refl _ _⟩
    by_cases h9 : i = 9
    · subst h9
      simp only [List.getElem?_toArray, List.getElem?_cons_zero, List.getElem?_cons_succ, Option.some.injEq] at hoo
      subst hoo
      have e11 : a.tmps.getD 11 undef = .slice B nb cb := hA ⟨8, .data⟩ (by simp) rfl
      refine Does.plain rfl ?_
      unfold yieldsK
      go_simp
      refine (cloneInts_any w' B (ivs f.rs) nb cb (HLrs.out w' hK) (by have := HF.out.lb; simpa using this) (ivs_one _) (by omega)).mono ?_
      rintro e w2 ⟨u, rfl, h1, h2⟩
      obtain ⟨A9, c9, rfl, _⟩ := h1.form
      exact ⟨_, rfl, ⟨A9, c9, rfl, h1.mono (fun k (hk : Fresh w' k) _ => (Nat.le_trans (Nat.le_trans hlo hK.size) hk : w.heap.size + 2 ≤ k))⟩, h2⟩
    by_cases h10 : i = 10
    · subst h10
      simp only [List.getElem?_toArray, List.getElem?_cons_zero, List.getElem?_cons_succ, Option.some.injEq] at hoo
      subst hoo
      obtain ⟨A5, c5, e8, h5⟩ := hA ⟨5, .data⟩ (by simp) rfl
      have e8 : a.tmps.getD 8 undef = .slice A5 na c5 := e8
      obtain ⟨A9, c9, e12, h9⟩ := hA ⟨9, .data⟩ (by simp) rfl
      have e12 : a.tmps.getD 12 undef = .slice A9 nb c9 := e12
      refine Does.plain rfl ?_
      unfold yieldsK
      simp only [Array.getD_eq_getD_getElem?] at e8 e12
      go_simp
      exact ⟨⟨A5, c5, A9, c9, rfl, h5, h9⟩, Keep.refl _ _⟩
    by_cases h11 : i = 11
    · subst h11
      simp only [List.getElem?_toArray, List.getElem?_cons_zero, List.getElem?_cons_succ, Option.some.injEq] at hoo
      subst hoo
      have e1 : a.tmps.getD 1 undef = .pointer (some ⟨w.heap.size, 0, none⟩) := hF.2.2 1 (by decide)
      refine Does.plain rfl ?_
      unfold yieldsK
      go_simp
      exact ⟨rfl, Keep.refl _ _⟩
    by_cases h12 : i = 12
    · subst h12
      simp only [List.getElem?_toArray, List.getElem?_cons_zero, List.getElem?_cons_succ, Option.some.injEq] at hoo
      subst hoo
      have e14 : a.tmps.getD 14 undef = .pointer (some ⟨w.heap.size, 3, none⟩) := hA ⟨11, .data⟩ (by simp) rfl
      have c3 := Keep.cell hK q3 (fun e => by simp at e)
      refine Does.plain rfl ?_
      unfold yieldsK
      go_simp
      exact ⟨rfl, Keep.refl _ _⟩
    by_cases h13 : i = 13
    · subst h13
      simp only [List.getElem?_toArray, List.getElem?_cons_zero, List.getElem?_cons_succ, Option.some.injEq] at hoo
      subst hoo
      have e15 : a.tmps.getD 15 undef = .slice L nl cl := hA ⟨12, .data⟩ (by simp) rfl
      refine Does.plain rfl ?_
      unfold yieldsK
      go_simp
      refine (cloneInts_any w' L (ivs f.lc) nl cl (HLlc.out w' hK) (by have := HF.out.ll; simpa using this) (ivs_one _) (by omega)).mono ?_
      rintro e w2 ⟨u, rfl, h1, h2⟩
      obtain ⟨A9, c9, rfl, _⟩ := h1.form
      exact ⟨_, rfl, ⟨A9, c9, rfl, h1.mono (fun k (hk : Fresh w' k) _ => (Nat.le_trans (Nat.le_trans hlo hK.size) hk : w.heap.size + 2 ≤ k))⟩, h2⟩
    by_cases h14 : i = 14
    · subst h14
      simp only [List.getElem?_toArray, List.getElem?_cons_zero, List.getElem?_cons_succ, Option.some.injEq] at hoo
      subst hoo
      have e1 : a.tmps.getD 1 undef = .pointer (some ⟨w.heap.size, 0, none⟩) := hF.2.2 1 (by decide)
      refine Does.plain rfl ?_
      unfold yieldsK
      go_simp
      exact ⟨rfl, Keep.refl _ _⟩
    by_cases h15 : i = 15
    · subst h15
      simp only [List.getElem?_toArray, List.getElem?_cons_zero, List.getElem?_cons_succ, Option.some.injEq] at hoo
      subst hoo
      have e17 : a.tmps.getD 17 undef = .pointer (some ⟨w.heap.size, 4, none⟩) := hA ⟨14, .data⟩ (by simp) rfl
      have c4 := Keep.cell hK q4 (fun e => by simp at e)
      refine Does.plain rfl ?_
      unfold yieldsK
      go_simp
      exact ⟨rfl, Keep.refl _ _⟩
    by_cases h16 : i = 16
    · subst h16
      simp only [List.getElem?_toArray, List.getElem?_cons_zero, List.getElem?_cons_succ, Option.some.injEq] at hoo
      subst hoo
      have e18 : a.tmps.getD 18 undef = .slice D nd cd := hA ⟨15, .data⟩ (by simp) rfl
      refine Does.plain rfl ?_
      unfold yieldsK
      go_simp
      refine (cloneIns_any w' D (C.iis f.bd) nd cd (HLbd.out w' hK) (by have := HF.out.ld; rw [C.iis_length]; dsimp only at this; omega) (iis_one _) (by omega)).mono ?_
      rintro e w2 ⟨u, rfl, h1, h2⟩
      obtain ⟨A9, c9, rfl, _⟩ := h1.form
      exact ⟨_, rfl, ⟨A9, c9, rfl, h1.mono (fun k (hk : Fresh w' k) _ => (Nat.le_trans (Nat.le_trans hlo hK.size) hk : w.heap.size + 2 ≤ k))⟩, h2⟩
    by_cases h17 : i = 17
    · subst h17
      simp only [List.getElem?_toArray, List.getElem?_cons_zero, List.getElem?_cons_succ, Option.some.injEq] at hoo
      subst hoo
      have e4 : a.tmps.getD 4 undef = .string S := hA ⟨1, .data⟩ (by simp) rfl
      obtain ⟨A5, c5, B5, d5, e13, h5, h6⟩ := hA ⟨10, .data⟩ (by simp) rfl
      have e13 : a.tmps.getD 13 undef = .agg #[.slice A5 na c5, .slice B5 nb d5] := e13
      obtain ⟨A7, c7, e16, h7⟩ := hA ⟨13, .data⟩ (by simp) rfl
      have e16 : a.tmps.getD 16 undef = .slice A7 nl c7 := e16
      obtain ⟨A8, c8, e19, h8⟩ := hA ⟨16, .data⟩ (by simp) rfl
      have e19 : a.tmps.getD 19 undef = .slice A8 nd c8 := e19
      refine Does.plain rfl ?_
      unfold yieldsK
      simp only [Array.getD_eq_getD_getElem?] at e4 e13 e16 e19
      go_simp
      exact ⟨⟨⟨S, A5, na, c5, B5, nb, d5, A7, nl, c7, A8, nd, c8⟩, rfl, ⟨HF.out.nm, h5, h6, h7, h8, HF.out.hI⟩⟩, Keep.refl _ _⟩
    omega
  case spec =>
    intro o a w' hoo hF hK hA
    simp only [List.getElem?_toArray, List.getElem?_cons_zero, List.getElem?_cons_succ, Option.some.injEq] at hoo
    subst hoo
    obtain ⟨z, e20, hz⟩ := hA ⟨17, .data⟩ (by simp) rfl
    have e20 : a.tmps.getD 20 undef = .agg z.cells := e20
    have e2 : a.tmps.getD 2 undef = .pointer (some ⟨w.heap.size + 1, 0, none⟩) := hF.2.2 2 (by decide)
    have hb := HY.out.keep hK id
    have HB := Lib.hid (And.intro (blk_put5 hb z) (And.intro (hz.keep (keep_at5 w' (w.heap.size + 1) z) (fun k hk e => by omega)) (keep_at5 w' (w.heap.size + 1) z)))
    have ⟨d0, d1, d2, d3, d4⟩ := blk5 (v := nilV) hb
    have fz := fun i => hb.frozen i
    refine Does.plain rfl ?_
    unfold yieldsK
    unfold FV.cells at e20
    simp only [Array.getD_eq_getD_getElem?] at e20 e2
    clear hz hb
    go_simp
    exact ⟨fun _ => ⟨z, HB.out.1, HB.out.2.1⟩, HB.out.2.2⟩
  case fin =>
    intro a w' hF gK hA
    obtain ⟨z, hb, hz⟩ := hA 18 (by decide)
    have ha := frameD_list (l := [3, 4, 5, 6, 7, 8, 9, 10, 11, 12, 13, 14, 15, 16, 17, 18, 19, 20, 999]) rfl hF
    rw [ha]
    simp only [List.map_cons, List.map_nil]
    generalize a.tmps.getD 3 undef = u0
    generalize a.tmps.getD 4 undef = u1
    generalize a.tmps.getD 5 undef = u2
    generalize a.tmps.getD 6 undef = u3
    generalize a.tmps.getD 7 undef = u4
    generalize a.tmps.getD 8 undef = u5
    generalize a.tmps.getD 9 undef = u6
    generalize a.tmps.getD 10 undef = u7
    generalize a.tmps.getD 11 undef = u8
    generalize a.tmps.getD 12 undef = u9
    generalize a.tmps.getD 13 undef = u10
    generalize a.tmps.getD 14 undef = u11
    generalize a.tmps.getD 15 undef = u12
    generalize a.tmps.getD 16 undef = u13
    generalize a.tmps.getD 17 undef = u14
    generalize a.tmps.getD 18 undef = u15
    generalize a.tmps.getD 19 undef = u16
    generalize a.tmps.getD 20 undef = u17
    generalize a.tmps.getD 999 undef = u18
    simp only [fillD, List.setIfInBounds_toArray, List.set_cons_zero, List.set_cons_succ, List.set_nil]
    have HB := Lib.hid hb
    have HK9 := Lib.hid (k0.trans gK (fun k e hk => by omega))
    have HO9 := Lib.hid (hz.mono (P' := Fresh w) (fun k hk _ => by unfold Fresh; omega))
    clear gK hA hF ha HF HY q0 q1 q2 q3 q4 hb hz k0 hlo HLar HLrs HLlc HLbd
    go_wp2
    refine bodyPost_ret (ret_fun1 (v := z) rfl rfl HB.out) rfl ?_
    exact ⟨z, rfl, HO9.out, HK9.out⟩

end Go.Proofs.YtbnekeomdhljhaaGreatDoor.F

namespace Go.Proofs.YtbnekeomdhljhaaGreatDoor
open Go.RowKit
section
variable {P : Program} {md : Region.Mode} {ops : Array Oper}

/-- Each number ahead of j has one behind it, up to j. -/
def allBehind (md : Region.Mode) (ops : Array Oper) (j : Nat) : Bool := (List.range j).all fun i => (List.range (j + 1)).any fun k => decide (i < k) && match ops[k]? with
  | none => false
  | some o => o.after.any fun e => Region.binds md e && e.on == i
/-- So it is with all from m on. -/
def tailG (md : Region.Mode) (ops : Array Oper) (m : Nat) : Bool := (List.range ops.size).all fun j => decide (j < m) || allBehind md ops j
/-- The first m write each a slot of its own, and stand behind earlier ones alone. -/
def headG (ops : Array Oper) (ds : Nat → Nat) (m : Nat) : Bool := (List.range m).all fun i => match ops[i]? with
  | none => false
  | some o => o.dst == some (ds i) && ((o.after.all fun e => decide (e.on < i)) && (List.range m).all fun j => i == j || !(ds i == ds j))
def onlyB (ops : Array Oper) : Bool := (List.range ops.size).all fun i => match ops[i]? with
  | none => false
  | some o => o.after.all fun e => decide (e.on < i)
theorem onlyB_at (h : onlyB ops = true) {i : Nat} {o : Oper} (ho : ops[i]? = some o) : ∀ e ∈ o.after, e.on < i := by
  have hi := (Array.getElem?_eq_some_iff.1 ho).1
  have h1 := List.all_eq_true.1 h i (List.mem_range.2 hi)
  simp only [ho] at h1
  intro e he
  have := Array.all_eq_true_iff_forall_mem.1 h1 e he
  simpa using this
theorem headG_at {ds : Nat → Nat} {m : Nat} (h : headG ops ds m = true) {i : Nat} (hi : i < m) {o : Oper} (ho : ops[i]? = some o) : o.dst = some (ds i) ∧ ∀ j, j < m → j ≠ i → ds j ≠ ds i := by
  have h1 := List.all_eq_true.1 h i (List.mem_range.2 hi)
  simp only [ho, Bool.and_eq_true] at h1
  obtain ⟨h1, _, h4⟩ := h1
  refine ⟨by simpa using h1, fun j hj hne e => ?_⟩
  have h5 := List.all_eq_true.1 h4 j (List.mem_range.2 hj)
  rw [e] at h5
  simp at h5
  exact hne h5.symm
/-- What is listed has all listed that it stands behind. -/
def Closed (md : Region.Mode) (ops : Array Oper) (listed : Array Bool) : Prop := ∀ k o, ops[k]? = some o → listed.getD k true = true → ∀ e ∈ o.after, Region.binds md e = true → listed.getD e.on true = true
theorem behind_all {j : Nat} (h : allBehind md ops j = true) {listed : Array Bool} (hC : Closed md ops listed) {o : Oper} (ho : ops[j]? = some o) (hr : ∀ e ∈ o.after, Region.binds md e = true → listed.getD e.on true = true) : ∀ i, i < j → listed.getD i true = true := by
  have key : ∀ d i, i + d = j → 0 < d → listed.getD i true = true := by
    intro d
    induction d using Nat.strongRecOn with
    | ind d ih =>
      intro i hd h0
      have h1 := List.all_eq_true.1 h i (List.mem_range.2 (by omega))
      obtain ⟨k, hk, h2⟩ := List.any_eq_true.1 h1
      have hk' := List.mem_range.1 hk
      simp only [Bool.and_eq_true, decide_eq_true_eq] at h2
      obtain ⟨hik, h3⟩ := h2
      cases hok : ops[k]? with
      | none => rw [hok] at h3; cases h3
      | some q =>
        rw [hok] at h3
        obtain ⟨x, hx, h4⟩ := Array.any_eq_true.1 h3
        simp only [Bool.and_eq_true, beq_iff_eq] at h4
        obtain ⟨hb, hon⟩ := h4
        by_cases e : k = j
        · subst e
          rw [ho] at hok
          injection hok with hok
          subst hok
          have := hr _ (Array.getElem_mem hx) hb
          rw [hon] at this; exact this
        · have hk2 := ih (j - k) (by omega) k (by omega) (by omega)
          have := hC k q hok hk2 _ (Array.getElem_mem hx) hb
          rw [hon] at this; exact this
  intro i hi
  exact key (j - i) i (by omega) (by omega)
theorem getD_set_self {listed : Array Bool} {i : Nat} (h : i < listed.size) : (listed.setIfInBounds i true).getD i true = true := by simp [h]
theorem getD_set_up {listed : Array Bool} {i n : Nat} (h : listed.getD n true = true) : (listed.setIfInBounds i true).getD n true = true := by
  by_cases e : i = n
  · subst e
    by_cases h5 : i < listed.size
    · simp [h5]
    · simp [h5]
  · rw [getD_set_ne true e]; exact h
theorem closed_set {listed : Array Bool} (hC : Closed md ops listed) {i : Nat} {o : Oper} (ho : ops[i]? = some o) (hr : ∀ e ∈ o.after, Region.binds md e = true → listed.getD e.on true = true) : Closed md ops (listed.setIfInBounds i true) := by
  intro k q hq hl e he hb
  by_cases ek : k = i
  · subst ek
    rw [ho] at hq
    injection hq with hq
    subst hq
    exact getD_set_up (hr e he hb)
  · rw [getD_set_ne true (Ne.symm ek)] at hl
    exact getD_set_up (hC k q hq hl e he hb)
theorem ready_getD {listed : Array Bool} (hB : onlyB ops = true) (hs : listed.size = ops.size) {i : Nat} {o : Oper} (ho : ops[i]? = some o) (hall : ∀ e ∈ o.after, Region.binds md e = true → listed.getD e.on false = true) : ∀ e ∈ o.after, Region.binds md e = true → listed.getD e.on true = true := by
  intro e he hb
  have h2 := hall e he hb
  have h3 := onlyB_at hB ho e he
  have h5 := (Array.getElem?_eq_some_iff.1 ho).1
  have h4 : e.on < listed.size := by omega
  simpa [h4] using h2

/-- The last ones, in their order. -/
theorem wpAny_chain {Q : Exit → Act → World → Prop} {m : Nat} (hB : onlyB ops = true) (hT : tailG md ops m = true) : ∀ (fuel j : Nat) (listed : Array Bool) (a : Act) (w : World), m ≤ j → listed.size = ops.size → ops.size ≤ j + fuel → Closed md ops listed →
    (∀ i, i < j → listed.getD i true = true) → (∀ i, j ≤ i → i < ops.size → listed.getD i true = false) → wpList P ops Q (ops.toList.drop j) a w → wpAny P md ops Q fuel listed a w := by
  intro fuel
  induction fuel with
  | zero =>
    intro j listed a w hm hs hf hC h1 h2 h
    rw [List.drop_eq_nil_of_le (by simpa using hf)] at h
    refine ⟨?_, h⟩
    rw [List.eq_nil_iff_forall_not_mem]
    intro i hi
    obtain ⟨hl, o, ho, _⟩ := mem_ready.1 hi
    rw [h1 i (by have := (Array.getElem?_eq_some_iff.1 ho).1; omega)] at hl; cases hl
  | succ fuel ih =>
    intro j listed a w hm hs hf hC h1 h2 h
    refine ⟨fun h0 => ?_, fun i hi => ?_⟩
    · by_cases hj : j < ops.size
      · have ho : ops[j]? = some ops[j] := Array.getElem?_eq_getElem hj
        have : j ∈ Region.ready md ops listed := mem_ready.2 ⟨h2 j (Nat.le_refl _) hj, ops[j], ho, fun e he _ => by
          have h3 := onlyB_at hB ho e he
          have h4 := h1 e.on h3
          have h5 : e.on < listed.size := by omega
          simpa [h5] using h4⟩
        rw [h0] at this; cases this
      · rw [List.drop_eq_nil_of_le (by simpa using hj)] at h
        exact h
    · obtain ⟨hl, o, ho, hall⟩ := mem_ready.1 hi
      have hi' := (Array.getElem?_eq_some_iff.1 ho).1
      have hr := ready_getD (listed := listed) hB hs ho (fun e he hb => hall e he hb)
      have hji : j ≤ i := by
        rcases Nat.lt_or_ge i j with h5 | h5
        · rw [h1 i h5] at hl; cases hl
        · exact h5
      have hb := List.all_eq_true.1 hT i (List.mem_range.2 hi')
      simp only [Bool.or_eq_true, decide_eq_true_eq] at hb
      have hb : allBehind md ops i = true := hb.resolve_left (by omega)
      have hlt := behind_all hb hC ho hr
      obtain rfl : i = j := by
        rcases Nat.lt_or_eq_of_le hji with h5 | h5
        · have := hlt j h5
          rw [h2 j (Nat.le_refl _) (by omega)] at this; cases this
        · exact h5.symm
      have hd : ops.toList.drop i = o :: ops.toList.drop (i + 1) := by
        have hi2 : i < ops.toList.length := by simpa using hi'
        rw [List.drop_eq_getElem_cons hi2]
        congr 1
        have := (Array.getElem?_eq_some_iff.1 ho).2
        simpa using this
      rw [hd] at h
      have hK : ∀ (a' : Act) (w' : World), wpList P ops Q (ops.toList.drop (i + 1)) a' w' → wpAny P md ops Q fuel (listed.setIfInBounds i true) a' w' := fun a' w' h' =>
        ih (i + 1) _ a' w' (by omega) (by simpa using hs) (by omega) (closed_set hC ho hr) (fun k hk => by
          rcases Nat.lt_succ_iff_lt_or_eq.1 hk with h5 | rfl
          · exact getD_set_up (h1 k h5)
          · exact getD_set_self (by omega)) (fun k hk1 hk2 => by rw [getD_set_ne true (by omega)]; exact h2 k (by omega) hk2) h'
      unfold wpOp
      simp only [ho]
      unfold wpList at h
      split
      · rename_i hw
        rw [if_pos hw] at h
        rcases h with h | h
        · exact .inl (Oper.wp_mono hK h)
        · exact .inr h
      · rename_i hw
        rw [if_neg hw] at h
        exact hK _ _ h

theorem wpAny_tail {Q : Exit → Act → World → Prop} (ds : Nat → Nat) (m : Nat) (hm : m ≤ ops.size) (hO : onlyB ops = true) (hB : headG ops ds m = true) (hT : tailG md ops m = true) (S : Nat → Value → World → Prop) (hS : ∀ i v w w', S i v w → Keep NoB w w' → S i v w') (w0 : World) (a0 : Act) (hsz : fitsD ops ds a0.tmps.size = true)
    (hstep : ∀ i o (a : Act) (w : World), ops[i]? = some o → i < m → FrameD a0 ds m a → Keep NoB w0 w → (∀ e ∈ o.after, Region.binds md e = true → S e.on (a.tmps.getD (ds e.on) undef) w) → Does P ops o a w fun u w' => S i u w' ∧ Keep NoB w w')
    (hend : ∀ (a : Act) (w : World), FrameD a0 ds m a → Keep NoB w0 w → (∀ i, i < m → S i (a.tmps.getD (ds i) undef) w) → wpList P ops Q (ops.toList.drop m) a w) :
    ∀ (fuel : Nat) (listed : Array Bool) (a : Act) (w : World), listed.size = ops.size → (∃ L : List Nat, L.length + (ops.size - m) ≤ fuel ∧ ∀ i, i < m → listed.getD i true = false → i ∈ L) → Closed md ops listed → (∀ i, m ≤ i → i < ops.size → listed.getD i true = false) → FrameD a0 ds m a → Keep NoB w0 w →
      (∀ i, i < m → listed.getD i true = true → S i (a.tmps.getD (ds i) undef) w) → wpAny P md ops Q fuel listed a w := by
  intro fuel
  induction fuel with
  | zero =>
    intro listed a w hs ⟨L, hL, hin⟩ hC hN hF hK hA
    have hall : ∀ i, i < m → listed.getD i true = true := fun i hi => by
      cases h : listed.getD i true
      · have := hin i hi h
        rw [List.length_eq_zero_iff.1 (by omega : L.length = 0)] at this; cases this
      · rfl
    exact wpAny_chain hO hT 0 m listed a w (Nat.le_refl _) hs (by omega) hC hall hN (hend a w hF hK fun i hi => hA i hi (hall i hi))
  | succ fuel ih =>
    intro listed a w hs ⟨L, hL, hin⟩ hC hN hF hK hA
    by_cases hdone : ∀ i, i < m → listed.getD i true = true
    · exact wpAny_chain hO hT (fuel + 1) m listed a w (Nat.le_refl _) hs (by omega) hC hdone hN (hend a w hF hK fun i hi => hA i hi (hdone i hi))
    refine ⟨fun h0 => ?_, fun i hi => ?_⟩
    · refine absurd (fun i => ?_) hdone
      induction i using Nat.strongRecOn with
      | ind i ih2 =>
        intro hi
        cases hl : listed.getD i true
        · have hio : i < ops.size := by omega
          have ho : ops[i]? = some ops[i] := Array.getElem?_eq_getElem hio
          have : i ∈ Region.ready md ops listed := mem_ready.2 ⟨hl, ops[i], ho, fun e he _ => by
            have h3 := onlyB_at hO ho e he
            have h4 := ih2 e.on h3 (by omega)
            have h5 : e.on < listed.size := by omega
            simpa [h5] using h4⟩
          rw [h0] at this; cases this
        · rfl
    · obtain ⟨h1, o, ho, hall⟩ := mem_ready.1 hi
      have hi' := (Array.getElem?_eq_some_iff.1 ho).1
      have hr := ready_getD (listed := listed) hO hs ho (fun e he hb => hall e he hb)
      have him : i < m := by
        rcases Nat.lt_or_ge i m with h5 | h5
        · exact h5
        · have hb := List.all_eq_true.1 hT i (List.mem_range.2 hi')
          simp only [Bool.or_eq_true, decide_eq_true_eq] at hb
          have hb : allBehind md ops i = true := hb.resolve_left (by omega)
          exact absurd (fun k hk => behind_all hb hC ho hr k (by omega)) hdone
      obtain ⟨hd, hdis⟩ := headG_at hB him ho
      have hdoes := hstep i o a w ho him hF hK fun e he hb => hA e.on (by have := onlyB_at hO ho e he; omega) (hr e he hb)
      have hnext : ∀ u w', S i u w' → Keep NoB w w' → wpAny P md ops Q fuel (listed.setIfInBounds i true) (a.put o.dst u) w' := by
        intro u w' hSu hk
        rw [hd]
        have hds : ds i < a.tmps.size := by rw [hF.2.1]; exact fitsD_at hsz ho hd
        have hget : ∀ s, (a.put (some (ds i)) u).tmps.getD s undef = if s = ds i then u else a.tmps.getD s undef := fun s => by
          unfold Act.put
          by_cases e : s = ds i
          · subst e; simp [hds]
          · rw [if_neg e]
            simp only [Array.getD_eq_getD_getElem?, Array.getElem?_setIfInBounds]
            rw [if_neg (fun h => e h.symm)]
        refine ih (listed.setIfInBounds i true) _ w' (by simpa using hs) ⟨L.erase i, ?_, fun k hk' hl => ?_⟩ (closed_set hC ho hr) (fun k hk1 hk2 => by rw [getD_set_ne true (by omega)]; exact hN k hk1 hk2) ⟨hF.1, by unfold Act.put; simpa using hF.2.1, fun s hs' => by rw [hget, if_neg (hs' i him)]; exact hF.2.2 s hs'⟩ (keepN hK hk) fun k hk' hl => ?_
        · have hmem := hin i him h1
          have hpos := List.length_pos_of_mem hmem
          rw [List.length_erase_of_mem hmem]; omega
        · have hki : k ≠ i := by
            rintro rfl
            rw [getD_set_self (by omega)] at hl; cases hl
          rw [getD_set_ne true (Ne.symm hki)] at hl
          exact (List.mem_erase_of_ne hki).2 (hin k hk' hl)
        · by_cases e : k = i
          · subst e
            rw [hget, if_pos rfl]; exact hSu
          · rw [hget, if_neg (hdis k hk' e)]
            exact hS k _ _ _ (hA k hk' (by rw [getD_set_ne true (Ne.symm e)] at hl; exact hl)) hk
      unfold wpOp
      simp only [ho]
      rcases hdoes with ⟨hw, hy⟩ | ⟨hw, h2, h3⟩
      · rw [if_pos hw]
        exact .inl (Oper.wp_of_yields hy fun u w' ⟨h2, h3⟩ => hnext u w' h2 h3)
      · rw [if_neg (by rw [hw]; decide)]
        exact hnext undef w h2 h3
theorem wp_region_tail {id : Nat} {Q : Exit → Act → World → Prop} {a0 : Act} {w : World} (ds : Nat → Nat) (m : Nat) (hf : P.follows .mixedOrders = true) (hm : decide (m ≤ ops.size) = true) (hO : onlyB ops = true) (hB : headG ops ds m = true) (hT : tailG .any ops m = true) (S : Nat → Value → World → Prop) (hS : ∀ i v w1 w', S i v w1 → Keep NoB w1 w' → S i v w') (hsz : fitsD ops ds a0.tmps.size = true)
    (hstep : ∀ i o (a : Act) (w' : World), ops[i]? = some o → i < m → FrameD a0 ds m a → Keep NoB w w' → (∀ e ∈ o.after, Region.binds .any e = true → S e.on (a.tmps.getD (ds e.on) undef) w') → Does P ops o a w' fun u w'' => S i u w'' ∧ Keep NoB w' w'')
    (hend : ∀ (a : Act) (w' : World), FrameD a0 ds m a → Keep NoB w w' → (∀ i, i < m → S i (a.tmps.getD (ds i) undef) w') → wpList P ops Q (ops.toList.drop m) a w') : (Code.region id ops true).wp P Q a0 w :=
  have hm := of_decide_eq_true hm
  wp_region_any hf (wpAny_tail ds m hm hO hB hT S hS w a0 hsz hstep hend _ _ a0 w.drew (by simp) ⟨List.range m, by simp; omega, fun i hi _ => List.mem_range.2 hi⟩ (fun k o hk hl => by
    have := (Array.getElem?_eq_some_iff.1 hk).1
    simp [this] at hl) (fun i _ hi => by simp [hi]) ⟨rfl, rfl, fun _ _ => rfl⟩ (Keep.refl NoB w).drew fun i hi hl => by
    have : i < ops.size := by omega
    simp [this] at hl)
end
end Go.Proofs.YtbnekeomdhljhaaGreatDoor

namespace Go.Proofs.YtbnekeomdhljhaaGreatDoor.F
open Go.RowKit W

/-- What the values are that the document's Copy's region yields. -/
def SQ (v : FV) (f : Fu) (x m : Nat) : Nat → Value → World → Prop
  | 0 => fun u _ => u = .pointer (some ⟨x, 0, none⟩)
  | 1 => fun u _ => u = .string v.S
  | 2 => fun u _ => u = .pointer (some ⟨x, 1, none⟩)
  | 3 => fun u _ => u = .agg #[.slice v.A v.na v.ca, .slice v.B v.nb v.cb]
  | 4 => fun u w => ∃ A c B d, u = .agg #[.slice A v.na c, .slice B v.nb d] ∧ Own w 3 1 (fun k => m ≤ k) (.slice A v.na c) v.na (ivs f.ar) ∧ Own w 3 1 (fun k => m ≤ k) (.slice B v.nb d) v.nb (ivs f.rs)
  | 5 => fun u w => ∃ A c B d, u = .agg #[.string v.S, .slice A v.na c, .slice B v.nb d, .slice none 0 0, .slice none 0 0] ∧ Own w 3 1 (fun k => m ≤ k) (.slice A v.na c) v.na (ivs f.ar) ∧ Own w 3 1 (fun k => m ≤ k) (.slice B v.nb d) v.nb (ivs f.rs)
  | 6 => fun u w => ∃ g, u = .pointer (some ⟨g, 0, none⟩) ∧ m ≤ g ∧ Blk w g 27 #[.string ⟨#[]⟩, .slice none 0 0, .slice none 0 0, .slice none 0 0, .slice none 0 0]
  | _ => fun _ _ => True
theorem SQ_stable (v : FV) (f : Fu) (x m : Nat) : ∀ i u w w', SQ v f x m i u w → Keep NoB w w' → SQ v f x m i u w'
  | 0, _, _, _, h, _ => h
  | 1, _, _, _, h, _ => h
  | 2, _, _, _, h, _ => h
  | 3, _, _, _, h, _ => h
  | 4, _, _, _, ⟨A, c, B, d, e, h1, h2⟩, hk => ⟨A, c, B, d, e, h1.keepN hk, h2.keepN hk⟩
  | 5, _, _, _, ⟨A, c, B, d, e, h1, h2⟩, hk => ⟨A, c, B, d, e, h1.keepN hk, h2.keepN hk⟩
  | 6, _, _, _, ⟨g, e, hm, hb⟩, hk => ⟨g, e, hm, hb.keep hk id⟩
  | _ + 7, _, _, _, h, _ => h

/-- A row that is owned lies in no block of another type. -/
theorem own_off {w : World} {E t size n g c : Nat} {P : Nat → Prop} {A : Option Addr} {xs : List Value} {cs : Array Value} (h : Own w E size P (.slice A n c) n xs) (hb : Blk w g t cs) (hne : E ≠ t) : Own w E size (fun k => P k ∧ k ≠ g) (.slice A n c) n xs :=
  ⟨h.1, fun k e => ⟨h.2 k e, fun ek => by
    subst ek
    rcases h.1.2 with ⟨h2, _⟩ | ⟨g', cap, cur, h2, _, hh, _⟩
    · rw [h2] at e; cases e
    · rw [h2] at e
      injection e with e
      subst e
      have hbb : w.heap[g']? = some (.cells cs t (0, 0)) := hb
      rw [hh] at hbb
      injection hbb with hbb
      injection hbb with _ h4 _
      exact hne h4⟩⟩
/-- A row that append has made of nothing. -/
theorem own_app {w w' : World} {E size n c : Nat} {P : Nat → Prop} {A : Option Addr} {xs : List Value} (h : w'.ownsRow 0 E size (.slice A n c) n ([] ++ xs)) (hv : (Value.slice A n c).ownBlock = (Value.slice none 0 0).ownBlock ∨ (Value.slice A n c).ownBlock = some w.heap.size) (hP : ∀ k, w.heap.size ≤ k → P k) : Own w' E size P (.slice A n c) n xs := by
  rw [List.nil_append] at h
  refine ⟨h, fun k e => ?_⟩
  rcases hv with h1 | h1
  · rw [h1] at e; cases e
  · rw [h1] at e
    injection e with e
    exact hP k (by omega)

set_option maxRecDepth 100000 in
set_option maxHeartbeats 8000000 in
theorem rcopyF_any (v : FV) (f : Fu) (w : World) (h : FnAt w v f) (hs : SmF v) :
    Calls Tryz.prog 8 #[v.val] w (CpyR w f) := by
  obtain ⟨i0, hi, hz0, hz1, hz2⟩ := info_parts int_info
  obtain ⟨j0, hj, hy0, hy1, hy2⟩ := info_parts inst_info
  have bx := (Blk.new w 27 v.cells).alloc (.cells nilV.cells 27)
  have by0 := Blk.new (w.alloc (.cells v.cells 27)) 27 nilV.cells
  have k0 := ((Keep.refl NoB w).alloc (.cells v.cells 27)).alloc (.cells nilV.cells 27)
  rw [World.size_alloc] at by0
  have HF := Lib.hid (h.keepN k0)
  have hlo : w.heap.size + 2 ≤ ((w.alloc (.cells v.cells 27)).alloc (.cells nilV.cells 27)).heap.size := by simp
  obtain ⟨S, A, na, ca, B, nb, cb, L, nl, cl, D, nd, cd⟩ := v
  obtain ⟨q0, q1, q2, q3, q4⟩ := blk5 bx
  obtain ⟨p1, p2, p3, p4⟩ : na ≤ 100 ∧ nb ≤ 100 ∧ nl ≤ 100 ∧ nd ≤ 600 := ⟨hs.na, hs.nb, hs.nl, hs.nd⟩
  dsimp only [FV.val, FV.cells, nilV] at bx by0 k0 HF hlo q0 q1 q2 q3 q4 ⊢
  generalize hw1 : (w.alloc (.cells #[.string S, .slice A na ca, .slice B nb cb, .slice L nl cl, .slice D nd cd] 27)).alloc (.cells #[.string ⟨#[]⟩, .slice none 0 0, .slice none 0 0, .slice none 0 0, .slice none 0 0] 27) = w1 at bx by0 k0 HF hlo q0 q1 q2 q3 q4
  have HX := Lib.hid bx
  have HY := Lib.hid by0
  have HG := Lib.hid (fun W hk => rcopyG_any A f.ar na ca B f.rs nb cb W (HF.out.keepN hk).ra (HF.out.keepN hk).rb h.la h.lb p1 p2)
  have hbl := by0.lt
  have HRL : Hid (Rd w L (ivs f.lc)) := h.rl
  have HRD : Hid (Rd w D (C.iis f.bd)) := h.rd
  clear bx by0 hs h
  go_enter Tryz.func8, Tryz.ntmps8
  go_wp2_with fail
  clear hw1
  refine wp_region_tail (fun i => [4, 5, 6, 7, 8, 9, 3].getD i 0) 7 (by kernel_rfl) (by kernel_rfl) (by kernel_rfl) (by kernel_rfl) (by kernel_rfl) (SQ ⟨S, A, na, ca, B, nb, cb, L, nl, cl, D, nd, cd⟩ f w.heap.size (w.heap.size + 2)) (fun i u x y h hk => SQ_stable _ _ _ _ i u x y h hk) rfl ?step ?fin
  case step =>
    intro i o a w' hoo hi hF hK hA
    by_cases h0 : i = 0
    · subst h0
      simp only [List.getElem?_toArray, List.getElem?_cons_zero, Option.some.injEq] at hoo
      subst hoo
      have e1 : a.tmps.getD 1 undef = .pointer (some ⟨w.heap.size, 0, none⟩) := hF.2.2 1 (by decide)
      refine Does.plain rfl ?_
      unfold yieldsK
      go_simp
      exact ⟨rfl, Keep.refl _ _⟩
    by_cases h1 : i = 1
    · subst h1
      simp only [List.getElem?_toArray, List.getElem?_cons_zero, List.getElem?_cons_succ, Option.some.injEq] at hoo
      subst hoo
      have e4 : a.tmps.getD 4 undef = .pointer (some ⟨w.heap.size, 0, none⟩) := hA ⟨0, .data⟩ (by simp) rfl
      have c0 := Keep.cell hK q0 id
      refine Does.plain rfl ?_
      unfold yieldsK
      go_simp
      exact ⟨rfl, Keep.refl _ _⟩
    by_cases h2 : i = 2
    · subst h2
      simp only [List.getElem?_toArray, List.getElem?_cons_zero, List.getElem?_cons_succ, Option.some.injEq] at hoo
      subst hoo
      have e1 : a.tmps.getD 1 undef = .pointer (some ⟨w.heap.size, 0, none⟩) := hF.2.2 1 (by decide)
      refine Does.plain rfl ?_
      unfold yieldsK
      go_simp
      exact ⟨rfl, Keep.refl _ _⟩
    by_cases h3 : i = 3
    · subst h3
      simp only [List.getElem?_toArray, List.getElem?_cons_zero, List.getElem?_cons_succ, Option.some.injEq] at hoo
      subst hoo
      have e6 : a.tmps.getD 6 undef = .pointer (some ⟨w.heap.size, 1, none⟩) := hA ⟨2, .data⟩ (by simp) rfl
      have c1 := Keep.cell hK q1 id
      have c2 := Keep.cell hK q2 id
      refine Does.plain rfl ?_
      unfold yieldsK
      go_simp
      exact ⟨rfl, Keep.refl _ _⟩
    by_cases h4 : i = 4
    · subst h4
      simp only [List.getElem?_toArray, List.getElem?_cons_zero, List.getElem?_cons_succ, Option.some.injEq] at hoo
      subst hoo
      have e7 : a.tmps.getD 7 undef = .agg #[.slice A na ca, .slice B nb cb] := hA ⟨3, .data⟩ (by simp) rfl
      refine Does.plain rfl ?_
      unfold yieldsK
      go_simp
      refine (HG.out w' hK).mono ?_
      rintro e w2 ⟨v1, v2, rfl, h1, h2, h3⟩
      obtain ⟨A1, c1, rfl, _⟩ := h1.form
      obtain ⟨A2, c2, rfl, _⟩ := h2.form
      exact ⟨_, rfl, ⟨A1, c1, A2, c2, rfl, h1.mono (fun k (hk : Fresh w' k) _ => (Nat.le_trans (Nat.le_trans hlo hK.size) hk : w.heap.size + 2 ≤ k)), h2.mono (fun k (hk : Fresh w' k) _ => (Nat.le_trans (Nat.le_trans hlo hK.size) hk : w.heap.size + 2 ≤ k))⟩, h3⟩
    by_cases h5 : i = 5
    · subst h5
      simp only [List.getElem?_toArray, List.getElem?_cons_zero, List.getElem?_cons_succ, Option.some.injEq] at hoo
      subst hoo
      have e5 : a.tmps.getD 5 undef = .string S := hA ⟨1, .data⟩ (by simp) rfl
      obtain ⟨A5, c5, B5, d5, e8, h5, h6⟩ := hA ⟨4, .data⟩ (by simp) rfl
      have e8 : a.tmps.getD 8 undef = .agg #[.slice A5 na c5, .slice B5 nb d5] := e8
      refine Does.plain rfl ?_
      unfold yieldsK
      simp only [Array.getD_eq_getD_getElem?] at e5 e8
      go_simp
      exact ⟨⟨A5, c5, B5, d5, rfl, h5, h6⟩, Keep.refl _ _⟩
    by_cases h6 : i = 6
    · subst h6
      simp only [List.getElem?_toArray, List.getElem?_cons_zero, List.getElem?_cons_succ, Option.some.injEq] at hoo
      subst hoo
      refine Does.plain rfl ?_
      unfold yieldsK
      go_simp
      exact ⟨⟨w'.heap.size, rfl, Nat.le_trans hlo hK.size, Blk.new _ _ _⟩, (Keep.refl _ _).alloc _⟩
    omega
  case fin =>
    intro a w' hF gK hA
    obtain ⟨A5, c5, B5, d5, e9, h5, h6⟩ := hA 5 (by decide)
    obtain ⟨g, e3, hg, hb⟩ := hA 6 (by decide)
    have e9 : a.tmps.getD 9 undef = .agg #[.string S, .slice A5 na c5, .slice B5 nb d5, .slice none 0 0, .slice none 0 0] := e9
    have e3 : a.tmps.getD 3 undef = .pointer (some ⟨g, 0, none⟩) := e3
    have ha := frameD_list (l := [4, 5, 6, 7, 8, 9, 3]) rfl hF
    rw [ha]
    simp only [List.map_cons, List.map_nil, e9, e3]
    generalize a.tmps.getD 4 undef = u0
    generalize a.tmps.getD 5 undef = u1
    generalize a.tmps.getD 6 undef = u2
    generalize a.tmps.getD 7 undef = u3
    generalize a.tmps.getD 8 undef = u4
    simp only [fillD, List.setIfInBounds_toArray, List.set_cons_zero, List.set_cons_succ]
    simp only [List.drop_succ_cons, List.drop_zero]
    have bg0 := blk_put5 hb ⟨S, A5, na, c5, B5, nb, d5, none, 0, 0, none, 0, 0⟩
    have kg0 := keep_at5 w' g ⟨S, A5, na, c5, B5, nb, d5, none, 0, 0, none, 0, 0⟩
    have hgl := hb.lt
    have hxl := (HX.out.keep gK id).lt
    have hO5 := (own_off h5 hb (by decide)).keep kg0 (fun k hk e => hk.2 e)
    have hO6 := (own_off h6 hb (by decide)).keep kg0 (fun k hk e => hk.2 e)
    have bx0 := (HX.out.keep gK id).keep kg0 (fun e => by omega)
    have bs0 := (HY.out.keep gK id).keep kg0 (fun e => by omega)
    have hrl := rd_older HRL.out (HF.out.keepN gK).rl kg0 (fun k hk e => by omega)
    have hrd := rd_older HRD.out (HF.out.keepN gK).rd kg0 (fun k hk e => by omega)
    have HN := Lib.hid (And.intro HF.out.nm (And.intro HF.out.hI (And.intro HF.out.ll HF.out.ld)))
    have hsz0 := kg0.size
    have HK0 := (keepN k0 gK).trans kg0 (fun k e hk => by omega)
    obtain ⟨d0, d1, d2, d3, d4⟩ := blk5 (v := nilV) hb
    obtain ⟨x0, x1, x2, x3, x4⟩ := blk5 (v := ⟨S, A, na, ca, B, nb, cb, L, nl, cl, D, nd, cd⟩) (HX.out.keep gK id)
    have fz := fun i => hb.frozen i
    have hgx : w.heap.size ≠ g := by omega
    have hl1 : (ivs f.lc).length = nl * 1 := by have := HN.out.2.2.1; simpa using this
    have hl2 : (C.iis f.bd).length = nd * 3 := by have := HN.out.2.2.2; rw [C.iis_length]; dsimp only at this; omega
    have HALL := Lib.hid (And.intro hO5 (And.intro hO6 (And.intro bx0 (And.intro bs0 (And.intro hrl (And.intro hrd (And.intro HK0 (And.intro bg0 (And.intro hl1 (And.intro hl2 (And.intro hsz0 (And.intro (ivs_one f.lc) (iis_one f.bd)))))))))))))
    clear hA hF ha hb gK HX HY HF h5 h6 HG q0 q1 q2 q3 q4 k0 hO5 hO6 bx0 bs0 hrl hrd HK0 bg0 hl1 hl2 hsz0 kg0 HRL
    unfold nilV at d0 d1 d2 d3 d4
    dsimp only at d0 d1 d2 d3 d4 x0 x1 x2 x3 x4
    go_wp2_with (first
      | (at_builtin; obtain ⟨hO5, hO6, bx0, bs0, hrl, hrd, HK0, bg0, hl1, hl2, hsz0, ho1, ho2⟩ := HALL.out; refine wpList_append_rd (put5 w' g ⟨S, A5, na, c5, B5, nb, d5, none, 0, 0, none, 0, 0⟩) rfl (.tmp 11) (.tmp 13) _ rfl 3 1 8 i0 _ Tryz.underlying22 hi hz0 hz1 hz2 rfl (by decide) (.slice none 0 0) 0 [] L nl cl (ivs f.lc) rfl (World.ownsRow_nil _ _ _ _) rfl hrl hl1 ho1 (by unfold maxLen; omega) (by omega) ?_; intro A7 c7 w7 hrow7 hg7 hv7; rw [Nat.zero_add] at hrow7 hv7 ⊢; clear d0 d1 d2 d3 d4 x0 x1 x2 x3 x4 fz HALL; have k7 : Keep NoB _ w7 := (Keep.refl NoB _).grown hg7 (fun g e _ => by cases e); have bg7 := bg0.keep k7 id; have bx7 := bx0.keep k7 id; obtain ⟨d0, d1, d2, d3, d4⟩ := blk5 (v := ⟨S, A5, na, c5, B5, nb, d5, none, 0, 0, none, 0, 0⟩) bg7; obtain ⟨x0, x1, x2, x3, x4⟩ := blk5 (v := ⟨S, A, na, ca, B, nb, cb, L, nl, cl, D, nd, cd⟩) bx7; have fz := fun i => bg7.frozen i; have hO7 : Own w7 3 1 (fun k => w.heap.size + 2 ≤ k ∧ k ≠ g) (.slice A7 nl c7) nl (ivs f.lc) := own_app hrow7 hv7 (fun k hk => ⟨by omega, by omega⟩); have HALL := Lib.hid (And.intro (hO5.keepN k7) (And.intro (hO6.keepN k7) (And.intro hO7 (And.intro bx7 (And.intro (bs0.keep k7 id) (And.intro (hrd.keepN k7) (And.intro (keepN HK0 k7) (And.intro bg7 (And.intro hl2 (And.intro (Nat.le_trans hsz0 k7.size) ho2)))))))))); clear hO5 hO6 bx0 bs0 hrl hrd HK0 bg0 hl1 hl2 hsz0 ho1 ho2 k7 bg7 bx7 hO7 hrow7 hg7 hv7)
      | (at_builtin; obtain ⟨hO5, hO6, hO7, bx7, bs7, hrd, HK7, bg7, hl2, hsz7, ho2⟩ := HALL.out; have kp := keep_one w7 g 3 (.slice A7 nl c7); have hp := Nat.le_trans hsz7 kp.size; refine wpList_append_rd (w7.setCell ⟨g, 3, none⟩ (.slice A7 nl c7)) rfl (.tmp 17) (.tmp 19) _ rfl 74 3 24 j0 _ Tryz.underlying25 hj hy0 hy1 hy2 rfl (by decide) (.slice none 0 0) 0 [] D nd cd (C.iis f.bd) rfl (World.ownsRow_nil _ _ _ _) rfl (rd_older HRD.out hrd kp (fun k hk e => by omega)) hl2 ho2 (by unfold maxLen; omega) (by omega) ?_; intro A9 c9 w9 hrow9 hg9 hv9; rw [Nat.zero_add] at hrow9 hv9 ⊢; clear d0 d1 d2 d3 d4 x0 x1 x2 x3 x4 fz HALL; have k9 : Keep NoB _ w9 := (Keep.refl NoB _).grown hg9 (fun g e _ => by cases e); have bg9 : Blk w9 g 27 (FV.cells ⟨S, A5, na, c5, B5, nb, d5, A7, nl, c7, none, 0, 0⟩) := (bg7.put 3 (.slice A7 nl c7)).keep k9 id; have bs9 := (bs7.keep kp (fun e => by omega)).keep k9 id; obtain ⟨d0, d1, d2, d3, d4⟩ := blk5 (v := ⟨S, A5, na, c5, B5, nb, d5, A7, nl, c7, none, 0, 0⟩) bg9; obtain ⟨x0, x1, x2, x3, x4⟩ := blk5 (v := nilV) bs9; unfold nilV at x0 x1 x2 x3 x4; dsimp only at x0 x1 x2 x3 x4; have fz := fun i => bg9.frozen i; have fy := fun i => bs9.frozen i; have hO9 : Own w9 74 3 (fun k => w.heap.size + 2 ≤ k ∧ k ≠ g) (.slice A9 nd c9) nd (C.iis f.bd) := own_app hrow9 hv9 (fun k hk => ⟨by omega, by omega⟩); have HALL := Lib.hid (And.intro ((hO5.keep kp (fun k hk e => hk.2 e)).keepN k9) (And.intro ((hO6.keep kp (fun k hk e => hk.2 e)).keepN k9) (And.intro ((hO7.keep kp (fun k hk e => hk.2 e)).keepN k9) (And.intro hO9 (And.intro bs9 (And.intro (keepN (HK7.trans kp (fun k e hk => by omega)) k9) bg9)))))); clear hO5 hO6 hO7 bx7 bs7 hrd HK7 bg7 hl2 hsz7 ho2 k9 bg9 bs9 hO9 hrow9 hg9 hv9 kp hp))
    obtain ⟨hO5, hO6, hO7, hO9, bs9, HK9, _⟩ := HALL.out
    have kp := keep_one w9 g 4 (.slice A9 nd c9)
    have bsp := bs9.keep kp (fun e => by omega)
    have kq := keep_at5 (w9.setCell ⟨g, 4, none⟩ (.slice A9 nd c9)) (w.heap.size + 1) ⟨S, A5, na, c5, B5, nb, d5, A7, nl, c7, A9, nd, c9⟩
    have hOF : OwnF (put5 (w9.setCell ⟨g, 4, none⟩ (.slice A9 nd c9)) (w.heap.size + 1) ⟨S, A5, na, c5, B5, nb, d5, A7, nl, c7, A9, nd, c9⟩) (Fresh w) ⟨S, A5, na, c5, B5, nb, d5, A7, nl, c7, A9, nd, c9⟩ f :=
      ((OwnF.keep (W := w9) ⟨HN.out.1, hO5, hO6, hO7, hO9, HN.out.2.1⟩ kp (fun k hk e => hk.2 e)).keep kq (fun k hk e => by omega)).mono (fun k hk _ => by unfold Fresh; omega)
    refine bodyPost_ret (ret_fun1 (v := ⟨S, A5, na, c5, B5, nb, d5, A7, nl, c7, A9, nd, c9⟩) rfl rfl (blk_put5 bsp ⟨S, A5, na, c5, B5, nb, d5, A7, nl, c7, A9, nd, c9⟩)) rfl ?_
    exact ⟨⟨S, A5, na, c5, B5, nb, d5, A7, nl, c7, A9, nd, c9⟩, rfl, hOF, (HK9.trans kp (fun k e hk => by omega)).trans kq (fun k e hk => by omega)⟩

end Go.Proofs.YtbnekeomdhljhaaGreatDoor.F

namespace Go.Proofs.YtbnekeomdhljhaaGreatDoor.F
open Go.RowKit W

/-- A row whose every size-th cell is a number, in a block from lo on. -/
def WipeR (E size : Nat) (A : Option Addr) (m lo : Nat) (w : World) : Prop := 0 < m → ∃ g, A = some ⟨g, 0, none⟩ ∧ lo ≤ g ∧ ∃ cur, Blk w g E cur ∧ ∀ j, j < m → ∃ t : Int, cur[j * size]? = some (.int .i64 t)
theorem WipeR.keep {E size m lo : Nat} {A : Option Addr} {w w' : World} {O : Nat → Prop} (h : WipeR E size A m lo w) (hk : Keep O w w') (hO : ∀ k, lo ≤ k → k < w.heap.size → ¬ O k) : WipeR E size A m lo w' := fun hm => by
  obtain ⟨g, e, h1, cur, hb, hc⟩ := h hm
  exact ⟨g, e, h1, cur, hb.keep hk (hO g h1 hb.lt), hc⟩
theorem WipeR.put {E size m lo g i : Nat} {A : Option Addr} {w : World} (h : WipeR E size A m lo w) (z : Int) : WipeR E size A m lo (w.setCell ⟨g, i, none⟩ (.int .i64 z)) := fun hm => by
  obtain ⟨g', e, h1, cur, hb, hc⟩ := h hm
  by_cases hg : g' = g
  · subst hg
    refine ⟨g', e, h1, _, hb.put i _, fun j hj => ?_⟩
    obtain ⟨t, ht⟩ := hc j hj
    have hsz := (Array.getElem?_eq_some_iff.1 ht).1
    by_cases ej : i = j * size
    · subst ej; exact ⟨z, by simp [hsz]⟩
    · exact ⟨t, by rw [Array.getElem?_setIfInBounds, if_neg ej]; exact ht⟩
  · exact ⟨g', e, h1, cur, hb.far (p := ⟨g, i, none⟩) hg _, hc⟩
theorem wipe_of {w : World} {E size n c lo : Nat} {P : Nat → Prop} {A : Option Addr} {xs : List Value} (h : Own w E size P (.slice A n c) n xs) (hP : ∀ k, P k → lo ≤ k) (hx : ∀ j, j < n → ∃ t : Int, xs[j * size]? = some (.int .i64 t)) : WipeR E size A n lo w := fun hm => by
  rcases h.1.2 with ⟨e, h0⟩ | ⟨g, cap, cur, e, _, hh, _⟩
  · omega
  · injection e with e1 e2 e3
    subst e1
    refine ⟨g, rfl, hP g (h.2 g rfl), cur, hh, fun j hj => ?_⟩
    obtain ⟨t, ht⟩ := hx j hj
    refine ⟨t, ?_⟩
    have h2 := h.1.cells (g := g) rfl _ _ ht
    have ea : (⟨g, 0, none⟩ : Addr).add (j * size) = ⟨g, j * size, none⟩ := by unfold Addr.add; by_cases hj : j * size = 0 <;> simp [hj]
    rw [ea] at h2
    exact (Blk.cell (show Blk w g E cur from hh) (j * size)).symm.trans h2
theorem ivs_nums (l : List Int) : ∀ j, j < l.length → ∃ t : Int, (ivs l)[j * 1]? = some (.int .i64 t) := fun j hj => ⟨l[j], by simp [hj]⟩
theorem iis_nums : ∀ (l : List C.I3) (j : Nat), j < l.length → ∃ t : Int, (C.iis l)[j * 3]? = some (.int .i64 t)
  | x :: l, 0, _ => ⟨x.1, by rw [C.iis_cons]; rfl⟩
  | x :: l, j + 1, h => by
    obtain ⟨t, ht⟩ := iis_nums l j (by simpa using h)
    refine ⟨t, ?_⟩
    rw [C.iis_cons, show (j + 1) * 3 = j * 3 + 3 by omega]
    simpa using ht
/-- A function's lists may be written. -/
structure SpF (lo : Nat) (v : FV) (w : World) : Prop where
  a : WipeR 3 1 v.A v.na lo w
  b : WipeR 3 1 v.B v.nb lo w
  l : WipeR 3 1 v.L v.nl lo w
  d : WipeR 74 3 v.D v.nd lo w
theorem SpF.of {w : World} {P : Nat → Prop} {v : FV} {f : Fu} {lo : Nat} (h : OwnF w P v f) (hP : ∀ k, P k → lo ≤ k) : SpF lo v w :=
  ⟨wipe_of h.oa hP (by have := own_len h.oa; have h2 := ivs_nums f.ar; rw [this] at h2; exact h2), wipe_of h.ob hP (by have := own_len h.ob; have h2 := ivs_nums f.rs; rw [this] at h2; exact h2),
    wipe_of h.ol hP (by have := own_len h.ol; have h2 := ivs_nums f.lc; rw [this] at h2; exact h2), wipe_of h.od hP (by have := own_lenD h.od; have h2 := iis_nums f.bd; rw [this] at h2; exact h2)⟩
theorem SpF.keep {w w' : World} {O : Nat → Prop} {v : FV} {lo : Nat} (h : SpF lo v w) (hk : Keep O w w') (hO : ∀ k, lo ≤ k → k < w.heap.size → ¬ O k) : SpF lo v w' := ⟨h.a.keep hk hO, h.b.keep hk hO, h.l.keep hk hO, h.d.keep hk hO⟩
structure SpI (lo : Nat) (w0 : World) (x : Nat) (v : FV) (wr : World) : Prop where
  sp : SpF lo v wr
  keep : Keep (fun k => lo ≤ k) w0 wr
  box : Blk wr x 27 v.cells
theorem SpI.put {lo x g i E : Nat} {w0 wr : World} {v : FV} {cur : Array Value} (h : SpI lo w0 x v wr) (hg : lo ≤ g) (hb : Blk wr g E cur) (hE : 27 ≠ E) (z : Int) : SpI lo w0 x v (wr.setCell ⟨g, i, none⟩ (.int .i64 z)) :=
  ⟨⟨h.sp.a.put z, h.sp.b.put z, h.sp.l.put z, h.sp.d.put z⟩, h.keep.setCell (p := ⟨g, i, none⟩) (fun _ => hg) _, h.box.far (p := ⟨g, i, none⟩) (h.box.ne hb hE) _⟩

set_option maxRecDepth 100000 in
set_option maxHeartbeats 8000000 in
theorem spoil_any (v : FV) (lo : Nat) (w : World) (h : SpF lo v w) (hs : v.na ≤ 1000 ∧ v.nb ≤ 1000 ∧ v.nl ≤ 1000 ∧ v.nd ≤ 1000) :
    Calls Tryz.prog 23 #[v.val] w fun e w' => e = .returned (.tuple #[]) ∧ Keep (fun k => lo ≤ k) w w' := by
  have k0 := (Keep.refl (fun k => lo ≤ k) w).alloc (.cells v.cells 27)
  have h0 : Hid (SpI lo (w.alloc (.cells v.cells 27)) w.heap.size v (w.alloc (.cells v.cells 27))) := ⟨h.keep ((Keep.refl NoB w).alloc _) (fun _ _ _ => id), Keep.refl _ _, Blk.new _ _ _⟩
  have HK := Lib.hid k0
  obtain ⟨p1, p2, p3, p4⟩ := hs
  obtain ⟨S, A, na, ca, B, nb, cb, L, nl, cl, D, nd, cd⟩ := v
  dsimp only [FV.val, FV.cells] at h0 HK p1 p2 p3 p4 ⊢
  generalize hw0 : w.alloc (.cells #[.string S, .slice A na ca, .slice B nb cb, .slice L nl cl, .slice D nd cd] 27) = w0 at h0 HK
  obtain ⟨q0, q1, q2, q3, q4⟩ := blk5 (v := ⟨S, A, na, ca, B, nb, cb, L, nl, cl, D, nd, cd⟩) h0.out.box
  dsimp only at q0 q1 q2 q3 q4
  clear k0 h
  go_enter Tryz.func23, Tryz.ntmps23
  go_wp2
  clear hw0
  go_loopw [10] (fun i wr => ∃ k : Nat, k ≤ na ∧ i = .int .i64 (k : Int) ∧ Hid (SpI lo w0 w.heap.size ⟨S, A, na, ca, B, nb, cb, L, nl, cl, D, nd, cd⟩ wr)) (fun i _ => na - (intOf i).toNat)
  case atStart => exact ⟨0, Nat.zero_le _, rfl, h0⟩
  case round =>
    clear q0 q1 q2 q3 q4
    obtain ⟨k, hk, rfl, hI⟩ := hrel
    obtain ⟨q0, q1, q2, q3, q4⟩ := blk5 (v := ⟨S, A, na, ca, B, nb, cb, L, nl, cl, D, nd, cd⟩) hI.out.box
    dsimp only at q0 q1 q2 q3 q4
    by_cases hlt : k < na
    · obtain ⟨g, rfl, hg, cur, hb, hc⟩ := hI.out.sp.a (by dsimp only; omega)
      obtain ⟨t, ht⟩ := hc k hlt
      rw [Nat.mul_one] at ht
      have cx : wr.cell? ⟨g, k, none⟩ = some (.int .i64 t) := (hb.cell _).trans ht
      have hf := fun i => hb.frozen i
      have HA : Hid (∀ z : Int, SpI lo w0 w.heap.size ⟨S, some ⟨g, 0, none⟩, na, ca, B, nb, cb, L, nl, cl, D, nd, cd⟩ (wr.setCell ⟨g, k, none⟩ (.int .i64 z))) := fun z => hI.out.put hg hb (by decide) z
      clear hb hc ht hI h0
      go_wp2
      go_roundw
      case rel => exact ⟨k + 1, by omega, by go_num, HA.out _⟩
      case measure => simp [intOf]; omega
    · obtain rfl : na = k := by omega
      clear h0
      obtain ⟨wo, rfl⟩ : ∃ wo, wo = wr := ⟨_, rfl⟩
      have h0 := hI
      clear hI hk hlt
      go_wp2
      go_loopw [26] (fun i wr => ∃ k : Nat, k ≤ nb ∧ i = .int .i64 (k : Int) ∧ Hid (SpI lo w0 w.heap.size ⟨S, A, na, ca, B, nb, cb, L, nl, cl, D, nd, cd⟩ wr)) (fun i _ => nb - (intOf i).toNat)
      case atStart => exact ⟨0, Nat.zero_le _, rfl, h0⟩
      case round =>
        clear q0 q1 q2 q3 q4
        obtain ⟨k, hk, rfl, hI⟩ := hrel
        obtain ⟨q0, q1, q2, q3, q4⟩ := blk5 (v := ⟨S, A, na, ca, B, nb, cb, L, nl, cl, D, nd, cd⟩) hI.out.box
        dsimp only at q0 q1 q2 q3 q4
        by_cases hlt : k < nb
        · obtain ⟨g, rfl, hg, cur, hb, hc⟩ := hI.out.sp.b (by dsimp only; omega)
          obtain ⟨t, ht⟩ := hc k hlt
          rw [Nat.mul_one] at ht
          have cx : wr.cell? ⟨g, k, none⟩ = some (.int .i64 t) := (hb.cell _).trans ht
          have hf := fun i => hb.frozen i
          have HA : Hid (∀ z : Int, SpI lo w0 w.heap.size ⟨S, A, na, ca, some ⟨g, 0, none⟩, nb, cb, L, nl, cl, D, nd, cd⟩ (wr.setCell ⟨g, k, none⟩ (.int .i64 z))) := fun z => hI.out.put hg hb (by decide) z
          clear hb hc ht hI h0
          go_wp2
          go_roundw
          case rel => exact ⟨k + 1, by omega, by go_num, HA.out _⟩
          case measure => simp [intOf]; omega
        · obtain rfl : nb = k := by omega
          clear h0
          obtain ⟨wo, rfl⟩ : ∃ wo, wo = wr := ⟨_, rfl⟩
          have h0 := hI
          clear hI hk hlt
          go_wp2
          go_loopw [41] (fun i wr => ∃ k : Nat, k ≤ nl ∧ i = .int .i64 (k : Int) ∧ Hid (SpI lo w0 w.heap.size ⟨S, A, na, ca, B, nb, cb, L, nl, cl, D, nd, cd⟩ wr)) (fun i _ => nl - (intOf i).toNat)
          case atStart => exact ⟨0, Nat.zero_le _, rfl, h0⟩
          case round =>
            clear q0 q1 q2 q3 q4
            obtain ⟨k, hk, rfl, hI⟩ := hrel
            obtain ⟨q0, q1, q2, q3, q4⟩ := blk5 (v := ⟨S, A, na, ca, B, nb, cb, L, nl, cl, D, nd, cd⟩) hI.out.box
            dsimp only at q0 q1 q2 q3 q4
            by_cases hlt : k < nl
            · obtain ⟨g, rfl, hg, cur, hb, hc⟩ := hI.out.sp.l (by dsimp only; omega)
              obtain ⟨t, ht⟩ := hc k hlt
              rw [Nat.mul_one] at ht
              have cx : wr.cell? ⟨g, k, none⟩ = some (.int .i64 t) := (hb.cell _).trans ht
              have hf := fun i => hb.frozen i
              have HA : Hid (∀ z : Int, SpI lo w0 w.heap.size ⟨S, A, na, ca, B, nb, cb, some ⟨g, 0, none⟩, nl, cl, D, nd, cd⟩ (wr.setCell ⟨g, k, none⟩ (.int .i64 z))) := fun z => hI.out.put hg hb (by decide) z
              clear hb hc ht hI h0
              go_wp2
              go_roundw
              case rel => exact ⟨k + 1, by omega, by go_num, HA.out _⟩
              case measure => simp [intOf]; omega
            · obtain rfl : nl = k := by omega
              clear h0
              obtain ⟨wo, rfl⟩ : ∃ wo, wo = wr := ⟨_, rfl⟩
              have h0 := hI
              clear hI hk hlt
              go_wp2
              go_loopw [55] (fun i wr => ∃ k : Nat, k ≤ nd ∧ i = .int .i64 (k : Int) ∧ Hid (SpI lo w0 w.heap.size ⟨S, A, na, ca, B, nb, cb, L, nl, cl, D, nd, cd⟩ wr)) (fun i _ => nd - (intOf i).toNat)
              case atStart => exact ⟨0, Nat.zero_le _, rfl, h0⟩
              case round =>
                clear q0 q1 q2 q3 q4
                obtain ⟨k, hk, rfl, hI⟩ := hrel
                obtain ⟨q0, q1, q2, q3, q4⟩ := blk5 (v := ⟨S, A, na, ca, B, nb, cb, L, nl, cl, D, nd, cd⟩) hI.out.box
                dsimp only at q0 q1 q2 q3 q4
                by_cases hlt : k < nd
                · obtain ⟨g, rfl, hg, cur, hb, hc⟩ := hI.out.sp.d (by dsimp only; omega)
                  obtain ⟨t, ht⟩ := hc k hlt
                  have cx : wr.cell? ⟨g, k * 3, none⟩ = some (.int .i64 t) := (hb.cell _).trans ht
                  have hf := fun i => hb.frozen i
                  have HA : Hid (∀ z : Int, SpI lo w0 w.heap.size ⟨S, A, na, ca, B, nb, cb, L, nl, cl, some ⟨g, 0, none⟩, nd, cd⟩ (wr.setCell ⟨g, k * 3, none⟩ (.int .i64 z))) := fun z => hI.out.put hg hb (by decide) z
                  clear hb hc ht hI h0
                  go_wp2
                  go_roundw
                  case rel => exact ⟨k + 1, by omega, by go_num, HA.out _⟩
                  case measure => simp [intOf]; omega
                · obtain rfl : nd = k := by omega
                  clear h0
                  obtain ⟨wo, rfl⟩ : ∃ wo, wo = wr := ⟨_, rfl⟩
                  have h0 := hI
                  clear hI hk hlt
                  go_wp2
                  refine bodyPost_end (results_none rfl _ _ _) rfl ?_
                  exact ⟨rfl, HK.out.trans h0.out.keep (fun k h _ => h)⟩

end Go.Proofs.YtbnekeomdhljhaaGreatDoor.F

namespace Go.Proofs.YtbnekeomdhljhaaGreatDoor.F
open Go.RowKit W

set_option maxRecDepth 100000 in
set_option maxHeartbeats 8000000 in
theorem equalI_any (A B : Option Addr) (la lb : List C.I3) (n m c d : Nat) (w : World) (ha : Rd w A (C.iis la)) (hb : Rd w B (C.iis lb)) (hn : Hid (la.length = n)) (hm : Hid (lb.length = m))
    (h1 : n ≤ 9223372036854775807) (h2 : m ≤ 9223372036854775807) (R : Bool) (hR : Hid (R = decide (la = lb))) :
    Calls Tryz.prog 82 #[.slice A n c, .slice B m d] w fun e w' => e = .returned (.bool R) ∧ Keep NoB w w' := by
  by_cases hnm : n = m
  · subst hnm
    go_enter Tryz.func82, Tryz.ntmps82
    go_wp2
    go_loopw [13] (fun i wr => ∃ k : Nat, k ≤ n ∧ i = .int .i64 k ∧ Hid (la.take k = lb.take k) ∧ Keep NoB w wr) (fun i _ => n - (intOf i).toNat)
    case atStart => exact ⟨0, Nat.zero_le _, rfl, rfl, Keep.refl _ _⟩
    case round =>
      obtain ⟨k, hk, rfl, ht, hK⟩ := hrel
      by_cases hlt : k < n
      · have hka : k < la.length := by rw [hn.out]; exact hlt
        have hkb : k < lb.length := by rw [hm.out]; exact hlt
        obtain ⟨ga, oa, rfl, hca⟩ := C.rdJ_at ha (by omega)
        obtain ⟨gb, ob, rfl, hcb⟩ := C.rdJ_at hb (by omega)
        have ca0 := hK.cell (hca k hka).1 id
        have ca1 := hK.cell (hca k hka).2.1 id
        have ca2 := hK.cell (hca k hka).2.2 id
        have cb0 := hK.cell (hcb k hkb).1 id
        have cb1 := hK.cell (hcb k hkb).2.1 id
        have cb2 := hK.cell (hcb k hkb).2.2 id
        have HT := Lib.hid (show la.take (k + 1) = la.take k ++ [la[k]] from List.take_succ_eq_append_getElem hka)
        have HU := Lib.hid (show lb.take (k + 1) = lb.take k ++ [lb[k]] from List.take_succ_eq_append_getElem hkb)
        clear hca hcb
        by_cases he : la[k] = lb[k]
        · have HV : Hid (la.take (k + 1) = lb.take (k + 1)) := by show _ = _; rw [HT.out, HU.out, ht.out, he]
          rw [he] at ca0 ca1 ca2
          clear he HT HU ha hb
          generalize lb[k] = y at ca0 ca1 ca2 cb0 cb1 cb2
          obtain ⟨y0, y1, y2⟩ := y
          dsimp only at ca0 ca1 ca2 cb0 cb1 cb2
          go_wp2
          go_quiet (fail)
          go_wp2
          go_roundw
          case rel => exact ⟨k + 1, by omega, by go_num, HV, hK.drewN _⟩
          case measure => simp [intOf]; omega
        · have hf : R = false := by
            rw [hR.out, decide_eq_false_iff_not]
            intro e
            exact he (by simp [e])
          subst hf
          clear HT HU ha hb
          generalize la[k] = x at ca0 ca1 ca2 he
          generalize lb[k] = y at cb0 cb1 cb2 he
          obtain ⟨x0, x1, x2⟩ := x
          obtain ⟨y0, y1, y2⟩ := y
          dsimp only at ca0 ca1 ca2 cb0 cb1 cb2
          by_cases h0 : x0 = y0
          · subst h0
            by_cases h3 : x1 = y1
            · subst h3
              have hne : (x2 == y2) = false := by rw [beq_eq_false_iff_ne]; rintro rfl; exact he rfl
              clear he
              go_wp2
              go_quiet (fail)
              go_wp2
              go_ret
              exact ⟨rfl, hK.drewN _⟩
            · have hne : (x1 == y1) = false := by rw [beq_eq_false_iff_ne]; exact h3
              clear he h3
              go_wp2
              go_quiet (fail)
              go_wp2
              go_ret
              exact ⟨rfl, hK.drewN _⟩
          · have hne : (x0 == y0) = false := by rw [beq_eq_false_iff_ne]; exact h0
            clear he h0
            go_wp2
            go_quiet (fail)
            go_wp2
            go_ret
            exact ⟨rfl, hK.drewN _⟩
      · have hf : R = true := by
          rw [hR.out, decide_eq_true_iff]
          have e1 := ht.out
          rwa [List.take_of_length_le (by rw [hn.out]; omega), List.take_of_length_le (by rw [hm.out]; omega)] at e1
        subst hf
        go_wp2
        go_ret
        exact ⟨rfl, hK⟩
  · have hf : R = false := by
      rw [hR.out, decide_eq_false_iff_not]
      intro e
      exact hnm (by rw [← hn.out, ← hm.out, e])
    subst hf
    have hne : ((n : Int) != (m : Int)) = true := by rw [bne_iff_ne]; omega
    clear hnm
    go_enter Tryz.func82, Tryz.ntmps82
    go_wp2
    go_ret
    exact ⟨rfl, Keep.refl _ _⟩

theorem retB {a b : Bool} (h : a = b) : Ending.returned (.bool a) = .returned (.bool b) := by rw [h]
theorem same_bits (f g : Fu) : sameF f g = (decide (f.nm = g.nm) && (decide (f.ar = g.ar ∧ f.rs = g.rs) && (decide (f.lc = g.lc) && decide (f.bd = g.bd)))) := by
  unfold sameF
  simp only [Bool.decide_and]
theorem name_eq {S T : ByteArray} {s t : List UInt8} (hS : S.data.toList = s) (hT : T.data.toList = t) : (S.toList == T.toList) = decide (s = t) := by
  subst hS hT
  rw [ByteArray.toList_eq, ByteArray.toList_eq]
  by_cases h : S.data.toList = T.data.toList
  · rw [decide_eq_true h, h]; exact beq_self_eq_true _
  · rw [decide_eq_false h]; exact beq_eq_false_iff_ne.2 h

set_option maxRecDepth 100000 in
set_option maxHeartbeats 8000000 in
theorem sameF_any (v : FV) (f : Fu) (u : FV) (g : Fu) (w : World) (h : FnAt w v f) (h2 : FnAt w u g) (hs : SmF v) (hs2 : SmF u) :
    Calls Tryz.prog 22 #[v.val, u.val] w fun e w' => e = .returned (.bool (sameF f g)) ∧ Keep NoB w w' := by
  have bx := (Blk.new w 27 v.cells).alloc (.cells u.cells 27)
  have by1 := Blk.new (w.alloc (.cells v.cells 27)) 27 u.cells
  have k0 := ((Keep.refl NoB w).alloc (.cells v.cells 27)).alloc (.cells u.cells 27)
  rw [World.size_alloc] at by1
  have HF := Lib.hid (h.keepN k0)
  have HG := Lib.hid (h2.keepN k0)
  have HX := Lib.hid bx
  have HY := Lib.hid by1
  have HR := Lib.hid (same_bits f g)
  have HN := name_eq h.nm h2.nm
  have HS := Lib.hid (fun w1 hk => S.same_any v.A f.ar v.na v.ca v.B f.rs v.nb v.cb u.A g.ar u.na u.ca u.B g.rs u.nb u.cb w1 (HF.out.keepN hk).ra (HF.out.keepN hk).rb (HG.out.keepN hk).ra (HG.out.keepN hk).rb h.la h.lb h2.la h2.lb (by have := hs.na; omega) (by have := hs.nb; omega) (by have := hs2.na; omega) (by have := hs2.nb; omega) _ rfl)
  have HL := Lib.hid (fun w1 hk => S.equal_any v.L u.L f.lc g.lc v.nl u.nl v.cl u.cl w1 (HF.out.keepN hk).rl (HG.out.keepN hk).rl h.ll h2.ll (by have := hs.nl; omega) (by have := hs2.nl; omega) _ rfl)
  have HD := Lib.hid (fun w1 hk => equalI_any v.D u.D f.bd g.bd v.nd u.nd v.cd u.cd w1 (HF.out.keepN hk).rd (HG.out.keepN hk).rd h.ld h2.ld (by have := hs.nd; omega) (by have := hs2.nd; omega) _ rfl)
  generalize sameF f g = R at HR ⊢
  generalize decide (f.nm = g.nm) = b0 at HR HN
  generalize decide (f.ar = g.ar ∧ f.rs = g.rs) = b1 at HR HS
  generalize decide (f.lc = g.lc) = b2 at HR HL
  generalize decide (f.bd = g.bd) = b3 at HR HD
  obtain ⟨s0, A, na, ca, B, nb, cb, L, nl, cl, D, nd, cd⟩ := v
  obtain ⟨s1, A1, na1, ca1, B1, nb1, cb1, L1, nl1, cl1, D1, nd1, cd1⟩ := u
  unfold FV.val FV.cells at *
  dsimp only at HN HS HL HD
  clear h h2 hs hs2 bx by1 HF HG
  cases b0
  · go_enter Tryz.func22, Tryz.ntmps22
    obtain ⟨c0, c1, c2, c3, c4⟩ := blk5 (v := ⟨s0, A, na, ca, B, nb, cb, L, nl, cl, D, nd, cd⟩) HX.out
    obtain ⟨d0, d1, d2, d3, d4⟩ := blk5 (v := ⟨s1, A1, na1, ca1, B1, nb1, cb1, L1, nl1, cl1, D1, nd1, cd1⟩) HY.out
    dsimp only at c0 c1 c2 c3 c4 d0 d1 d2 d3 d4
    go_wp2
    go_ret
    exact ⟨retB HR.out.symm, k0⟩
  · cases b1
    · go_enter Tryz.func22, Tryz.ntmps22
      obtain ⟨c0, c1, c2, c3, c4⟩ := blk5 (v := ⟨s0, A, na, ca, B, nb, cb, L, nl, cl, D, nd, cd⟩) HX.out
      obtain ⟨d0, d1, d2, d3, d4⟩ := blk5 (v := ⟨s1, A1, na1, ca1, B1, nb1, cb1, L1, nl1, cl1, D1, nd1, cd1⟩) HY.out
      dsimp only at c0 c1 c2 c3 c4 d0 d1 d2 d3 d4
      go_wp2_with fail
      refine (HS.out _ (Keep.refl _ _)).mono ?_
      rintro e w1 ⟨rfl, k1⟩
      go_wp2
      go_ret
      exact ⟨retB HR.out.symm, keepN k0 k1⟩
    · cases b2
      · go_enter Tryz.func22, Tryz.ntmps22
        obtain ⟨c0, c1, c2, c3, c4⟩ := blk5 (v := ⟨s0, A, na, ca, B, nb, cb, L, nl, cl, D, nd, cd⟩) HX.out
        obtain ⟨d0, d1, d2, d3, d4⟩ := blk5 (v := ⟨s1, A1, na1, ca1, B1, nb1, cb1, L1, nl1, cl1, D1, nd1, cd1⟩) HY.out
        dsimp only at c0 c1 c2 c3 c4 d0 d1 d2 d3 d4
        go_wp2_with fail
        refine (HS.out _ (Keep.refl _ _)).mono ?_
        rintro e w1 ⟨rfl, k1⟩
        clear c0 c1 c2 c3 c4 d0 d1 d2 d3 d4
        obtain ⟨c0, c1, c2, c3, c4⟩ := blk5 (v := ⟨s0, A, na, ca, B, nb, cb, L, nl, cl, D, nd, cd⟩) (HX.out.keep k1 id)
        obtain ⟨d0, d1, d2, d3, d4⟩ := blk5 (v := ⟨s1, A1, na1, ca1, B1, nb1, cb1, L1, nl1, cl1, D1, nd1, cd1⟩) (HY.out.keep k1 id)
        dsimp only at c0 c1 c2 c3 c4 d0 d1 d2 d3 d4
        go_wp2_with fail
        refine (HL.out _ k1).mono ?_
        rintro e w2 ⟨rfl, k2⟩
        replace k2 := keepN k1 k2
        go_wp2
        go_ret
        exact ⟨retB HR.out.symm, keepN k0 k2⟩
      · cases b3
        · go_enter Tryz.func22, Tryz.ntmps22
          obtain ⟨c0, c1, c2, c3, c4⟩ := blk5 (v := ⟨s0, A, na, ca, B, nb, cb, L, nl, cl, D, nd, cd⟩) HX.out
          obtain ⟨d0, d1, d2, d3, d4⟩ := blk5 (v := ⟨s1, A1, na1, ca1, B1, nb1, cb1, L1, nl1, cl1, D1, nd1, cd1⟩) HY.out
          dsimp only at c0 c1 c2 c3 c4 d0 d1 d2 d3 d4
          go_wp2_with fail
          refine (HS.out _ (Keep.refl _ _)).mono ?_
          rintro e w1 ⟨rfl, k1⟩
          clear c0 c1 c2 c3 c4 d0 d1 d2 d3 d4
          obtain ⟨c0, c1, c2, c3, c4⟩ := blk5 (v := ⟨s0, A, na, ca, B, nb, cb, L, nl, cl, D, nd, cd⟩) (HX.out.keep k1 id)
          obtain ⟨d0, d1, d2, d3, d4⟩ := blk5 (v := ⟨s1, A1, na1, ca1, B1, nb1, cb1, L1, nl1, cl1, D1, nd1, cd1⟩) (HY.out.keep k1 id)
          dsimp only at c0 c1 c2 c3 c4 d0 d1 d2 d3 d4
          go_wp2_with fail
          refine (HL.out _ k1).mono ?_
          rintro e w2 ⟨rfl, k2⟩
          replace k2 := keepN k1 k2
          clear c0 c1 c2 c3 c4 d0 d1 d2 d3 d4
          obtain ⟨c0, c1, c2, c3, c4⟩ := blk5 (v := ⟨s0, A, na, ca, B, nb, cb, L, nl, cl, D, nd, cd⟩) (HX.out.keep k2 id)
          obtain ⟨d0, d1, d2, d3, d4⟩ := blk5 (v := ⟨s1, A1, na1, ca1, B1, nb1, cb1, L1, nl1, cl1, D1, nd1, cd1⟩) (HY.out.keep k2 id)
          dsimp only at c0 c1 c2 c3 c4 d0 d1 d2 d3 d4
          go_wp2_with fail
          refine (HD.out _ k2).mono ?_
          rintro e w3 ⟨rfl, k3⟩
          replace k3 := keepN k2 k3
          go_wp2
          go_ret
          exact ⟨retB HR.out.symm, keepN k0 k3⟩
        · go_enter Tryz.func22, Tryz.ntmps22
          obtain ⟨c0, c1, c2, c3, c4⟩ := blk5 (v := ⟨s0, A, na, ca, B, nb, cb, L, nl, cl, D, nd, cd⟩) HX.out
          obtain ⟨d0, d1, d2, d3, d4⟩ := blk5 (v := ⟨s1, A1, na1, ca1, B1, nb1, cb1, L1, nl1, cl1, D1, nd1, cd1⟩) HY.out
          dsimp only at c0 c1 c2 c3 c4 d0 d1 d2 d3 d4
          go_wp2_with fail
          refine (HS.out _ (Keep.refl _ _)).mono ?_
          rintro e w1 ⟨rfl, k1⟩
          clear c0 c1 c2 c3 c4 d0 d1 d2 d3 d4
          obtain ⟨c0, c1, c2, c3, c4⟩ := blk5 (v := ⟨s0, A, na, ca, B, nb, cb, L, nl, cl, D, nd, cd⟩) (HX.out.keep k1 id)
          obtain ⟨d0, d1, d2, d3, d4⟩ := blk5 (v := ⟨s1, A1, na1, ca1, B1, nb1, cb1, L1, nl1, cl1, D1, nd1, cd1⟩) (HY.out.keep k1 id)
          dsimp only at c0 c1 c2 c3 c4 d0 d1 d2 d3 d4
          go_wp2_with fail
          refine (HL.out _ k1).mono ?_
          rintro e w2 ⟨rfl, k2⟩
          replace k2 := keepN k1 k2
          clear c0 c1 c2 c3 c4 d0 d1 d2 d3 d4
          obtain ⟨c0, c1, c2, c3, c4⟩ := blk5 (v := ⟨s0, A, na, ca, B, nb, cb, L, nl, cl, D, nd, cd⟩) (HX.out.keep k2 id)
          obtain ⟨d0, d1, d2, d3, d4⟩ := blk5 (v := ⟨s1, A1, na1, ca1, B1, nb1, cb1, L1, nl1, cl1, D1, nd1, cd1⟩) (HY.out.keep k2 id)
          dsimp only at c0 c1 c2 c3 c4 d0 d1 d2 d3 d4
          go_wp2_with fail
          refine (HD.out _ k2).mono ?_
          rintro e w3 ⟨rfl, k3⟩
          replace k3 := keepN k2 k3
          go_wp2
          go_ret
          exact ⟨retB HR.out.symm, keepN k0 k3⟩

set_option maxRecDepth 100000 in
set_option maxHeartbeats 8000000 in
theorem rsameF_any (v : FV) (f : Fu) (u : FV) (g : Fu) (w : World) (h : FnAt w v f) (h2 : FnAt w u g) (hs : SmF v) (hs2 : SmF u) :
    Calls Tryz.prog 20 #[v.val, u.val] w fun e w' => e = .returned (.bool (sameF f g)) ∧ Keep NoB w w' := by
  have bx := (Blk.new w 27 v.cells).alloc (.cells u.cells 27)
  have by1 := Blk.new (w.alloc (.cells v.cells 27)) 27 u.cells
  have k0 := ((Keep.refl NoB w).alloc (.cells v.cells 27)).alloc (.cells u.cells 27)
  rw [World.size_alloc] at by1
  have HF := Lib.hid (h.keepN k0)
  have HG := Lib.hid (h2.keepN k0)
  have HX := Lib.hid bx
  have HY := Lib.hid by1
  have HR := Lib.hid (same_bits f g)
  have HN := name_eq h.nm h2.nm
  have HS := Lib.hid (fun w1 hk => S.rsame_any v.A f.ar v.na v.ca v.B f.rs v.nb v.cb u.A g.ar u.na u.ca u.B g.rs u.nb u.cb w1 (HF.out.keepN hk).ra (HF.out.keepN hk).rb (HG.out.keepN hk).ra (HG.out.keepN hk).rb h.la h.lb h2.la h2.lb (by have := hs.na; omega) (by have := hs.nb; omega) (by have := hs2.na; omega) (by have := hs2.nb; omega) _ rfl)
  have HL := Lib.hid (fun w1 hk => ints_any v.L u.L f.lc g.lc v.nl u.nl v.cl u.cl w1 (HF.out.keepN hk).rl (HG.out.keepN hk).rl h.ll h2.ll (by have := hs.nl; omega) (by have := hs2.nl; omega) _ rfl)
  have HD := Lib.hid (fun w1 hk => C.lists_any v.D u.D f.bd g.bd v.nd u.nd v.cd u.cd w1 (HF.out.keepN hk).rd (HG.out.keepN hk).rd h.ld h2.ld (by have := hs.nd; omega) (by have := hs2.nd; omega) _ rfl)
  generalize sameF f g = R at HR ⊢
  generalize decide (f.nm = g.nm) = b0 at HR HN
  generalize decide (f.ar = g.ar ∧ f.rs = g.rs) = b1 at HR HS
  generalize decide (f.lc = g.lc) = b2 at HR HL
  generalize decide (f.bd = g.bd) = b3 at HR HD
  obtain ⟨s0, A, na, ca, B, nb, cb, L, nl, cl, D, nd, cd⟩ := v
  obtain ⟨s1, A1, na1, ca1, B1, nb1, cb1, L1, nl1, cl1, D1, nd1, cd1⟩ := u
  unfold FV.val FV.cells at *
  dsimp only at HN HS HL HD
  clear h h2 hs hs2 bx by1 HF HG
  cases b0 <;> cases b1 <;> cases b2 <;> cases b3
  all_goals
    go_enter Tryz.func20, Tryz.ntmps20
    obtain ⟨c0, c1, c2, c3, c4⟩ := blk5 (v := ⟨s0, A, na, ca, B, nb, cb, L, nl, cl, D, nd, cd⟩) HX.out
    obtain ⟨d0, d1, d2, d3, d4⟩ := blk5 (v := ⟨s1, A1, na1, ca1, B1, nb1, cb1, L1, nl1, cl1, D1, nd1, cd1⟩) HY.out
    dsimp only at c0 c1 c2 c3 c4 d0 d1 d2 d3 d4
    go_wp2_with fail
    refine (HS.out _ (Keep.refl _ _)).mono ?_
    rintro e w1 ⟨rfl, k1⟩
    clear c0 c1 c2 c3 c4 d0 d1 d2 d3 d4
    obtain ⟨c0, c1, c2, c3, c4⟩ := blk5 (v := ⟨s0, A, na, ca, B, nb, cb, L, nl, cl, D, nd, cd⟩) (HX.out.keep k1 id)
    obtain ⟨d0, d1, d2, d3, d4⟩ := blk5 (v := ⟨s1, A1, na1, ca1, B1, nb1, cb1, L1, nl1, cl1, D1, nd1, cd1⟩) (HY.out.keep k1 id)
    dsimp only at c0 c1 c2 c3 c4 d0 d1 d2 d3 d4
    go_wp2_with fail
    refine (HL.out _ k1).mono ?_
    rintro e w2 ⟨rfl, k2⟩
    replace k2 := keepN k1 k2
    clear c0 c1 c2 c3 c4 d0 d1 d2 d3 d4
    obtain ⟨c0, c1, c2, c3, c4⟩ := blk5 (v := ⟨s0, A, na, ca, B, nb, cb, L, nl, cl, D, nd, cd⟩) (HX.out.keep k2 id)
    obtain ⟨d0, d1, d2, d3, d4⟩ := blk5 (v := ⟨s1, A1, na1, ca1, B1, nb1, cb1, L1, nl1, cl1, D1, nd1, cd1⟩) (HY.out.keep k2 id)
    dsimp only at c0 c1 c2 c3 c4 d0 d1 d2 d3 d4
    go_wp2_with fail
    refine (HD.out _ k2).mono ?_
    rintro e w3 ⟨rfl, k3⟩
    replace k3 := keepN k2 k3
    clear c0 c1 c2 c3 c4 d0 d1 d2 d3 d4
    obtain ⟨c0, c1, c2, c3, c4⟩ := blk5 (v := ⟨s0, A, na, ca, B, nb, cb, L, nl, cl, D, nd, cd⟩) (HX.out.keep k3 id)
    obtain ⟨d0, d1, d2, d3, d4⟩ := blk5 (v := ⟨s1, A1, na1, ca1, B1, nb1, cb1, L1, nl1, cl1, D1, nd1, cd1⟩) (HY.out.keep k3 id)
    dsimp only at c0 c1 c2 c3 c4 d0 d1 d2 d3 d4
    go_wp2
    go_ret
    exact ⟨retB HR.out.symm, keepN k0 k3⟩

end Go.Proofs.YtbnekeomdhljhaaGreatDoor.F
