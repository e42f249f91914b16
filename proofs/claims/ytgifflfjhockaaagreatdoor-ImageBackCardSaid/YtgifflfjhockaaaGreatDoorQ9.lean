/-
  An image in memory: its value, its cells, what it reads as; an image that is owned. No conditions.
  Which functions may be, however great: what Check of layer function answers. Conditions: the function's lists lie in memory, each of them below 2^47.
  Which parts may be: IndexFunc and ContainsFunc over what lies in memory, and may, of shapes and of functions. Conditions: what is asked answers by its contract.
  Parts read from a Reel: how many, and these: what read answers, of shapes and of functions. Conditions: the Reel reads bytes in memory, no more than 2^47.
  What the laws ask ahead: whether an image is more than statements go through. Conditions: the image's lists lie in memory, each below 2^47.
  What stands between Magic and the sum: what inner answers. Conditions: the bytes lie in memory, no more than 2^47.
-/
import Derived.Laws.EntriesVeiled
import Derived.Test.YtgifflfjhockaaaGreatDoorQ5
import Derived.Test.YtgifflfjhockaaaGreatDoorQ8
import Derived.Test.YtgifflfjhockaaaGreatDoorQ3
namespace Go.Proofs.YtgifflfjhockaaaGreatDoor.I
open Go.RowKit W

/-- A shape's value. -/
structure SV where
  A : Option Addr
  n : Nat
  c : Nat
def SV.val (s : SV) : Value := .slice s.A s.n s.c
def ShAt (w : World) (s : SV) (l : List Int) : Prop := Rd w s.A (ivs l) ∧ l.length = s.n
theorem ShAt.keep {O : Nat → Prop} {w w' : World} {s : SV} {l : List Int} (h : ShAt w s l) (hk : Keep O w w') (hO : ∀ k, k < w.heap.size → ¬ O k) : ShAt w' s l :=
  ⟨h.1.keepN (hk.mono (fun k ho hl => absurd ho (hO k hl))), h.2⟩
/-- An image's value: where its lists lie. -/
structure IV where
  X : Option Addr
  nx : Nat
  cx : Nat
  Y : Option Addr
  ny : Nat
  cy : Nat
def IV.cells (v : IV) : Array Value := #[.slice v.X v.nx v.cx, .slice v.Y v.ny v.cy]
def IV.val (v : IV) : Value := .agg v.cells
abbrev SE := SV × List Int
abbrev FE := F.FV × F.Fu
def svs (es : List SE) : List Value := es.map fun e => e.1.val
def fvs (fs : List FE) : List Value := fs.flatMap fun e => e.1.cells.toList
def imOf (es : List SE) (fs : List FE) : Im := ⟨es.map fun e => e.2, fs.map fun e => e.2⟩
theorem cells_len (v : F.FV) : v.cells.toList.length = 5 := rfl
theorem fvs_length (fs : List FE) : (fvs fs).length = fs.length * 5 := by
  induction fs with
  | nil => rfl
  | cons v l ih =>
    unfold fvs at ih ⊢
    rw [List.flatMap_cons, List.length_append, ih, cells_len, List.length_cons]; omega
theorem svs_length (es : List SE) : (svs es).length = es.length := by simp [svs]
theorem fvs_append (l r : List FE) : fvs (l ++ r) = fvs l ++ fvs r := by simp [fvs]
theorem svs_append (l r : List SE) : svs (l ++ r) = svs l ++ svs r := by simp [svs]
theorem fvs_at : ∀ (fs : List FE) (i j : Nat) (h : i < fs.length), j < 5 → (fvs fs)[i * 5 + j]? = fs[i].1.cells.toList[j]?
  | v :: l, 0, j, _, hj => by
    unfold fvs
    rw [List.flatMap_cons, Nat.zero_mul, Nat.zero_add, List.getElem?_append_left (by rw [cells_len]; exact hj)]; rfl
  | v :: l, i + 1, j, h, hj => by
    have := fvs_at l i j (by simpa using h) hj
    unfold fvs at this ⊢
    rw [List.flatMap_cons, show (i + 1) * 5 + j = 5 + (i * 5 + j) by omega, List.getElem?_append_right (by rw [cells_len]; omega), cells_len, Nat.add_sub_cancel_left]
    exact this
theorem svs_at (es : List SE) (i : Nat) (h : i < es.length) : (svs es)[i]? = some es[i].1.val := by simp [svs, h]

/-- What an image's lists hold, wherever the value itself lies. -/
structure ImAt (w : World) (v : IV) (es : List SE) (fs : List FE) : Prop where
  rx : Rd w v.X (svs es)
  ry : Rd w v.Y (fvs fs)
  lx : es.length = v.nx
  ly : fs.length = v.ny
  hs : ∀ e ∈ es, ShAt w e.1 e.2
  hf : ∀ e ∈ fs, F.FnAt w e.1 e.2
theorem ImAt.keep {O : Nat → Prop} {w w' : World} {v : IV} {es : List SE} {fs : List FE} (h : ImAt w v es fs) (hk : Keep O w w') (hO : ∀ k, k < w.heap.size → ¬ O k) : ImAt w' v es fs :=
  have h2 : Keep NoB w w' := hk.mono (fun k ho hl => absurd ho (hO k hl))
  ⟨h.rx.keepN h2, h.ry.keepN h2, h.lx, h.ly, fun e he => (h.hs e he).keep h2 (fun _ _ => id), fun e he => (h.hf e he).keepN h2⟩
theorem ImAt.keepN {w w' : World} {v : IV} {es : List SE} {fs : List FE} (h : ImAt w v es fs) (hk : Keep NoB w w') : ImAt w' v es fs := h.keep hk (fun _ _ => id)
/-- It is no greater than statements go through. -/
structure SmI (es : List SE) (fs : List FE) : Prop where
  ns : es.length ≤ 70
  nf : fs.length ≤ 70
  sh : ∀ e ∈ es, e.1.n ≤ 100
  fn : ∀ e ∈ fs, F.SmF e.1
/-- Shape i, and function i, in memory. -/
theorem shape_at {w : World} {X : Option Addr} {es : List SE} (h : Rd w X (svs es)) {i : Nat} (hi : i < es.length) : ∃ g off, X = some ⟨g, off, none⟩ ∧ w.cell? ⟨g, off + i, none⟩ = some (.slice es[i].1.A es[i].1.n es[i].1.c) := by
  obtain ⟨g, off, e, hc⟩ := h (by rw [svs_length]; omega)
  exact ⟨g, off, e, hc i _ (svs_at es i hi)⟩
theorem fun_at {w : World} {Y : Option Addr} {fs : List FE} (h : Rd w Y (fvs fs)) {i : Nat} (hi : i < fs.length) : ∃ g off, Y = some ⟨g, off, none⟩ ∧ w.cell? ⟨g, off + i * 5, none⟩ = some (.string fs[i].1.S) ∧ w.cell? ⟨g, off + i * 5 + 1, none⟩ = some (.slice fs[i].1.A fs[i].1.na fs[i].1.ca) ∧
    w.cell? ⟨g, off + i * 5 + 2, none⟩ = some (.slice fs[i].1.B fs[i].1.nb fs[i].1.cb) ∧ w.cell? ⟨g, off + i * 5 + 3, none⟩ = some (.slice fs[i].1.L fs[i].1.nl fs[i].1.cl) ∧ w.cell? ⟨g, off + i * 5 + 4, none⟩ = some (.slice fs[i].1.D fs[i].1.nd fs[i].1.cd) := by
  obtain ⟨g, off, e, hc⟩ := h (by rw [fvs_length]; omega)
  exact ⟨g, off, e, hc _ _ (fvs_at fs i 0 hi (by omega)), hc _ _ (fvs_at fs i 1 hi (by omega)), hc _ _ (fvs_at fs i 2 hi (by omega)), hc _ _ (fvs_at fs i 3 hi (by omega)), hc _ _ (fvs_at fs i 4 hi (by omega))⟩

/-- An image whose lists are owned: each lies in a block of P. -/
structure OwnIm (W : World) (P : Nat → Prop) (v : IV) (es : List SE) (fs : List FE) : Prop where
  ox : Own W 58 1 P (.slice v.X v.nx v.cx) v.nx (svs es)
  oy : Own W 61 5 P (.slice v.Y v.ny v.cy) v.ny (fvs fs)
  hs : ∀ e ∈ es, Own W 3 1 P (.slice e.1.A e.1.n e.1.c) e.1.n (ivs e.2)
  hf : ∀ e ∈ fs, F.OwnF W P e.1 e.2
theorem OwnIm.keep {W W' : World} {P O : Nat → Prop} {v : IV} {es : List SE} {fs : List FE} (h : OwnIm W P v es fs) (hk : Keep O W W') (hn : ∀ k, P k → ¬ O k) : OwnIm W' P v es fs :=
  ⟨h.ox.keep hk hn, h.oy.keep hk hn, fun e he => (h.hs e he).keep hk hn, fun e he => (h.hf e he).keep hk hn⟩
theorem OwnIm.keepN {W W' : World} {P : Nat → Prop} {v : IV} {es : List SE} {fs : List FE} (h : OwnIm W P v es fs) (hk : Keep NoB W W') : OwnIm W' P v es fs := h.keep hk (fun _ _ => id)
theorem OwnIm.mono {W : World} {P P' : Nat → Prop} {v : IV} {es : List SE} {fs : List FE} (h : OwnIm W P v es fs) (hP : ∀ k, P k → k < W.heap.size → P' k) : OwnIm W P' v es fs :=
  ⟨h.ox.mono hP, h.oy.mono hP, fun e he => (h.hs e he).mono hP, fun e he => (h.hf e he).mono hP⟩
theorem OwnIm.im {W : World} {P : Nat → Prop} {v : IV} {es : List SE} {fs : List FE} (h : OwnIm W P v es fs) : ImAt W v es fs :=
  ⟨F.own_rdS h.ox, F.own_rdS h.oy, by have := h.ox.1.1; rw [svs_length] at this; omega, by have := h.oy.1.1; rw [fvs_length] at this; omega,
    fun e he => ⟨F.own_rdS (h.hs e he), F.own_len (h.hs e he)⟩, fun e he => (h.hf e he).fn⟩
def nilW : IV := ⟨none, 0, 0, none, 0, 0⟩
theorem nil_own (W : World) (P : Nat → Prop) : OwnIm W P nilW [] [] := ⟨Own.nil _ _ _ _, Own.nil _ _ _ _, (fun _ h => nomatch h), (fun _ h => nomatch h)⟩
end Go.Proofs.YtgifflfjhockaaaGreatDoor.I

namespace Go.Proofs.YtgifflfjhockaaaGreatDoor.F
open Go.RowKit W

/-- A function whose lists a machine holds. -/
structure LgF (v : FV) : Prop where
  sz : v.S.size ≤ 140737488355328
  na : v.na ≤ 140737488355328
  nb : v.nb ≤ 140737488355328
  nl : v.nl ≤ 140737488355328
  nd : v.nd ≤ 140737488355328
theorem SmF.lg {v : FV} (h : SmF v) : LgF v := ⟨by have := h.sz; omega, by have := h.na; omega, by have := h.nb; omega, by have := h.nl; omega, by have := h.nd; omega⟩

set_option maxRecDepth 100000 in
set_option maxHeartbeats 2000000 in
theorem fewL_any (v : FV) (w : World) (h : LgF v) (R : Int) (hR : Hid ((if v.na + v.nb + v.nl ≤ 64 then (0 : Int) else 70) = R)) :
    Calls Tryz.prog 118 #[v.val] w fun e w' => e = .returned (.int .i64 R) ∧ Keep NoB w w' := by
  obtain ⟨S, A, na, ca, B, nb, cb, L, nl, cl, D, nd, cd⟩ := v
  obtain ⟨_, q1, q2, q3, _⟩ := h
  dsimp only at q1 q2 q3 hR
  have bx := Blk.new w 61 (FV.cells ⟨S, A, na, ca, B, nb, cb, L, nl, cl, D, nd, cd⟩)
  have k0 := (Keep.refl NoB w).alloc (.cells (FV.cells ⟨S, A, na, ca, B, nb, cb, L, nl, cl, D, nd, cd⟩) 61)
  dsimp only [FV.val, FV.cells] at bx k0 ⊢
  by_cases h1 : na + nb + nl ≤ 64
  · obtain rfl : 0 = R := by rw [← hR.out, if_pos h1]
    clear hR
    go_enter Tryz.func118, Tryz.ntmps118
    go_wp2
    go_ret
    exact ⟨rfl, k0⟩
  · obtain rfl : 70 = R := by rw [← hR.out, if_neg h1]
    have h2 : (64 : Int) < (na : Int) + (nb : Int) + (nl : Int) := by omega
    clear hR h1
    go_enter Tryz.func118, Tryz.ntmps118
    go_wp2
    go_ret
    exact ⟨rfl, k0⟩

set_option maxRecDepth 100000 in
set_option maxHeartbeats 4000000 in
theorem checksL_any (v : FV) (f : Fu) (w : World) (h : FnAt w v f) (hs : LgF v) (g : Nat) (u0 u1 u2 u3 u4 : Value) (hb : Blk w g 69 #[u0, u1, u2, u3, u4])
    (a0 : AskV 160 89 61 (fnV 118) (v.cells) u0 w)
    (a1 : AskV 161 181 9 (fnV 120) (#[.string v.S]) u1 w)
    (a2 : AskV 164 183 57 (fnV 122) (#[.slice v.A v.na v.ca, .slice v.B v.nb v.cb]) u2 w)
    (a3 : AskV 164 183 57 (fnV 122) (#[.slice v.L v.nl v.cl, .slice none 0 0]) u3 w)
    (a4 : AskV 166 186 59 (fnV 125) (#[.slice v.D v.nd v.cd]) u4 w) :
    Calls Tryz.prog 116 #[.slice (some ⟨g, 0, none⟩) 5 5] w fun e w' => e = .returned (.bool (okF f)) ∧ Keep NoB w w' := by
  obtain ⟨c0, p0, rfl, a0, b0⟩ := a0
  obtain ⟨c1, p1, rfl, a1, b1⟩ := a1
  obtain ⟨c2, p2, rfl, a2, b2⟩ := a2
  obtain ⟨c3, p3, rfl, a3, b3⟩ := a3
  obtain ⟨c4, p4, rfl, a4, b4⟩ := a4
  refine (every_any (some ⟨g, 0, none⟩) [(160, #[.pointer (some ⟨c0, 0, none⟩), .pointer (some ⟨p0, 0, none⟩)]), (161, #[.pointer (some ⟨c1, 0, none⟩), .pointer (some ⟨p1, 0, none⟩)]), (164, #[.pointer (some ⟨c2, 0, none⟩), .pointer (some ⟨p2, 0, none⟩)]), (164, #[.pointer (some ⟨c3, 0, none⟩), .pointer (some ⟨p3, 0, none⟩)]), (166, #[.pointer (some ⟨c4, 0, none⟩), .pointer (some ⟨p4, 0, none⟩)])] 5 5 w rfl (by decide) (bsF v f) (fun _ W => Keep NoB w W) (fun W => Keep NoB w W) ?hcf ?hr ?hq (Keep.refl _ _)).mono ?_
  case hcf =>
    intro q hq
    simp only [List.mem_cons, List.not_mem_nil, or_false] at hq
    rcases hq with rfl | rfl | rfl | rfl | rfl
    · exact enters_of Tryz.func160 (by kernel_rfl) rfl
    · exact enters_of Tryz.func161 (by kernel_rfl) rfl
    · exact enters_of Tryz.func164 (by kernel_rfl) rfl
    · exact enters_of Tryz.func164 (by kernel_rfl) rfl
    · exact enters_of Tryz.func166 (by kernel_rfl) rfl
  case hr =>
    intro i W hK _
    refine ⟨g, 0, rfl, fun j u hu => ?_⟩
    rw [Nat.zero_add, (hb.keep hK id).cell j]
    simpa using hu
  case hq =>
    intro i hi W hK
    have hf := h.keepN hK
    have hi : i = 0 ∨ i = 1 ∨ i = 2 ∨ i = 3 ∨ i = 4 := by simp at hi; omega
    rcases hi with rfl | rfl | rfl | rfl | rfl
    · refine (askedFun_any 118 (enters_of Tryz.func118 (by kernel_rfl) rfl) v c0 p0 W (a0.keep hK id) (b0.keep hK id) _ (bsF v f 0) (few_eq v f) (fewL_any v W hs _ rfl)).mono ?_
      rintro e W' ⟨rfl, hk⟩
      exact ⟨rfl, fun _ => keepN hK hk, fun _ => keepN hK hk⟩
    · refine (askedStr_any 120 (enters_of Tryz.func120 (by kernel_rfl) rfl) v.S c1 p1 W (a1.keep hK id) (b1.keep hK id) (chkN f.nm) (bsF v f 1) (chkN_eq _) ?_).mono ?_
      · refine (named_any v.S f.nm W hf.nm (by have := hs.sz; omega) _ rfl).mono ?_
        rintro e W' ⟨rfl, rfl⟩
        exact ⟨rfl, Keep.refl _ _⟩
      rintro e W' ⟨rfl, hk⟩
      exact ⟨rfl, fun _ => keepN hK hk, fun _ => keepN hK hk⟩
    · refine (askedSig_any 122 (enters_of Tryz.func122 (by kernel_rfl) rfl) _ _ c2 p2 W (a2.keep hK id) (b2.keep hK id) (S.chkG f.ar f.rs) (bsF v f 2) (chkG_eq _ _) (S.chkG_any v.A f.ar v.na v.ca v.B f.rs v.nb v.cb W hf.ra hf.rb hf.la hf.lb (by have := hs.na; omega) (by have := hs.nb; omega) _ rfl)).mono ?_
      rintro e W' ⟨rfl, hk⟩
      exact ⟨rfl, fun _ => keepN hK hk, fun _ => keepN hK hk⟩
    · refine (askedSig_any 122 (enters_of Tryz.func122 (by kernel_rfl) rfl) _ _ c3 p3 W (a3.keep hK id) (b3.keep hK id) (S.chkG f.lc []) (bsF v f 3) (chkG_eq _ _) (S.chkG_any v.L f.lc v.nl v.cl none [] 0 0 W hf.rl (Rd.none_ _ _) hf.ll rfl (by have := hs.nl; omega) (by omega) _ rfl)).mono ?_
      rintro e W' ⟨rfl, hk⟩
      exact ⟨rfl, fun _ => keepN hK hk, fun _ => keepN hK hk⟩
    · refine (askedBod_any 125 (enters_of Tryz.func125 (by kernel_rfl) rfl) v.D v.nd v.cd c4 p4 W (a4.keep hK id) (b4.keep hK id) (C.chkB f.bd) (bsF v f 4) (chkB_eq _) (C.cchk_any v.D f.bd v.nd v.cd W hf.rd hf.ld (by have := hs.nd; omega) _ rfl)).mono ?_
      rintro e W' ⟨rfl, hk⟩
      exact ⟨rfl, fun _ => keepN hK hk, fun _ => keepN hK hk⟩
  rintro e w' (⟨rfl, hb, hk⟩ | ⟨rfl, hb, hk⟩)
  · exact ⟨by rw [bsF_all h hb], hk⟩
  · exact ⟨by rw [bsF_not h hb], hk⟩

set_option maxRecDepth 100000 in
set_option maxHeartbeats 8000000 in
theorem checkL_any (v : FV) (f : Fu) (w : World) (h : FnAt w v f) (hs : LgF v) (R : Int) (hR : Hid (chkF f = R)) :
    Calls Tryz.prog 76 #[v.val] w fun e w' => e = .returned (.int .i64 R) ∧ Keep NoB w w' := by
  have bx := Blk.new w 61 v.cells
  have k0 := (Keep.refl NoB w).alloc (.cells v.cells 61)
  have HF := Lib.hid (h.keepN k0)
  obtain ⟨S, A, na, ca, B, nb, cb, L, nl, cl, D, nd, cd⟩ := v
  have HE := Lib.hid (fun W hf g u0 u1 u2 u3 u4 hb a0 a1 a2 a3 a4 => checksL_any _ f W hf hs g u0 u1 u2 u3 u4 hb a0 a1 a2 a3 a4)
  obtain ⟨q0, q1, q2, q3, q4⟩ := blk5 bx
  dsimp only [FV.val, FV.cells] at bx k0 HF q0 q1 q2 q3 q4 ⊢
  have HX := Lib.hid bx
  clear h hs bx
  generalize hw1 : w.alloc (.cells #[.string S, .slice A na ca, .slice B nb cb, .slice L nl cl, .slice D nd cd] 61) = w1 at k0 HF q0 q1 q2 q3 q4 HX
  go_enter Tryz.func76, Tryz.ntmps76
  go_wp2_with fail
  clear hw1
  refine wp_region_props2 3 99 (NoB) (by kernel_rfl) (by kernel_rfl) (SC ⟨S, A, na, ca, B, nb, cb, L, nl, cl, D, nd, cd⟩ f w.heap.size) (fun i u x y _ h hk => SC_stable _ _ _ i u x y h hk) (of_decide_eq_true rfl) ?step ?spec ?fin
  case step =>
    intro i o a w' ho hic hF hK hA
    have hi : i < 18 := by simpa using (Array.getElem?_eq_some_iff.1 ho).1
    by_cases h0 : i = 0
    · subst h0
      simp only [List.getElem?_toArray, List.getElem?_cons_zero, Option.some.injEq] at ho
      subst ho
      have e1 : a.tmps.getD 1 undef = .pointer (some ⟨w.heap.size, 0, none⟩) := hF.2.2 1 (.inl (by decide))
      have c0 := Keep.cell hK q0 id
      have c1 := Keep.cell hK q1 id
      have c2 := Keep.cell hK q2 id
      have c3 := Keep.cell hK q3 id
      have c4 := Keep.cell hK q4 id
      refine Does.plain rfl ?_
      unfold yieldsK
      go_simp
      exact ⟨rfl, Keep.refl _ _⟩
    by_cases h1 : i = 1
    · subst h1
      simp only [List.getElem?_toArray, List.getElem?_cons_zero, List.getElem?_cons_succ, Option.some.injEq] at ho
      subst ho
      have e3 : a.tmps.getD 3 undef = .agg #[.string S, .slice A na ca, .slice B nb cb, .slice L nl cl, .slice D nd cd] := hA ⟨0, .data⟩ (by simp) rfl
      refine Does.plain rfl ?_
      unfold yieldsK
      go_simp
      refine (passesFun_any 118 ⟨S, A, na, ca, B, nb, cb, L, nl, cl, D, nd, cd⟩ w').mono ?_
      rintro e w2 ⟨u, rfl, h1, h2⟩
      exact ⟨_, rfl, h1, h2⟩
    by_cases h2 : i = 2
    · subst h2
      simp only [List.getElem?_toArray, List.getElem?_cons_zero, List.getElem?_cons_succ, Option.some.injEq] at ho
      subst ho
      have e1 : a.tmps.getD 1 undef = .pointer (some ⟨w.heap.size, 0, none⟩) := hF.2.2 1 (.inl (by decide))
      refine Does.plain rfl ?_
      unfold yieldsK
      go_simp
      exact ⟨rfl, Keep.refl _ _⟩
    by_cases h3 : i = 3
    · subst h3
      simp only [List.getElem?_toArray, List.getElem?_cons_zero, List.getElem?_cons_succ, Option.some.injEq] at ho
      subst ho
      have e5 : a.tmps.getD 5 undef = .pointer (some ⟨w.heap.size, 0, none⟩) := hA ⟨2, .data⟩ (by simp) rfl
      have c0 := Keep.cell hK q0 id
      refine Does.plain rfl ?_
      unfold yieldsK
      go_simp
      exact ⟨rfl, Keep.refl _ _⟩
    by_cases h4 : i = 4
    · subst h4
      simp only [List.getElem?_toArray, List.getElem?_cons_zero, List.getElem?_cons_succ, Option.some.injEq] at ho
      subst ho
      have e6 : a.tmps.getD 6 undef = .string S := hA ⟨3, .data⟩ (by simp) rfl
      refine Does.plain rfl ?_
      unfold yieldsK
      go_simp
      refine (passesStr_any 120 S w').mono ?_
      rintro e w2 ⟨u, rfl, h1, h2⟩
      exact ⟨_, rfl, h1, h2⟩
    by_cases h5 : i = 5
    · subst h5
      simp only [List.getElem?_toArray, List.getElem?_cons_zero, List.getElem?_cons_succ, Option.some.injEq] at ho
      subst ho
      have e1 : a.tmps.getD 1 undef = .pointer (some ⟨w.heap.size, 0, none⟩) := hF.2.2 1 (.inl (by decide))
      refine Does.plain rfl ?_
      unfold yieldsK
      go_simp
      exact ⟨rfl, Keep.refl _ _⟩
    by_cases h6 : i = 6
    · subst h6
      simp only [List.getElem?_toArray, List.getElem?_cons_zero, List.getElem?_cons_succ, Option.some.injEq] at ho
      subst ho
      have e8 : a.tmps.getD 8 undef = .pointer (some ⟨w.heap.size, 1, none⟩) := hA ⟨5, .data⟩ (by simp) rfl
      have c1 := Keep.cell hK q1 id
      have c2 := Keep.cell hK q2 id
      refine Does.plain rfl ?_
      unfold yieldsK
      go_simp
      exact ⟨rfl, Keep.refl _ _⟩
    by_cases h7 : i = 7
    · subst h7
      simp only [List.getElem?_toArray, List.getElem?_cons_zero, List.getElem?_cons_succ, Option.some.injEq] at ho
      subst ho
      have e9 : a.tmps.getD 9 undef = .agg #[.slice A na ca, .slice B nb cb] := hA ⟨6, .data⟩ (by simp) rfl
      refine Does.plain rfl ?_
      unfold yieldsK
      go_simp
      refine (passesSig_any 122 (.slice A na ca) (.slice B nb cb) w').mono ?_
      rintro e w2 ⟨u, rfl, h1, h2⟩
      exact ⟨_, rfl, h1, h2⟩
    by_cases h8 : i = 8
    · subst h8
      simp only [List.getElem?_toArray, List.getElem?_cons_zero, List.getElem?_cons_succ, Option.some.injEq] at ho
      subst ho
      have e1 : a.tmps.getD 1 undef = .pointer (some ⟨w.heap.size, 0, none⟩) := hF.2.2 1 (.inl (by decide))
      refine Does.plain rfl ?_
      unfold yieldsK
      go_simp
      exact ⟨rfl, Keep.refl _ _⟩
    by_cases h9 : i = 9
    · subst h9
      simp only [List.getElem?_toArray, List.getElem?_cons_zero, List.getElem?_cons_succ, Option.some.injEq] at ho
      subst ho
      have e11 : a.tmps.getD 11 undef = .pointer (some ⟨w.heap.size, 3, none⟩) := hA ⟨8, .data⟩ (by simp) rfl
      have c3 := Keep.cell hK q3 id
      refine Does.plain rfl ?_
      unfold yieldsK
      go_simp
      exact ⟨rfl, Keep.refl _ _⟩
    by_cases h10 : i = 10
    · subst h10
      simp only [List.getElem?_toArray, List.getElem?_cons_zero, List.getElem?_cons_succ, Option.some.injEq] at ho
      subst ho
      have e12 : a.tmps.getD 12 undef = .slice L nl cl := hA ⟨9, .data⟩ (by simp) rfl
      refine Does.plain rfl ?_
      unfold yieldsK
      go_simp
      refine (taking_any L nl cl w').mono ?_
      rintro e w2 ⟨rfl, h2⟩
      exact ⟨_, rfl, rfl, h2⟩
    by_cases h11 : i = 11
    · subst h11
      simp only [List.getElem?_toArray, List.getElem?_cons_zero, List.getElem?_cons_succ, Option.some.injEq] at ho
      subst ho
      have e13 : a.tmps.getD 13 undef = .agg #[.slice L nl cl, .slice none 0 0] := hA ⟨10, .data⟩ (by simp) rfl
      refine Does.plain rfl ?_
      unfold yieldsK
      go_simp
      refine (passesSig_any 122 (.slice L nl cl) (.slice none 0 0) w').mono ?_
      rintro e w2 ⟨u, rfl, h1, h2⟩
      exact ⟨_, rfl, h1, h2⟩
    by_cases h12 : i = 12
    · subst h12
      simp only [List.getElem?_toArray, List.getElem?_cons_zero, List.getElem?_cons_succ, Option.some.injEq] at ho
      subst ho
      have e1 : a.tmps.getD 1 undef = .pointer (some ⟨w.heap.size, 0, none⟩) := hF.2.2 1 (.inl (by decide))
      refine Does.plain rfl ?_
      unfold yieldsK
      go_simp
      exact ⟨rfl, Keep.refl _ _⟩
    by_cases h13 : i = 13
    · subst h13
      simp only [List.getElem?_toArray, List.getElem?_cons_zero, List.getElem?_cons_succ, Option.some.injEq] at ho
      subst ho
      have e15 : a.tmps.getD 15 undef = .pointer (some ⟨w.heap.size, 4, none⟩) := hA ⟨12, .data⟩ (by simp) rfl
      have c4 := Keep.cell hK q4 id
      refine Does.plain rfl ?_
      unfold yieldsK
      go_simp
      exact ⟨rfl, Keep.refl _ _⟩
    by_cases h14 : i = 14
    · subst h14
      simp only [List.getElem?_toArray, List.getElem?_cons_zero, List.getElem?_cons_succ, Option.some.injEq] at ho
      subst ho
      have e16 : a.tmps.getD 16 undef = .slice D nd cd := hA ⟨13, .data⟩ (by simp) rfl
      refine Does.plain rfl ?_
      unfold yieldsK
      go_simp
      refine (passesBod_any 125 D nd cd w').mono ?_
      rintro e w2 ⟨u, rfl, h1, h2⟩
      exact ⟨_, rfl, h1, h2⟩
    by_cases h15 : i = 15
    · subst h15
      simp only [List.getElem?_toArray, List.getElem?_cons_zero, List.getElem?_cons_succ, Option.some.injEq] at ho
      subst ho
      obtain ⟨c0, p0, e4, a0, b0⟩ := hA ⟨1, .data⟩ (by simp) rfl
      have e4 : a.tmps.getD 4 undef = askV 160 #[.pointer (some ⟨c0, 0, none⟩), .pointer (some ⟨p0, 0, none⟩)] := e4
      obtain ⟨c1, p1, e7, a1, b1⟩ := hA ⟨4, .data⟩ (by simp) rfl
      have e7 : a.tmps.getD 7 undef = askV 161 #[.pointer (some ⟨c1, 0, none⟩), .pointer (some ⟨p1, 0, none⟩)] := e7
      obtain ⟨c2, p2, e10, a2, b2⟩ := hA ⟨7, .data⟩ (by simp) rfl
      have e10 : a.tmps.getD 10 undef = askV 164 #[.pointer (some ⟨c2, 0, none⟩), .pointer (some ⟨p2, 0, none⟩)] := e10
      obtain ⟨c3, p3, e14, a3, b3⟩ := hA ⟨11, .data⟩ (by simp) rfl
      have e14 : a.tmps.getD 14 undef = askV 164 #[.pointer (some ⟨c3, 0, none⟩), .pointer (some ⟨p3, 0, none⟩)] := e14
      obtain ⟨c4, p4, e17, a4, b4⟩ := hA ⟨14, .data⟩ (by simp) rfl
      have e17 : a.tmps.getD 17 undef = askV 166 #[.pointer (some ⟨c4, 0, none⟩), .pointer (some ⟨p4, 0, none⟩)] := e17
      refine Does.plain rfl ?_
      unfold yieldsK
      unfold askV at *
      simp only [Array.getD_eq_getD_getElem?] at e4 e7 e10 e14 e17
      go_simp
      refine ⟨⟨w'.heap.size, _, _, _, _, _, rfl, Blk.new _ _ _, ⟨c0, p0, rfl, a0.alloc _, b0.alloc _⟩, ⟨c1, p1, rfl, a1.alloc _, b1.alloc _⟩, ⟨c2, p2, rfl, a2.alloc _, b2.alloc _⟩, ⟨c3, p3, rfl, a3.alloc _, b3.alloc _⟩, ⟨c4, p4, rfl, a4.alloc _, b4.alloc _⟩⟩, (Keep.refl _ _).alloc _⟩
    by_cases h16 : i = 16
    · subst h16
      simp only [List.getElem?_toArray, List.getElem?_cons_zero, List.getElem?_cons_succ, Option.some.injEq] at ho
      subst ho
      obtain ⟨g, u0, u1, u2, u3, u4, e18, hb, a0, a1, a2, a3, a4⟩ := hA ⟨15, .data⟩ (by simp) rfl
      have e18 : a.tmps.getD 18 undef = .slice (some ⟨g, 0, none⟩) 5 5 := e18
      refine Does.plain rfl ?_
      unfold yieldsK
      go_simp
      refine (HE.out w' (HF.out.keepN hK) g u0 u1 u2 u3 u4 hb a0 a1 a2 a3 a4).mono ?_
      rintro e w2 ⟨rfl, h2⟩
      exact ⟨_, rfl, rfl, h2⟩
    by_cases h17 : i = 17
    · subst h17
      simp only [List.getElem?_toArray, List.getElem?_cons_zero, List.getElem?_cons_succ, Option.some.injEq] at ho
      subst ho
      have e19 : a.tmps.getD 19 undef = .bool (okF f) := hA ⟨16, .data⟩ (by simp) rfl
      refine Does.plain rfl ?_
      unfold yieldsK
      go_simp
      exact ⟨rfl, Keep.refl _ _⟩
    omega
  case spec =>
    intro o a w' ho
    simp at ho
  case fin =>
    intro a w' hF gK hA
    have e20 : a.tmps.getD (3 + 17) undef = .bool (!okF f) := hA 17 (by decide)
    have ha := frame_fill (n := 18) hF (of_decide_eq_true rfl)
    rw [ha]
    rw [show List.range 18 = [0, 1, 2, 3, 4, 5, 6, 7, 8, 9, 10, 11, 12, 13, 14, 15, 16, 17] from rfl]
    simp only [List.map_cons, List.map_nil, e20]
    generalize a.tmps.getD (3 + 0) undef = u0
    generalize a.tmps.getD (3 + 1) undef = u1
    generalize a.tmps.getD (3 + 2) undef = u2
    generalize a.tmps.getD (3 + 3) undef = u3
    generalize a.tmps.getD (3 + 4) undef = u4
    generalize a.tmps.getD (3 + 5) undef = u5
    generalize a.tmps.getD (3 + 6) undef = u6
    generalize a.tmps.getD (3 + 7) undef = u7
    generalize a.tmps.getD (3 + 8) undef = u8
    generalize a.tmps.getD (3 + 9) undef = u9
    generalize a.tmps.getD (3 + 10) undef = u10
    generalize a.tmps.getD (3 + 11) undef = u11
    generalize a.tmps.getD (3 + 12) undef = u12
    generalize a.tmps.getD (3 + 13) undef = u13
    generalize a.tmps.getD (3 + 14) undef = u14
    generalize a.tmps.getD (3 + 15) undef = u15
    generalize a.tmps.getD (3 + 16) undef = u16
    simp only [fillT, List.setIfInBounds_toArray, List.set_cons_zero, List.set_cons_succ]
    have HR := Lib.hid (keepN k0 gK)
    clear gK k0 hA hF ha e20 HE HF HX q0 q1 q2 q3 q4
    cases ho : okF f
    · obtain rfl : 70 = R := by rw [← hR.out]; exact (chkF_no ho).symm
      clear hR ho
      go_wp2
      go_ret
      exact ⟨rfl, HR.out⟩
    · obtain rfl : 0 = R := by rw [← hR.out]; exact (chkF_ok ho).symm
      clear hR ho
      go_wp2
      go_ret
      exact ⟨rfl, HR.out⟩

end Go.Proofs.YtgifflfjhockaaaGreatDoor.F

namespace Go.Proofs.YtgifflfjhockaaaGreatDoor.I
open Go.RowKit W

set_option maxRecDepth 100000 in
set_option maxHeartbeats 4000000 in
theorem indexS_any (A : Option Addr) (es : List SE) (n c k b : Nat) (w : World) (hcf : ∀ args w, (callFunc k args).run Tryz.prog w = .ok (.enter k args) w) (hr : Hid (∀ W, Keep NoB w W → Rd W A (svs es))) (hn : Hid (es.length = n)) (hm : n ≤ 1000) (bs : Nat → Bool)
    (hq : Hid (∀ i (h : i < es.length) W, Keep NoB w W → Calls Tryz.prog k #[es[i].1.val, .pointer (some ⟨b, 0, none⟩)] W fun e W' => e = .returned (.bool (bs i)) ∧ Keep NoB W W')) :
    Calls Tryz.prog 147 #[.slice A n c, .func (.func k) #[] #[.pointer (some ⟨b, 0, none⟩)]] w fun e w' => ∃ R : Int, e = .returned (.int .i64 R) ∧ ((0 ≤ R ∧ ∃ i, i < n ∧ bs i = true) ∨ (R = -1 ∧ ∀ i, i < n → bs i = false)) ∧ Keep NoB w w' := by
  go_enter Tryz.func147, Tryz.ntmps147
  go_wp2
  go_loopw [8] (fun i wr => ∃ j : Nat, j ≤ n ∧ i = .int .i64 j ∧ Hid (∀ t, t < j → bs t = false) ∧ Keep NoB w wr) (fun i _ => n - (intOf i).toNat)
  case atStart => exact ⟨0, Nat.zero_le _, rfl, fun t h => absurd h (by omega), Keep.refl _ _⟩
  case round =>
    obtain ⟨j, hj, rfl, hB, hK⟩ := hrel
    by_cases hlt : j < n
    · have hje : j < es.length := by rw [hn.out]; exact hlt
      obtain ⟨g, off, rfl, c0⟩ := shape_at (hr.out _ hK) hje
      have HQ := Lib.hid (hq.out j hje _ hK)
      generalize es[j] = e at c0 HQ
      obtain ⟨⟨A1, n1, d1⟩, l⟩ := e
      dsimp only [SV.val] at c0 HQ
      obtain ⟨bj, hbj⟩ : ∃ x, bs j = x := ⟨_, rfl⟩
      rw [hbj] at HQ
      have HBJ := Lib.hid hbj
      clear hbj
      go_wp2_with fail
      refine HQ.out.mono ?_
      rintro e w1 ⟨rfl, k1⟩
      replace hK := keepN hK k1
      cases bj
      · go_wp2
        go_roundw
        case rel => exact ⟨j + 1, by omega, by go_num, fun t ht => (by
          rcases Nat.lt_succ_iff_lt_or_eq.1 ht with h | rfl
          · exact hB.out t h
          · exact HBJ.out), hK⟩
        case measure => simp [intOf]; omega
      · go_wp2
        go_ret
        exact ⟨_, rfl, .inl ⟨by omega, j, hlt, HBJ.out⟩, hK⟩
    · obtain rfl : j = n := by omega
      go_wp2
      go_ret
      exact ⟨_, rfl, .inr ⟨rfl, hB.out⟩, hK⟩

set_option maxRecDepth 100000 in
set_option maxHeartbeats 2000000 in
theorem containsS_any (A : Option Addr) (es : List SE) (n c k b : Nat) (w : World) (hcf : ∀ args w, (callFunc k args).run Tryz.prog w = .ok (.enter k args) w) (hr : Hid (∀ W, Keep NoB w W → Rd W A (svs es))) (hn : Hid (es.length = n)) (hm : n ≤ 1000) (bs : Nat → Bool)
    (hq : Hid (∀ i (h : i < es.length) W, Keep NoB w W → Calls Tryz.prog k #[es[i].1.val, .pointer (some ⟨b, 0, none⟩)] W fun e W' => e = .returned (.bool (bs i)) ∧ Keep NoB W W'))
    (B : Bool) (h1 : Hid ((∃ i, i < n ∧ bs i = true) → B = true)) (h0 : Hid ((∀ i, i < n → bs i = false) → B = false)) :
    Calls Tryz.prog 94 #[.slice A n c, .func (.func k) #[] #[.pointer (some ⟨b, 0, none⟩)]] w fun e w' => e = .returned (.bool B) ∧ Keep NoB w w' := by
  have HI := Lib.hid (indexS_any A es n c k b w hcf hr hn hm bs hq)
  clear hq hr hcf
  go_enter Tryz.func94, Tryz.ntmps94
  go_wp2_with fail
  refine HI.out.mono ?_
  rintro e w1 ⟨R, rfl, hR, k1⟩
  rcases hR with ⟨h2, h3⟩ | ⟨rfl, h3⟩
  · obtain rfl : B = true := h1.out h3
    have hd : decide ((0 : Int) ≤ R) = true := decide_eq_true h2
    clear h3 h1 h0
    go_wp2
    go_ret
    exact ⟨rfl, k1⟩
  · obtain rfl : B = false := h0.out h3
    clear h3 h1 h0
    go_wp2
    go_ret
    exact ⟨rfl, k1⟩

set_option maxRecDepth 100000 in
set_option maxHeartbeats 2000000 in
theorem asksS_any (k : Nat) (hcf : ∀ args w, (callFunc k args).run Tryz.prog w = .ok (.enter k args) w) (v : SV) (b : Nat) (w : World) (u0 u1 u3 u4 u5 : Value) (hb : Blk w b 86 #[u0, u1, F.fnV k, u3, u4, u5]) (R : Int) (B : Bool) (hB : (R != 0) = B)
    (HG : Hid (∀ W, Keep NoB w W → Calls Tryz.prog k #[v.val] W fun e w' => e = .returned (.int .i64 R) ∧ Keep NoB W w')) :
    Calls Tryz.prog 95 #[v.val, .pointer (some ⟨b, 0, none⟩)] w fun e w' => e = .returned (.bool B) ∧ Keep NoB w w' := by
  have c2 := hb.cell 2
  unfold F.fnV at c2
  simp only [List.getElem?_toArray, List.getElem?_cons_zero, List.getElem?_cons_succ] at c2
  clear hb
  dsimp only [SV.val] at HG ⊢
  go_enter Tryz.func95, Tryz.ntmps95
  go_wp2_with fail
  refine (HG.out _ (Keep.refl _ _)).mono ?_
  rintro e w1 ⟨rfl, k1⟩
  go_wp2
  go_ret
  exact ⟨rfl, k1⟩

/-- What an image's parts of this kind have. -/
def partS : Value := .agg #[.int .i64 0, .int .i64 64, F.fnV 72, F.fnV 73, F.fnV 74, F.fnV 75]
theorem partS_size : (Tryz.prog.info? 86).map (·.size) = some 6 := by kernel_rfl
set_option maxRecDepth 100000 in
set_option maxHeartbeats 2000000 in
theorem partsS_any (w : World) : Calls Tryz.prog 37 #[] w fun e w' => e = .returned partS ∧ Keep NoB w w' := by
  have bz := Blk.new w 86 #[.int .i64 0, .int .i64 64, F.fnV 72, F.fnV 73, F.fnV 74, F.fnV 75]
  have k0 := (Keep.refl NoB w).alloc (.cells #[.int .i64 0, .int .i64 64, F.fnV 72, F.fnV 73, F.fnV 74, F.fnV 75] 86)
  have HB := Lib.hid bz
  have HK := Lib.hid k0
  unfold partS F.fnV at *
  clear bz k0
  go_enter Tryz.func37, Tryz.ntmps37
  go_wp2
  refine bodyPost_ret (results_cell_row rfl _ _ w.heap.size 86 _ (0, 0) _ rfl HB.out Tryz.underlying86 rfl partS_size) rfl ?_
  exact ⟨rfl, HK.out⟩

/-- What may answers. -/
def mayS (l : List SE) : Bool := decide (0 ≤ l.length ∧ l.length ≤ 64) && l.all fun e => S.okS e.2
set_option maxRecDepth 100000 in
set_option maxHeartbeats 4000000 in
theorem mayS_any (A : Option Addr) (es : List SE) (n c : Nat) (w : World) (hr : Hid (∀ W, Keep NoB w W → Rd W A (svs es))) (hn : Hid (es.length = n)) (hm : n ≤ 9223372036854775807) (he : Hid (∀ e ∈ es, ∀ W, Keep NoB w W → Calls Tryz.prog 72 #[e.1.val] W fun r W' => r = .returned (.int .i64 (S.chkS e.2)) ∧ Keep NoB W W')) :
    Calls Tryz.prog 52 #[.slice A n c, partS] w fun r w' => r = .returned (.bool (mayS es)) ∧ Keep NoB w w' := by
  have bz := Blk.new w 86 #[.int .i64 0, .int .i64 64, F.fnV 72, F.fnV 73, F.fnV 74, F.fnV 75]
  have k0 := (Keep.refl NoB w).alloc (.cells #[.int .i64 0, .int .i64 64, F.fnV 72, F.fnV 73, F.fnV 74, F.fnV 75] 86)
  have hmf : ∀ (fn : Go.Fn) (first cap : Array Value) (w : World), (Instr.makeFunc fn first cap).run Tryz.prog w = .ok (.func fn first cap) w := fun _ _ _ _ => rfl
  have q0 := bz.cell 0
  have q1 := bz.cell 1
  simp only [List.getElem?_toArray, List.getElem?_cons_zero, List.getElem?_cons_succ] at q0 q1
  have HZ := Lib.hid bz
  obtain ⟨M, hM⟩ : ∃ M, mayS es = M := ⟨_, rfl⟩
  rw [hM]
  have HM := Lib.hid hM
  clear hM bz
  unfold partS F.fnV at *
  by_cases h64 : n ≤ 64
  · have HC := Lib.hid (fun W (hk : Keep NoB (w.alloc (.cells #[.int .i64 0, .int .i64 64, F.fnV 72, F.fnV 73, F.fnV 74, F.fnV 75] 86)) W) => containsS_any A es n c 95 w.heap.size W (enters_of Tryz.func95 (by kernel_rfl) rfl) (fun W' hk' => hr.out W' (keepN (keepN k0 hk) hk')) hn (by omega) (fun i => (es[i]?.map fun e => (S.chkS e.2 != 0)).getD false)
      (fun i h W' hk' => asksS_any 72 (enters_of Tryz.func72 (by kernel_rfl) rfl) es[i].1 w.heap.size W' _ _ _ _ _ (HZ.out.keep (keepN hk hk') id) (S.chkS es[i].2) _ (by simp [h]) (fun W2 hk2 => he.out _ (List.getElem_mem h) W2 (keepN (keepN (keepN k0 hk) hk') hk2)))
      (!(es.all fun e => S.okS e.2))
      (by
        rintro ⟨i, hi, hb⟩
        have hi2 : i < es.length := by rw [hn.out]; exact hi
        simp only [List.getElem?_eq_getElem hi2, Option.map_some, Option.getD_some] at hb
        rw [Bool.not_eq_true', ← Bool.not_eq_true]
        intro hall
        have := List.all_eq_true.1 hall _ (List.getElem_mem hi2)
        rw [S.chkS_ok this] at hb
        exact absurd hb (by decide))
      (by
        intro hb
        rw [Bool.not_eq_false']
        refine List.all_eq_true.2 fun e hm => ?_
        obtain ⟨i, hi, rfl⟩ := List.getElem_of_mem hm
        have := hb i (by rw [← hn.out]; exact hi)
        simp only [List.getElem?_eq_getElem hi, Option.map_some, Option.getD_some] at this
        cases ho : S.okS es[i].2
        · rw [S.chkS_no ho] at this; exact absurd this (by decide)
        · rfl))
    unfold F.fnV at HC
    obtain ⟨al, hal⟩ : ∃ al, (es.all fun e => S.okS e.2) = al := ⟨_, rfl⟩
    rw [hal] at HC
    have HV : Hid (al = M) := by
      show _ = _
      rw [← HM.out, ← hal]; unfold mayS; rw [hn.out, decide_eq_true (by omega : 0 ≤ n ∧ n ≤ 64)]; rfl
    clear hal HM he hr HZ
    go_enter Tryz.func52, Tryz.ntmps52
    go_wp2_with fail
    refine (HC.out _ (Keep.refl _ _)).mono ?_
    rintro e w1 ⟨rfl, k1⟩
    go_wp2
    go_ret
    exact ⟨by rw [← HV.out]; cases al <;> rfl, keepN k0 k1⟩
  · have hd : decide ((n : Int) ≤ 64) = false := by rw [decide_eq_false_iff_not]; omega
    obtain rfl : false = M := by
      rw [← HM.out]; unfold mayS; rw [hn.out, decide_eq_false (by omega : ¬ (0 ≤ n ∧ n ≤ 64))]; rfl
    clear HM he hr HZ
    go_enter Tryz.func52, Tryz.ntmps52
    go_wp2
    go_ret
    exact ⟨rfl, k0⟩

set_option maxRecDepth 100000 in
set_option maxHeartbeats 4000000 in
theorem indexF_any (A : Option Addr) (fs : List FE) (n c k b : Nat) (w : World) (hcf : ∀ args w, (callFunc k args).run Tryz.prog w = .ok (.enter k args) w) (hr : Hid (∀ W, Keep NoB w W → Rd W A (fvs fs))) (hn : Hid (fs.length = n)) (hm : n ≤ 1000) (bs : Nat → Bool)
    (hq : Hid (∀ i (h : i < fs.length) W, Keep NoB w W → Calls Tryz.prog k #[fs[i].1.val, .pointer (some ⟨b, 0, none⟩)] W fun e W' => e = .returned (.bool (bs i)) ∧ Keep NoB W W')) :
    Calls Tryz.prog 148 #[.slice A n c, .func (.func k) #[] #[.pointer (some ⟨b, 0, none⟩)]] w fun e w' => ∃ R : Int, e = .returned (.int .i64 R) ∧ ((0 ≤ R ∧ ∃ i, i < n ∧ bs i = true) ∨ (R = -1 ∧ ∀ i, i < n → bs i = false)) ∧ Keep NoB w w' := by
  go_enter Tryz.func148, Tryz.ntmps148
  go_wp2
  go_loopw [8] (fun i wr => ∃ j : Nat, j ≤ n ∧ i = .int .i64 j ∧ Hid (∀ t, t < j → bs t = false) ∧ Keep NoB w wr) (fun i _ => n - (intOf i).toNat)
  case atStart => exact ⟨0, Nat.zero_le _, rfl, fun t h => absurd h (by omega), Keep.refl _ _⟩
  case round =>
    obtain ⟨j, hj, rfl, hB, hK⟩ := hrel
    by_cases hlt : j < n
    · have hje : j < fs.length := by rw [hn.out]; exact hlt
      obtain ⟨g, off, rfl, c0, c1, c2, c3, c4⟩ := fun_at (hr.out _ hK) hje
      have HQ := Lib.hid (hq.out j hje _ hK)
      generalize fs[j] = e at c0 c1 c2 c3 c4 HQ
      obtain ⟨⟨S1, A1, na1, ca1, B1, nb1, cb1, L1, nl1, cl1, D1, nd1, cd1⟩, l⟩ := e
      dsimp only [F.FV.val, F.FV.cells] at c0 c1 c2 c3 c4 HQ
      obtain ⟨bj, hbj⟩ : ∃ x, bs j = x := ⟨_, rfl⟩
      rw [hbj] at HQ
      have HBJ := Lib.hid hbj
      clear hbj
      go_wp2_with fail
      refine HQ.out.mono ?_
      rintro e w1 ⟨rfl, k1⟩
      replace hK := keepN hK k1
      cases bj
      · go_wp2
        go_roundw
        case rel => exact ⟨j + 1, by omega, by go_num, fun t ht => (by
          rcases Nat.lt_succ_iff_lt_or_eq.1 ht with h | rfl
          · exact hB.out t h
          · exact HBJ.out), hK⟩
        case measure => simp [intOf]; omega
      · go_wp2
        go_ret
        exact ⟨_, rfl, .inl ⟨by omega, j, hlt, HBJ.out⟩, hK⟩
    · obtain rfl : j = n := by omega
      go_wp2
      go_ret
      exact ⟨_, rfl, .inr ⟨rfl, hB.out⟩, hK⟩

set_option maxRecDepth 100000 in
set_option maxHeartbeats 2000000 in
theorem containsF_any (A : Option Addr) (fs : List FE) (n c k b : Nat) (w : World) (hcf : ∀ args w, (callFunc k args).run Tryz.prog w = .ok (.enter k args) w) (hr : Hid (∀ W, Keep NoB w W → Rd W A (fvs fs))) (hn : Hid (fs.length = n)) (hm : n ≤ 1000) (bs : Nat → Bool)
    (hq : Hid (∀ i (h : i < fs.length) W, Keep NoB w W → Calls Tryz.prog k #[fs[i].1.val, .pointer (some ⟨b, 0, none⟩)] W fun e W' => e = .returned (.bool (bs i)) ∧ Keep NoB W W'))
    (B : Bool) (h1 : Hid ((∃ i, i < n ∧ bs i = true) → B = true)) (h0 : Hid ((∀ i, i < n → bs i = false) → B = false)) :
    Calls Tryz.prog 96 #[.slice A n c, .func (.func k) #[] #[.pointer (some ⟨b, 0, none⟩)]] w fun e w' => e = .returned (.bool B) ∧ Keep NoB w w' := by
  have HI := Lib.hid (indexF_any A fs n c k b w hcf hr hn hm bs hq)
  clear hq hr hcf
  go_enter Tryz.func96, Tryz.ntmps96
  go_wp2_with fail
  refine HI.out.mono ?_
  rintro e w1 ⟨R, rfl, hR, k1⟩
  rcases hR with ⟨h2, h3⟩ | ⟨rfl, h3⟩
  · obtain rfl : B = true := h1.out h3
    have hd : decide ((0 : Int) ≤ R) = true := decide_eq_true h2
    clear h3 h1 h0
    go_wp2
    go_ret
    exact ⟨rfl, k1⟩
  · obtain rfl : B = false := h0.out h3
    clear h3 h1 h0
    go_wp2
    go_ret
    exact ⟨rfl, k1⟩

set_option maxRecDepth 100000 in
set_option maxHeartbeats 2000000 in
theorem asksF_any (k : Nat) (hcf : ∀ args w, (callFunc k args).run Tryz.prog w = .ok (.enter k args) w) (v : F.FV) (b : Nat) (w : World) (u0 u1 u3 u4 u5 : Value) (hb : Blk w b 93 #[u0, u1, F.fnV k, u3, u4, u5]) (R : Int) (B : Bool) (hB : (R != 0) = B)
    (HG : Hid (∀ W, Keep NoB w W → Calls Tryz.prog k #[v.val] W fun e w' => e = .returned (.int .i64 R) ∧ Keep NoB W w')) :
    Calls Tryz.prog 97 #[v.val, .pointer (some ⟨b, 0, none⟩)] w fun e w' => e = .returned (.bool B) ∧ Keep NoB w w' := by
  have k0 := (Keep.refl NoB w).alloc (.cells v.cells 61)
  have bx := Blk.new w 61 v.cells
  replace hb := hb.alloc (.cells v.cells 61)
  have c2 := hb.cell 2
  unfold F.fnV at c2
  simp only [List.getElem?_toArray, List.getElem?_cons_zero, List.getElem?_cons_succ] at c2
  clear hb
  obtain ⟨S1, A1, na1, ca1, B1, nb1, cb1, L1, nl1, cl1, D1, nd1, cd1⟩ := v
  obtain ⟨q0, q1, q2, q3, q4⟩ := F.blk5 bx
  dsimp only [F.FV.val, F.FV.cells] at HG k0 q0 q1 q2 q3 q4 c2 bx ⊢
  clear bx
  go_enter Tryz.func97, Tryz.ntmps97
  go_wp2_with fail
  refine (HG.out _ k0).mono ?_
  rintro e w1 ⟨rfl, k1⟩
  go_wp2
  go_ret
  exact ⟨rfl, keepN k0 k1⟩

/-- What an image's parts of this kind have. -/
def partF : Value := .agg #[.int .i64 1, .int .i64 64, F.fnV 76, F.fnV 77, F.fnV 78, F.fnV 79]
theorem partF_size : (Tryz.prog.info? 93).map (·.size) = some 6 := by kernel_rfl
set_option maxRecDepth 100000 in
set_option maxHeartbeats 2000000 in
theorem partsF_any (w : World) : Calls Tryz.prog 39 #[] w fun e w' => e = .returned partF ∧ Keep NoB w w' := by
  have bz := Blk.new w 93 #[.int .i64 1, .int .i64 64, F.fnV 76, F.fnV 77, F.fnV 78, F.fnV 79]
  have k0 := (Keep.refl NoB w).alloc (.cells #[.int .i64 1, .int .i64 64, F.fnV 76, F.fnV 77, F.fnV 78, F.fnV 79] 93)
  have HB := Lib.hid bz
  have HK := Lib.hid k0
  unfold partF F.fnV at *
  clear bz k0
  go_enter Tryz.func39, Tryz.ntmps39
  go_wp2
  refine bodyPost_ret (results_cell_row rfl _ _ w.heap.size 93 _ (0, 0) _ rfl HB.out Tryz.underlying93 rfl partF_size) rfl ?_
  exact ⟨rfl, HK.out⟩

/-- What may answers. -/
def mayF (l : List FE) : Bool := decide (1 ≤ l.length ∧ l.length ≤ 64) && l.all fun e => F.okF e.2
set_option maxRecDepth 100000 in
set_option maxHeartbeats 4000000 in
theorem mayF_any (A : Option Addr) (fs : List FE) (n c : Nat) (w : World) (hr : Hid (∀ W, Keep NoB w W → Rd W A (fvs fs))) (hn : Hid (fs.length = n)) (hm : n ≤ 9223372036854775807) (he : Hid (∀ e ∈ fs, ∀ W, Keep NoB w W → Calls Tryz.prog 76 #[e.1.val] W fun r W' => r = .returned (.int .i64 (F.chkF e.2)) ∧ Keep NoB W W')) :
    Calls Tryz.prog 53 #[.slice A n c, partF] w fun r w' => r = .returned (.bool (mayF fs)) ∧ Keep NoB w w' := by
  have bz := Blk.new w 93 #[.int .i64 1, .int .i64 64, F.fnV 76, F.fnV 77, F.fnV 78, F.fnV 79]
  have k0 := (Keep.refl NoB w).alloc (.cells #[.int .i64 1, .int .i64 64, F.fnV 76, F.fnV 77, F.fnV 78, F.fnV 79] 93)
  have hmf : ∀ (fn : Go.Fn) (first cap : Array Value) (w : World), (Instr.makeFunc fn first cap).run Tryz.prog w = .ok (.func fn first cap) w := fun _ _ _ _ => rfl
  have q0 := bz.cell 0
  have q1 := bz.cell 1
  simp only [List.getElem?_toArray, List.getElem?_cons_zero, List.getElem?_cons_succ] at q0 q1
  have HZ := Lib.hid bz
  obtain ⟨M, hM⟩ : ∃ M, mayF fs = M := ⟨_, rfl⟩
  rw [hM]
  have HM := Lib.hid hM
  clear hM bz
  unfold partF F.fnV at *
  by_cases hz : n = 0
  · subst hz
    obtain rfl : false = M := by
      rw [← HM.out]; unfold mayF; rw [hn.out]; rfl
    clear HM he hr HZ
    go_enter Tryz.func53, Tryz.ntmps53
    go_wp2
    go_ret
    exact ⟨rfl, k0⟩
  have hd1 : decide ((1 : Int) ≤ (n : Int)) = true := by rw [decide_eq_true_iff]; omega
  by_cases h64 : n ≤ 64
  · have HC := Lib.hid (fun W (hk : Keep NoB (w.alloc (.cells #[.int .i64 1, .int .i64 64, F.fnV 76, F.fnV 77, F.fnV 78, F.fnV 79] 93)) W) => containsF_any A fs n c 97 w.heap.size W (enters_of Tryz.func97 (by kernel_rfl) rfl) (fun W' hk' => hr.out W' (keepN (keepN k0 hk) hk')) hn (by omega) (fun i => (fs[i]?.map fun e => (F.chkF e.2 != 0)).getD false)
      (fun i h W' hk' => asksF_any 76 (enters_of Tryz.func76 (by kernel_rfl) rfl) fs[i].1 w.heap.size W' _ _ _ _ _ (HZ.out.keep (keepN hk hk') id) (F.chkF fs[i].2) _ (by simp [h]) (fun W2 hk2 => he.out _ (List.getElem_mem h) W2 (keepN (keepN (keepN k0 hk) hk') hk2)))
      (!(fs.all fun e => F.okF e.2))
      (by
        rintro ⟨i, hi, hb⟩
        have hi2 : i < fs.length := by rw [hn.out]; exact hi
        simp only [List.getElem?_eq_getElem hi2, Option.map_some, Option.getD_some] at hb
        rw [Bool.not_eq_true', ← Bool.not_eq_true]
        intro hall
        have := List.all_eq_true.1 hall _ (List.getElem_mem hi2)
        rw [F.chkF_ok this] at hb
        exact absurd hb (by decide))
      (by
        intro hb
        rw [Bool.not_eq_false']
        refine List.all_eq_true.2 fun e hm => ?_
        obtain ⟨i, hi, rfl⟩ := List.getElem_of_mem hm
        have := hb i (by rw [← hn.out]; exact hi)
        simp only [List.getElem?_eq_getElem hi, Option.map_some, Option.getD_some] at this
        cases ho : F.okF fs[i].2
        · rw [F.chkF_no ho] at this; exact absurd this (by decide)
        · rfl))
    unfold F.fnV at HC
    obtain ⟨al, hal⟩ : ∃ al, (fs.all fun e => F.okF e.2) = al := ⟨_, rfl⟩
    rw [hal] at HC
    have HV : Hid (al = M) := by
      show _ = _
      rw [← HM.out, ← hal]; unfold mayF; rw [hn.out, decide_eq_true (by omega : 1 ≤ n ∧ n ≤ 64)]; rfl
    clear hal HM he hr HZ
    go_enter Tryz.func53, Tryz.ntmps53
    go_wp2_with fail
    refine (HC.out _ (Keep.refl _ _)).mono ?_
    rintro e w1 ⟨rfl, k1⟩
    go_wp2
    go_ret
    exact ⟨by rw [← HV.out]; cases al <;> rfl, keepN k0 k1⟩
  · have hd : decide ((n : Int) ≤ 64) = false := by rw [decide_eq_false_iff_not]; omega
    obtain rfl : false = M := by
      rw [← HM.out]; unfold mayF; rw [hn.out, decide_eq_false (by omega : ¬ (1 ≤ n ∧ n ≤ 64))]; rfl
    clear HM he hr HZ
    go_enter Tryz.func53, Tryz.ntmps53
    go_wp2
    go_ret
    exact ⟨rfl, k0⟩

end Go.Proofs.YtgifflfjhockaaaGreatDoor.I

namespace Go.Proofs.YtgifflfjhockaaaGreatDoor.I
open Go.RowKit W

theorem shape_info : (Tryz.prog.info? 58).map (fun i => (i.zero, i.size, i.bytes)) = some (some (.slice none 0 0), 1, 24) := by kernel_rfl
theorem shape_size1 : (Tryz.prog.info? 58).map (·.size) = some 1 := by kernel_rfl
theorem fun_info : (Tryz.prog.info? 61).map (fun i => (i.zero, i.size, i.bytes)) = some (some (.agg F.nilV.cells), 5, 112) := by kernel_rfl
theorem made_gen {w w1 : World} {E sz n : Nat} {zs : List Value} (hrow : w1.ownsRow 0 E sz (.slice (some ⟨w.heap.size, 0, none⟩) n n) n zs) : ∃ rest : List Value, rest.length = n * sz ∧ Blk w1 w.heap.size E ([] ++ rest).toArray := by
  obtain ⟨h3, h4⟩ := hrow
  rcases h4 with ⟨h4, _⟩ | ⟨g, cap, cur, h4, _, h6, _, _, h7, _⟩
  · cases h4
  · injection h4 with h4 _ h8
    injection h4 with h4
    injection h4 with h4 _ _
    subst h4 h8
    exact ⟨cur.toList, by simpa using h7, by rw [List.nil_append, Array.toArray_toList]; exact h6⟩
theorem split_at {rest : List Value} {m sz : Nat} (h : rest.length = m) (h0 : sz ≤ m) : ∃ old r, rest = old ++ r ∧ old.length = sz ∧ r.length = m - sz :=
  ⟨rest.take sz, rest.drop sz, (List.take_append_drop _ _).symm, by rw [List.length_take]; omega, by rw [List.length_drop]; omega⟩
theorem own_blk {W : World} {g E sz n : Nat} {P : Nat → Prop} {xs : List Value} (h : Blk W g E xs.toArray) (hl : xs.length = n * sz) (hm : n ≤ maxLen) (hP : P g) : Own W E sz P (.slice (some ⟨g, 0, none⟩) n n) n xs :=
  ⟨⟨hl, .inr ⟨g, n, xs.toArray, rfl, Nat.zero_le _, h, Nat.le_refl _, hm, by simpa using hl, by rw [← hl]; simp⟩⟩, fun k e => by cases e; exact hP⟩
/-- A value put at an element's place. -/
theorem wpList_putN {ops : Array Oper} {rest : List Oper} {o : Oper} {a : Act} {w : World} {Q : Exit → Act → World → Prop} (hgd : o.guard = none) (x y : Operand) {E sz : Nat} (ho : o.op = .store E x y) (hE : (Tryz.prog.info? E).map (·.size) = some sz)
    {g off : Nat} {pre old r : List Value} {u : Value} (hB : Blk w g E (pre ++ (old ++ r)).toArray) (hp : pre.length = off) (hol : old.length = sz) (hu : u.cells.size = sz) (h1 : ∀ c ∈ u.cells.toList, c.oneCell' = true)
    (hx : a.eval x = .pointer (some ⟨g, off, none⟩)) (hy : a.eval y = u)
    (h : ∀ w', Blk w' g E (pre ++ u.cells.toList ++ r).toArray → Keep (fun b => b = g) w w' → wpList Tryz.prog ops Q rest (a.put o.dst undef) w') : wpList Tryz.prog ops Q (o :: rest) a w := by
  refine wpList_plain hgd fun K hK => ?_
  have hul : u.cells.toList.length = sz := by simpa using hu
  have hst := run_storeCells_at Tryz.prog g off E u.cells.toList 0 _ w hB (by simp; omega) h1
  have e : (pre ++ (old ++ r)).take (off + 0) ++ u.cells.toList ++ (pre ++ (old ++ r)).drop (off + 0 + u.cells.toList.length) = pre ++ u.cells.toList ++ r := by
    rw [Nat.add_zero, ← hp, List.take_left', List.drop_length_add_append, hul, ← hol, List.drop_left'] <;> rfl
  rw [e] at hst
  try rw [Nat.add_zero] at hst
  cases hq : Tryz.prog.info? E with
  | none => rw [hq] at hE; cases hE
  | some i0 =>
    have hz : i0.size = sz := by simpa [hq] using hE
    have hrun : (storeVar E ⟨g, off, none⟩ u).run Tryz.prog w = .ok () (w.setRow g (pre ++ u.cells.toList ++ r).toArray) := by
      simp [storeVar, sizeOf, typeInfo, hq, hz, hu, hst]
    unfold Oper.wp execOp
    simp only [ho, hx, hy, Instr.storeAt, Instr.sureAddr, Sem.run_bind, Sem.run_pure, Result.andThen_ok, hrun]
    exact hK _ _ (h _ (setRow_heap w g _ _ _ _ hB) ⟨rfl, rfl, rfl, by simp, fun b _ hne => setRow_other w g b _ hne⟩)

/-- Parts that are owned, each. -/
def OwnS (W : World) (P : Nat → Prop) (e : SE) : Prop := Own W 3 1 P (.slice e.1.A e.1.n e.1.c) e.1.n (ivs e.2)
theorem OwnS.keep {W W' : World} {P O : Nat → Prop} {e : SE} (h : OwnS W P e) (hk : Keep O W W') (hn : ∀ k, P k → ¬ O k) : OwnS W' P e := by
  unfold OwnS at *
  exact h.keep hk hn
theorem OwnS.mono {W : World} {P P' : Nat → Prop} {e : SE} (h : OwnS W P e) (hP : ∀ k, P k → k < W.heap.size → P' k) : OwnS W P' e := by
  unfold OwnS at *
  exact h.mono hP
/-- How read ends. -/
def RdRS (w : World) (br : Nat) (At : World → Nat → Prop) (R : Option (List (List Int) × Nat)) (e : Ending) (w' : World) : Prop :=
  (R = none ∧ e = .returned (.tuple #[.slice none 0 0, .bool false]) ∧ (∃ q, At w' q) ∧ Keep (fun k => k = br) w w') ∨
  (∃ q A n c, ∃ es : List SE, R = some (es.map (fun e => e.2), q) ∧ e = .returned (.tuple #[.slice A n c, .bool true]) ∧ Own w' 58 1 (Fresh w) (.slice A n c) n (svs es) ∧ (∀ e ∈ es, OwnS w' (Fresh w) e) ∧ At w' q ∧ Keep (fun k => k = br) w w')
theorem rdLS_1 {l : List UInt8} {p n r q : Nat} (h : V.NumR l p 64 = (n, r, q)) (hr : r ≠ 0) : rdL (S.decS l) l p = none := by unfold rdL; rw [h]; exact if_neg hr
theorem rdLS_2 {l : List UInt8} {p n q : Nat} (h : V.NumR l p 64 = (n, 0, q)) : rdL (S.decS l) l p = rdK (S.decS l) n q := by unfold rdL; rw [h]; exact if_pos rfl
/-- One part read: a failure, or the part, owned. -/
theorem decS_cases (w : World) (br : Nat) (Ob : Nat → Prop) (l : List UInt8) (p : Nat) (hO : ∀ k, Ob k → k < w.heap.size) (h : V.ReelAt w br Ob l p) (hlen : l.length ≤ 140737488355328) :
    Calls Tryz.prog 74 #[.pointer (some ⟨br, 0, none⟩)] w fun r w' => (∃ E q, ∃ e : SE, r = .returned (.tuple #[e.1.val, .int .i64 E]) ∧ E ≠ 0 ∧ (S.decS l) p = none ∧ V.ReelAt w' br Ob l q ∧ Keep (fun k => k = br) w w') ∨
      (∃ q, ∃ e : SE, r = .returned (.tuple #[e.1.val, .int .i64 0]) ∧ (S.decS l) p = some (e.2, q) ∧ OwnS w' (Fresh w) e ∧ V.ReelAt w' br Ob l q ∧ Keep (fun k => k = br) w w') := by
  have _ := hO
  refine (S.decodeS_any w br Ob l p h hlen).mono ?_
  rintro r w' ⟨v, q, rfl, hv, hat, hq, hk⟩
  obtain ⟨A, c, rfl, _, _, _, _⟩ := hv.form
  cases hd : S.decS l p with
  | none =>
    exact .inl ⟨60, q, (⟨A, 0, c⟩, []), rfl, by decide, rfl, hat, hk⟩
  | some y =>
    obtain ⟨y, q'⟩ := y
    have hv2 : Own w' 3 1 (Fresh w) (.slice A y.length c) y.length (ivs y) := by rw [hd] at hv; exact hv
    refine .inr ⟨q', (⟨A, y.length, c⟩, y), ?_, rfl, hv2, ?_, hk⟩
    · rfl
    · have := hq _ hd
      dsimp only at this
      rw [← this]; exact hat

set_option maxRecDepth 100000 in
set_option maxHeartbeats 8000000 in
theorem readS_any (w : World) (br : Nat) (Ob : Nat → Prop) (l : List UInt8) (p : Nat) (hO : ∀ k, Ob k → k < w.heap.size) (h : V.ReelAt w br Ob l p) (hlen : l.length ≤ 140737488355328) :
    Calls Tryz.prog 85 #[.pointer (some ⟨br, 0, none⟩), partS] w (RdRS w br (fun w' q => V.ReelAt w' br Ob l q) (rdL (S.decS l) l p)) := by
  have hbr := S.reel_lt h
  have bz := Blk.new w 86 #[.int .i64 0, .int .i64 64, F.fnV 72, F.fnV 73, F.fnV 74, F.fnV 75]
  have k0 := (Keep.refl NoB w).alloc (.cells #[.int .i64 0, .int .i64 64, F.fnV 72, F.fnV 73, F.fnV 74, F.fnV 75] 86)
  have HS := Lib.hid (V.rnumber_any _ br Ob l p 64 (h.keep k0 (fun _ _ => id)) hlen)
  obtain ⟨n, r, q, hN, hN0, hN1⟩ := S.num_case l p 64
  rw [hN] at HS
  have z1 := bz.cell 1
  simp only [List.getElem?_toArray, List.getElem?_cons_zero, List.getElem?_cons_succ] at z1
  have HZ := Lib.hid bz
  unfold partS F.fnV at *
  clear h bz
  by_cases hr : r = 0
  · subst hr
    obtain ⟨hn1, hn2⟩ := hN0 rfl
    have HD := Lib.hid (rdLS_2 hN)
    obtain ⟨i0, hi, hz0, hz1, hz2⟩ := info_parts shape_info
    have HO := Lib.hid hO
    clear hN0 hN1 hN hO
    go_enter Tryz.func85, Tryz.ntmps85
    go_wp2_with fail
    refine HS.out.mono ?_
    rintro e w1 ⟨rfl, h1, k1⟩
    have gs := k1.size
    simp only [World.size_alloc] at gs
    have hZ1 := HZ.out.keep k1 (by show ¬ (w.heap.size = br); omega)
    go_wp2_with (at_make; refine wpList_make_full _ rfl _ _ 22 rfl 0 58 i0 _ 1 Tryz.underlying22 hi hz0 hz1 _ _ _ _ n rfl rfl rfl rfl (by rw [hz2]; omega) (by unfold maxLen; omega) (Nat.zero_le _) ?_; intro w2 hrow2 hg2; obtain ⟨rest, hrl, hB2⟩ := made_gen hrow2; have k2 : Keep NoB w1 w2 := (Keep.refl NoB w1).grown hg2 (fun g e _ => by cases e); clear hrow2 hg2)
    have h2 := h1.keep k2 (fun _ _ => id)
    have gK : Keep (fun k => k = br) w w2 := ((k0.mono (fun _ hf _ => hf.elim)).trans k1 (fun _ ho _ => ho)).trans (k2.mono (fun _ hf _ => hf.elim)) (fun _ ho _ => ho)
    have HZ2 := Lib.hid (hZ1.keep k2 id)
    clear h1 k1 k2 hZ1 HZ k0 z1 HS
    go_loopw [24] (fun i wr => ∃ k : Nat, k ≤ n ∧ i = .int .i64 k ∧ ∃ es : List SE, ∃ qk rest, Hid (rdK (S.decS l) k q = some (es.map (fun e => e.2), qk)) ∧ es.length = k ∧ rest.length = (n - k) * 1 ∧ Hid (Blk wr w1.heap.size 58 (svs es ++ rest).toArray) ∧ Hid (∀ e ∈ es, OwnS wr (fun b => w.heap.size ≤ b ∧ b ≠ w1.heap.size) e) ∧ V.ReelAt wr br Ob l qk ∧ Keep (fun k => k = br) w wr ∧ w1.heap.size < wr.heap.size ∧ Hid (Blk wr w.heap.size 86 #[.int .i64 0, .int .i64 64, .func (.func 72) #[] #[], .func (.func 73) #[] #[], .func (.func 74) #[] #[], .func (.func 75) #[] #[]])) (fun i _ => n - (intOf i).toNat)
    case atStart => exact ⟨0, Nat.zero_le _, rfl, [], q, rest, rfl, rfl, hrl, hB2, (fun _ h => nomatch h), h2, gK, hB2.lt, HZ2.out⟩
    case round =>
      clear hB2 h2 gK hrl HZ2
      obtain ⟨k, hk, rfl, es, qk, rest, hf, hel, hrl, hB, hE, hA, hK, hwz, hZ⟩ := hrel
      by_cases hlt : k < n
      · obtain ⟨old, r, rfl, hol, hrl2⟩ := split_at hrl (show 1 ≤ (n - k) * 1 by omega)
        have HE := Lib.hid (decS_cases wr br Ob l qk (fun k h => Nat.lt_of_lt_of_le (HO.out k h) hK.size) hA hlen)
        have z4 := hZ.out.cell 4
        simp only [List.getElem?_toArray, List.getElem?_cons_zero, List.getElem?_cons_succ] at z4
        clear hA
        go_wp2_with fail
        refine HE.out.mono ?_
        have hgo : ∀ k, Ob k → ¬ (k = w1.heap.size) := fun k h e => by have := HO.out k h; omega
        have hgz : ¬ (w1.heap.size = br) := by omega
        have hwbr : ¬ (w.heap.size = br) := by omega
        have hwg : ¬ (w.heap.size = w1.heap.size) := by omega
        rintro e w4 (⟨E, q4, ⟨ev, ey⟩, rfl, hE0, hnone, h4, k4⟩ | ⟨q4, ⟨ev, ey⟩, rfl, hsome, hO4, h4, k4⟩)
        · have hB4 := hB.out.keep k4 hgz
          have hK4 := hK.trans k4 (fun _ ho _ => ho)
          have hr3 : (E != 0) = true := by rw [bne_iff_ne]; exact hE0
          have HD2 := Lib.hid (HD.out.trans (rdK_none (rdK_succ_no hf.out hnone) n (by omega)))
          clear hB hK k4 hE hZ z4 hnone hf
          obtain ⟨A1, n1, d1⟩ := ev
          have HU : Hid (∀ c ∈ (Value.slice A1 n1 d1).cells.toList, c.oneCell' = true) := fun u hu => by
            simp [Value.cells] at hu
            subst hu; rfl
          dsimp only [SV.val]
          go_wp2_with (refine wpList_putN rfl _ _ rfl shape_size1 hB4 (by rw [svs_length, hel]) hol (by rfl) HU.out rfl rfl ?_; intro w6 hB6 k6)
          go_ret2
          exact .inl ⟨HD2.out, rfl, ⟨q4, h4.keep k6 hgo⟩, hK4.trans k6 (fun b e hl => by omega)⟩
        · have hB4 := hB.out.keep k4 hgz
          have hK4 := hK.trans k4 (fun _ ho _ => ho)
          have hZ4 := hZ.out.keep k4 hwbr
          have HE4 : Hid (∀ e ∈ es, OwnS w4 (fun b => w.heap.size ≤ b ∧ b ≠ w1.heap.size) e) := fun e he => (hE.out e he).keep k4 (fun b hb e => by omega)
          have HN : Hid (OwnS w4 (fun b => w.heap.size ≤ b ∧ b ≠ w1.heap.size) (ev, ey)) := hO4.mono (fun b (hb : Fresh wr b) _ => ⟨Nat.le_trans hK.size hb, by have : wr.heap.size ≤ b := hb; omega⟩)
          have HF2 : Hid (rdK (S.decS l) (k + 1) q = some ((es ++ [(ev, ey)]).map (fun e => e.2), q4)) := by
            show _ = _
            rw [rdK_succ hf.out hsome]; simp
          have hsz4 := k4.size
          clear hB hK k4 hE hZ z4 hsome hf hO4
          obtain ⟨A1, n1, d1⟩ := ev
          have HU : Hid (∀ c ∈ (Value.slice A1 n1 d1).cells.toList, c.oneCell' = true) := fun u hu => by
            simp [Value.cells] at hu
            subst hu; rfl
          have HL := Lib.hid (And.intro HE4.out (And.intro HN.out (And.intro hK4 (And.intro h4 hZ4))))
          clear HE4 HN hK4 h4 hZ4
          dsimp only [SV.val]
          go_wp2_with (refine wpList_putN rfl _ _ rfl shape_size1 hB4 (by rw [svs_length, hel]) hol (by rfl) HU.out rfl rfl ?_; intro w6 hB6 k6)
          obtain ⟨HE4, HN, hK4, h4, hZ4⟩ := HL.out
          have hE6 : ∀ e ∈ es ++ [((⟨A1, n1, d1⟩ : SV), ey)], OwnS w6 (fun b => w.heap.size ≤ b ∧ b ≠ w1.heap.size) e := fun e he => by
            rcases List.mem_append.1 he with he | he
            · exact (HE4 e he).keep k6 (fun b hb e => hb.2 e)
            · rw [List.mem_singleton.1 he]; exact HN.keep k6 (fun b hb e => hb.2 e)
          have hBe : (svs es ++ [Value.slice A1 n1 d1] ++ r) = svs (es ++ [((⟨A1, n1, d1⟩ : SV), ey)]) ++ r := by rw [svs_append]; rfl
          replace hB6 : Blk w6 w1.heap.size 58 (svs (es ++ [((⟨A1, n1, d1⟩ : SV), ey)]) ++ r).toArray := by rw [← hBe]; exact hB6
          have hsz6 := k6.size
          go_roundw
          case rel => exact ⟨k + 1, by omega, by go_num, es ++ [((⟨A1, n1, d1⟩ : SV), ey)], q4, r, HF2.out, by simp [hel], by omega, hB6, hE6, h4.keep k6 hgo, hK4.trans k6 (fun b e hl => by omega), by omega, hZ4.keep k6 hwg⟩
          case measure => simp [intOf]; omega
      · obtain rfl : k = n := by omega
        obtain rfl : rest = [] := List.length_eq_zero_iff.1 (by rw [hrl]; omega)
        rw [List.append_nil] at hB
        rw [hf.out] at HD
        have hown : Own wr 58 1 (Fresh w) (.slice (some ⟨w1.heap.size, 0, none⟩) k k) k (svs es) := own_blk hB.out (by rw [svs_length, hel]; omega) (by unfold maxLen; omega) (by unfold Fresh; omega)
        clear hB hf
        go_wp2
        go_ret2
        exact .inr ⟨qk, _, k, k, es, HD.out, rfl, hown, fun e he => (hE.out e he).mono (fun b hb _ => hb.1), hA, hK⟩
  · have e1 := rdLS_1 hN hr
    rw [e1]
    have hr3 : ((r : Int) != 0) = true := by rw [bne_iff_ne]; omega
    clear hN0 hN1 hN hr e1
    go_enter Tryz.func85, Tryz.ntmps85
    go_wp2_with fail
    refine HS.out.mono ?_
    rintro e w1 ⟨rfl, h1, k1⟩
    go_wp2
    go_ret2
    exact .inl ⟨rfl, rfl, ⟨_, h1⟩, (k0.mono (fun _ hf _ => hf.elim)).trans k1 (fun _ ho _ => ho)⟩

/-- Parts that are owned, each. -/
def OwnF (W : World) (P : Nat → Prop) (e : FE) : Prop := F.OwnF W P e.1 e.2
theorem OwnF.keep {W W' : World} {P O : Nat → Prop} {e : FE} (h : OwnF W P e) (hk : Keep O W W') (hn : ∀ k, P k → ¬ O k) : OwnF W' P e := by
  unfold OwnF at *
  exact h.keep hk hn
theorem OwnF.mono {W : World} {P P' : Nat → Prop} {e : FE} (h : OwnF W P e) (hP : ∀ k, P k → k < W.heap.size → P' k) : OwnF W P' e := by
  unfold OwnF at *
  exact h.mono hP
/-- How read ends. -/
def RdRF (w : World) (br : Nat) (At : World → Nat → Prop) (R : Option (List (F.Fu) × Nat)) (e : Ending) (w' : World) : Prop :=
  (R = none ∧ e = .returned (.tuple #[.slice none 0 0, .bool false]) ∧ (∃ q, At w' q) ∧ Keep (fun k => k = br) w w') ∨
  (∃ q A n c, ∃ es : List FE, R = some (es.map (fun e => e.2), q) ∧ e = .returned (.tuple #[.slice A n c, .bool true]) ∧ Own w' 61 5 (Fresh w) (.slice A n c) n (fvs es) ∧ (∀ e ∈ es, OwnF w' (Fresh w) e) ∧ At w' q ∧ Keep (fun k => k = br) w w')
theorem rdLF_1 {l : List UInt8} {p n r q : Nat} (h : V.NumR l p 64 = (n, r, q)) (hr : r ≠ 0) : rdL (F.decF l) l p = none := by unfold rdL; rw [h]; exact if_neg hr
theorem rdLF_2 {l : List UInt8} {p n q : Nat} (h : V.NumR l p 64 = (n, 0, q)) : rdL (F.decF l) l p = rdK (F.decF l) n q := by unfold rdL; rw [h]; exact if_pos rfl
/-- One part read: a failure, or the part, owned. -/
theorem decF_cases (w : World) (br : Nat) (Ob : Nat → Prop) (l : List UInt8) (p : Nat) (hO : ∀ k, Ob k → k < w.heap.size) (h : V.ReelAt w br Ob l p) (hlen : l.length ≤ 140737488355328) :
    Calls Tryz.prog 78 #[.pointer (some ⟨br, 0, none⟩)] w fun r w' => (∃ E q, ∃ e : FE, r = .returned (.tuple #[e.1.val, .int .i64 E]) ∧ E ≠ 0 ∧ (F.decF l) p = none ∧ V.ReelAt w' br Ob l q ∧ Keep (fun k => k = br) w w') ∨
      (∃ q, ∃ e : FE, r = .returned (.tuple #[e.1.val, .int .i64 0]) ∧ (F.decF l) p = some (e.2, q) ∧ OwnF w' (Fresh w) e ∧ V.ReelAt w' br Ob l q ∧ Keep (fun k => k = br) w w') := by
  refine (F.decodeF_any w br Ob l p hO h hlen).mono ?_
  rintro r w' (⟨h1, rfl, ⟨q, hat⟩, hk⟩ | ⟨f, q, v, h1, rfl, hv, hat, hk⟩)
  · exact .inl ⟨70, q, (F.nilV, F.nilF), rfl, by decide, h1, hat, hk⟩
  · exact .inr ⟨q, (v, f), rfl, h1, hv, hat, hk⟩

set_option maxRecDepth 100000 in
set_option maxHeartbeats 8000000 in
theorem readF_any (w : World) (br : Nat) (Ob : Nat → Prop) (l : List UInt8) (p : Nat) (hO : ∀ k, Ob k → k < w.heap.size) (h : V.ReelAt w br Ob l p) (hlen : l.length ≤ 140737488355328) :
    Calls Tryz.prog 86 #[.pointer (some ⟨br, 0, none⟩), partF] w (RdRF w br (fun w' q => V.ReelAt w' br Ob l q) (rdL (F.decF l) l p)) := by
  have hbr := S.reel_lt h
  have bz := Blk.new w 93 #[.int .i64 1, .int .i64 64, F.fnV 76, F.fnV 77, F.fnV 78, F.fnV 79]
  have k0 := (Keep.refl NoB w).alloc (.cells #[.int .i64 1, .int .i64 64, F.fnV 76, F.fnV 77, F.fnV 78, F.fnV 79] 93)
  have HS := Lib.hid (V.rnumber_any _ br Ob l p 64 (h.keep k0 (fun _ _ => id)) hlen)
  obtain ⟨n, r, q, hN, hN0, hN1⟩ := S.num_case l p 64
  rw [hN] at HS
  have z1 := bz.cell 1
  simp only [List.getElem?_toArray, List.getElem?_cons_zero, List.getElem?_cons_succ] at z1
  have HZ := Lib.hid bz
  unfold partF F.fnV at *
  clear h bz
  by_cases hr : r = 0
  · subst hr
    obtain ⟨hn1, hn2⟩ := hN0 rfl
    have HD := Lib.hid (rdLF_2 hN)
    obtain ⟨i0, hi, hz0, hz1, hz2⟩ := info_parts fun_info
    have HO := Lib.hid hO
    clear hN0 hN1 hN hO
    go_enter Tryz.func86, Tryz.ntmps86
    go_wp2_with fail
    refine HS.out.mono ?_
    rintro e w1 ⟨rfl, h1, k1⟩
    have gs := k1.size
    simp only [World.size_alloc] at gs
    have hZ1 := HZ.out.keep k1 (by show ¬ (w.heap.size = br); omega)
    go_wp2_with (at_make; refine wpList_make_full _ rfl _ _ 23 rfl 0 61 i0 _ 5 Tryz.underlying23 hi hz0 hz1 _ _ _ _ n rfl rfl rfl rfl (by rw [hz2]; omega) (by unfold maxLen; omega) (Nat.zero_le _) ?_; intro w2 hrow2 hg2; obtain ⟨rest, hrl, hB2⟩ := made_gen hrow2; have k2 : Keep NoB w1 w2 := (Keep.refl NoB w1).grown hg2 (fun g e _ => by cases e); clear hrow2 hg2)
    have h2 := h1.keep k2 (fun _ _ => id)
    have gK : Keep (fun k => k = br) w w2 := ((k0.mono (fun _ hf _ => hf.elim)).trans k1 (fun _ ho _ => ho)).trans (k2.mono (fun _ hf _ => hf.elim)) (fun _ ho _ => ho)
    have HZ2 := Lib.hid (hZ1.keep k2 id)
    clear h1 k1 k2 hZ1 HZ k0 z1 HS
    go_loopw [24] (fun i wr => ∃ k : Nat, k ≤ n ∧ i = .int .i64 k ∧ ∃ es : List FE, ∃ qk rest, Hid (rdK (F.decF l) k q = some (es.map (fun e => e.2), qk)) ∧ es.length = k ∧ rest.length = (n - k) * 5 ∧ Hid (Blk wr w1.heap.size 61 (fvs es ++ rest).toArray) ∧ Hid (∀ e ∈ es, OwnF wr (fun b => w.heap.size ≤ b ∧ b ≠ w1.heap.size) e) ∧ V.ReelAt wr br Ob l qk ∧ Keep (fun k => k = br) w wr ∧ w1.heap.size < wr.heap.size ∧ Hid (Blk wr w.heap.size 93 #[.int .i64 1, .int .i64 64, .func (.func 76) #[] #[], .func (.func 77) #[] #[], .func (.func 78) #[] #[], .func (.func 79) #[] #[]])) (fun i _ => n - (intOf i).toNat)
    case atStart => exact ⟨0, Nat.zero_le _, rfl, [], q, rest, rfl, rfl, hrl, hB2, (fun _ h => nomatch h), h2, gK, hB2.lt, HZ2.out⟩
    case round =>
      clear hB2 h2 gK hrl HZ2
      obtain ⟨k, hk, rfl, es, qk, rest, hf, hel, hrl, hB, hE, hA, hK, hwz, hZ⟩ := hrel
      by_cases hlt : k < n
      · obtain ⟨old, r, rfl, hol, hrl2⟩ := split_at hrl (show 5 ≤ (n - k) * 5 by omega)
        have HE := Lib.hid (decF_cases wr br Ob l qk (fun k h => Nat.lt_of_lt_of_le (HO.out k h) hK.size) hA hlen)
        have z4 := hZ.out.cell 4
        simp only [List.getElem?_toArray, List.getElem?_cons_zero, List.getElem?_cons_succ] at z4
        clear hA
        go_wp2_with fail
        refine HE.out.mono ?_
        have hgo : ∀ k, Ob k → ¬ (k = w1.heap.size) := fun k h e => by have := HO.out k h; omega
        have hgz : ¬ (w1.heap.size = br) := by omega
        have hwbr : ¬ (w.heap.size = br) := by omega
        have hwg : ¬ (w.heap.size = w1.heap.size) := by omega
        rintro e w4 (⟨E, q4, ⟨ev, ey⟩, rfl, hE0, hnone, h4, k4⟩ | ⟨q4, ⟨ev, ey⟩, rfl, hsome, hO4, h4, k4⟩)
        · have hB4 := hB.out.keep k4 hgz
          have hK4 := hK.trans k4 (fun _ ho _ => ho)
          have hr3 : (E != 0) = true := by rw [bne_iff_ne]; exact hE0
          have HD2 := Lib.hid (HD.out.trans (rdK_none (rdK_succ_no hf.out hnone) n (by omega)))
          clear hB hK k4 hE hZ z4 hnone hf
          obtain ⟨S1, A1, na1, ca1, B1, nb1, cb1, L1, nl1, cl1, D1, nd1, cd1⟩ := ev
          have HU : Hid (∀ c ∈ (Value.agg #[.string S1, .slice A1 na1 ca1, .slice B1 nb1 cb1, .slice L1 nl1 cl1, .slice D1 nd1 cd1]).cells.toList, c.oneCell' = true) := fun u hu => by
            simp [Value.cells] at hu
            rcases hu with rfl | rfl | rfl | rfl | rfl <;> rfl
          dsimp only [F.FV.val, F.FV.cells]
          go_wp2_with (refine wpList_putN rfl _ _ rfl F.fun_size hB4 (by rw [fvs_length, hel]) hol (by rfl) HU.out rfl rfl ?_; intro w6 hB6 k6)
          go_ret2
          exact .inl ⟨HD2.out, rfl, ⟨q4, h4.keep k6 hgo⟩, hK4.trans k6 (fun b e hl => by omega)⟩
        · have hB4 := hB.out.keep k4 hgz
          have hK4 := hK.trans k4 (fun _ ho _ => ho)
          have hZ4 := hZ.out.keep k4 hwbr
          have HE4 : Hid (∀ e ∈ es, OwnF w4 (fun b => w.heap.size ≤ b ∧ b ≠ w1.heap.size) e) := fun e he => (hE.out e he).keep k4 (fun b hb e => by omega)
          have HN : Hid (OwnF w4 (fun b => w.heap.size ≤ b ∧ b ≠ w1.heap.size) (ev, ey)) := hO4.mono (fun b (hb : Fresh wr b) _ => ⟨Nat.le_trans hK.size hb, by have : wr.heap.size ≤ b := hb; omega⟩)
          have HF2 : Hid (rdK (F.decF l) (k + 1) q = some ((es ++ [(ev, ey)]).map (fun e => e.2), q4)) := by
            show _ = _
            rw [rdK_succ hf.out hsome]; simp
          have hsz4 := k4.size
          clear hB hK k4 hE hZ z4 hsome hf hO4
          obtain ⟨S1, A1, na1, ca1, B1, nb1, cb1, L1, nl1, cl1, D1, nd1, cd1⟩ := ev
          have HU : Hid (∀ c ∈ (Value.agg #[.string S1, .slice A1 na1 ca1, .slice B1 nb1 cb1, .slice L1 nl1 cl1, .slice D1 nd1 cd1]).cells.toList, c.oneCell' = true) := fun u hu => by
            simp [Value.cells] at hu
            rcases hu with rfl | rfl | rfl | rfl | rfl <;> rfl
          have HL := Lib.hid (And.intro HE4.out (And.intro HN.out (And.intro hK4 (And.intro h4 hZ4))))
          clear HE4 HN hK4 h4 hZ4
          dsimp only [F.FV.val, F.FV.cells]
          go_wp2_with (refine wpList_putN rfl _ _ rfl F.fun_size hB4 (by rw [fvs_length, hel]) hol (by rfl) HU.out rfl rfl ?_; intro w6 hB6 k6)
          obtain ⟨HE4, HN, hK4, h4, hZ4⟩ := HL.out
          have hE6 : ∀ e ∈ es ++ [((⟨S1, A1, na1, ca1, B1, nb1, cb1, L1, nl1, cl1, D1, nd1, cd1⟩ : F.FV), ey)], OwnF w6 (fun b => w.heap.size ≤ b ∧ b ≠ w1.heap.size) e := fun e he => by
            rcases List.mem_append.1 he with he | he
            · exact (HE4 e he).keep k6 (fun b hb e => hb.2 e)
            · rw [List.mem_singleton.1 he]; exact HN.keep k6 (fun b hb e => hb.2 e)
          have hBe : (fvs es ++ [Value.string S1, .slice A1 na1 ca1, .slice B1 nb1 cb1, .slice L1 nl1 cl1, .slice D1 nd1 cd1] ++ r) = fvs (es ++ [((⟨S1, A1, na1, ca1, B1, nb1, cb1, L1, nl1, cl1, D1, nd1, cd1⟩ : F.FV), ey)]) ++ r := by rw [fvs_append]; rfl
          replace hB6 : Blk w6 w1.heap.size 61 (fvs (es ++ [((⟨S1, A1, na1, ca1, B1, nb1, cb1, L1, nl1, cl1, D1, nd1, cd1⟩ : F.FV), ey)]) ++ r).toArray := by rw [← hBe]; exact hB6
          have hsz6 := k6.size
          go_roundw
          case rel => exact ⟨k + 1, by omega, by go_num, es ++ [((⟨S1, A1, na1, ca1, B1, nb1, cb1, L1, nl1, cl1, D1, nd1, cd1⟩ : F.FV), ey)], q4, r, HF2.out, by simp [hel], by omega, hB6, hE6, h4.keep k6 hgo, hK4.trans k6 (fun b e hl => by omega), by omega, hZ4.keep k6 hwg⟩
          case measure => simp [intOf]; omega
      · obtain rfl : k = n := by omega
        obtain rfl : rest = [] := List.length_eq_zero_iff.1 (by rw [hrl]; omega)
        rw [List.append_nil] at hB
        rw [hf.out] at HD
        have hown : Own wr 61 5 (Fresh w) (.slice (some ⟨w1.heap.size, 0, none⟩) k k) k (fvs es) := own_blk hB.out (by rw [fvs_length, hel]) (by unfold maxLen; omega) (by unfold Fresh; omega)
        clear hB hf
        go_wp2
        go_ret2
        exact .inr ⟨qk, _, k, k, es, HD.out, rfl, hown, fun e he => (hE.out e he).mono (fun b hb _ => hb.1), hA, hK⟩
  · have e1 := rdLF_1 hN hr
    rw [e1]
    have hr3 : ((r : Int) != 0) = true := by rw [bne_iff_ne]; omega
    clear hN0 hN1 hN hr e1
    go_enter Tryz.func86, Tryz.ntmps86
    go_wp2_with fail
    refine HS.out.mono ?_
    rintro e w1 ⟨rfl, h1, k1⟩
    go_wp2
    go_ret2
    exact .inl ⟨rfl, rfl, ⟨_, h1⟩, (k0.mono (fun _ hf _ => hf.elim)).trans k1 (fun _ ho _ => ho)⟩

end Go.Proofs.YtgifflfjhockaaaGreatDoor.I

namespace Go.Proofs.YtgifflfjhockaaaGreatDoor.I
open Go.RowKit W

/-- How many instructions there are. -/
def ndS (fs : List FE) : Nat := (fs.map fun e => e.1.nd).sum
theorem ndS_take {fs : List FE} {k : Nat} (h : k < fs.length) : ndS (fs.take (k + 1)) = ndS (fs.take k) + fs[k].1.nd := by
  unfold ndS; rw [List.take_succ_eq_append_getElem h, List.map_append, List.sum_append]; rfl
theorem blk2 {w : World} {g : Nat} {v : IV} (h : Blk w g 25 v.cells) : w.cell? ⟨g, 0, none⟩ = some (.slice v.X v.nx v.cx) ∧ w.cell? ⟨g, 1, none⟩ = some (.slice v.Y v.ny v.cy) := ⟨h.cell 0, h.cell 1⟩
/-- An image whose lists a machine holds. -/
structure LgI (v : IV) (es : List SE) (fs : List FE) : Prop where
  nx : v.nx ≤ 140737488355328
  ny : v.ny ≤ 140737488355328
  sh : ∀ e ∈ es, e.1.n ≤ 140737488355328
  fn : ∀ e ∈ fs, F.LgF e.1

set_option maxRecDepth 100000 in
set_option maxHeartbeats 4000000 in
theorem great_any (v : IV) (es : List SE) (fs : List FE) (w : World) (h : ImAt w v es fs) (hl : LgI v es fs) :
    Calls Tryz.prog 10 #[v.val] w fun e w' => ((e = .returned (.int .i64 0) ∧ SmI es fs ∧ ndS fs ≤ 5000) ∨ e = .returned (.int .i64 1)) ∧ Keep NoB w w' := by
  have bx := Blk.new w 25 v.cells
  have k0 := (Keep.refl NoB w).alloc (.cells v.cells 25)
  have HI := Lib.hid (h.keepN k0)
  obtain ⟨q0, q1⟩ := blk2 bx
  have hlx := h.lx
  have hly := h.ly
  have hx := hl.nx
  have hy := hl.ny
  have HS := Lib.hid hl.sh
  have HF := Lib.hid hl.fn
  have HB := Lib.hid bx
  obtain ⟨X, nx, cx, Y, ny, cy⟩ := v
  dsimp only [IV.val, IV.cells] at *
  clear h hl bx
  by_cases hg : nx ≤ 70
  · by_cases hg2 : ny ≤ 70
    · go_enter Tryz.func10, Tryz.ntmps10
      go_wp2
      go_loop [3] (fun i => ∃ k : Nat, k ≤ nx ∧ i = .int .i64 k ∧ Hid (∀ e ∈ es.take k, e.1.n ≤ 100)) (fun i => nx - (intOf i).toNat)
      case atStart => exact ⟨0, Nat.zero_le _, rfl, fun e h => by simp at h⟩
      case round =>
        obtain ⟨k, hk, rfl, hT⟩ := hrel
        by_cases hlt : k < nx
        · have hke : k < es.length := by omega
          obtain ⟨g, off, rfl, c0⟩ := shape_at HI.out.rx hke
          have hL := HS.out _ (List.getElem_mem hke)
          have HT : Hid (es[k].1.n ≤ 100 → ∀ e ∈ es.take (k + 1), e.1.n ≤ 100) := fun h e he => by
            rw [List.take_succ_eq_append_getElem hke] at he
            rcases List.mem_append.1 he with he | he
            · exact hT.out e he
            · rw [List.mem_singleton.1 he]; exact h
          clear hT
          generalize es[k] = e at c0 hL HT
          obtain ⟨⟨A1, n1, d1⟩, l⟩ := e
          dsimp only [SV.val] at c0 hL HT
          by_cases h1 : n1 ≤ 100
          · have HV := Lib.hid (HT.out h1)
            clear HT
            go_wp2
            go_round
            case rel => exact ⟨k + 1, by omega, by go_num, HV⟩
            case measure => simp [intOf]; omega
          · clear HT
            go_wp2
            go_ret
            exact ⟨.inr rfl, k0⟩
        · obtain rfl : k = nx := by omega
          have HV : Hid (∀ e ∈ es, e.1.n ≤ 100) := by show ∀ e ∈ es, e.1.n ≤ 100; rw [← List.take_of_length_le (l := es) (i := k) (by omega)]; exact hT.out
          clear hT hlt
          have hF := fun e he => HF.out e he
          go_wp2
          go_loopw [4, 5] (fun s i wr => ∃ j : Nat, j ≤ ny ∧ i = .int .i64 j ∧ s = .int .i64 (ndS (fs.take j) : Nat) ∧ ndS (fs.take j) ≤ 5000 ∧ Hid (∀ e ∈ fs.take j, F.SmF e.1) ∧ Keep NoB (w.alloc (.cells #[.slice X k cx, .slice Y ny cy] 25)) wr) (fun _ i _ => ny - (intOf i).toNat)
          case atStart => exact ⟨0, Nat.zero_le _, rfl, rfl, Nat.zero_le _, fun e h => by simp at h, Keep.refl _ _⟩
          case round =>
            obtain ⟨j, hj, rfl, rfl, hs5, hT, hK⟩ := hrel
            replace q1 := hK.cell q1 id
            by_cases hlt : j < ny
            · have hje : j < fs.length := by omega
              obtain ⟨g, off, rfl, c0, c1, c2, c3, c4⟩ := fun_at (HI.out.keepN hK).ry hje
              have hL := hF _ (List.getElem_mem hje)
              have hnd := ndS_take hje
              have HT : Hid (F.SmF fs[j].1 → ∀ e ∈ fs.take (j + 1), F.SmF e.1) := fun h e he => by
                rw [List.take_succ_eq_append_getElem hje] at he
                rcases List.mem_append.1 he with he | he
                · exact hT.out e he
                · rw [List.mem_singleton.1 he]; exact h
              clear hT
              generalize fs[j] = e at c0 c1 c2 c3 c4 hL HT hnd
              obtain ⟨fv, f⟩ := e
              dsimp only at c0 c1 c2 c3 c4 hL HT hnd
              have hL4 := hL.nd
              clear hF HF HS hL
              generalize ndS (fs.take j) = N at *
              by_cases h1 : F.SmF fv
              · have HG := Lib.hid (fun w => F.great_no fv w h1)
                have HV := Lib.hid (HT.out h1)
                clear HT h1
                obtain ⟨S1, A1, na1, ca1, B1, nb1, cb1, L1, nl1, cl1, D1, nd1, cd1⟩ := fv
                dsimp only [F.FV.val, F.FV.cells] at *
                by_cases h5 : N + nd1 ≤ 5000
                · go_wp2_with fail
                  refine (HG.out _).mono ?_
                  rintro e w1 ⟨rfl, k1⟩
                  have hK1 := keepN hK k1
                  go_wp2
                  go_roundw
                  case rel => exact ⟨j + 1, by omega, by go_num, by rw [hnd]; go_num, by omega, HV, hK1⟩
                  case measure => simp [intOf]; omega
                · have h6 : (5000 : Int) < (N : Int) + (nd1 : Int) := by omega
                  go_wp2_with fail
                  refine (HG.out _).mono ?_
                  rintro e w1 ⟨rfl, k1⟩
                  have hK1 := keepN hK k1
                  go_wp2
                  go_ret
                  exact ⟨.inr rfl, keepN k0 hK1⟩
              · have HG := Lib.hid (fun w => F.great_yes fv w h1)
                clear HT h1
                obtain ⟨S1, A1, na1, ca1, B1, nb1, cb1, L1, nl1, cl1, D1, nd1, cd1⟩ := fv
                dsimp only [F.FV.val, F.FV.cells] at *
                go_wp2_with fail
                refine (HG.out _).mono ?_
                rintro e w1 ⟨rfl, k1⟩
                have hK1 := keepN hK k1
                go_wp2
                go_ret
                exact ⟨.inr rfl, keepN k0 hK1⟩
            · obtain rfl : j = ny := by omega
              have hall : fs.take j = fs := List.take_of_length_le (by omega)
              rw [hall] at hs5 hT
              have HR : Hid (SmI es fs ∧ ndS fs ≤ 5000) := ⟨⟨by omega, by omega, HV.out, hT.out⟩, hs5⟩
              clear hF HF HS HV hT hs5
              go_wp2
              go_ret
              exact ⟨.inl ⟨rfl, HR.out.1, HR.out.2⟩, keepN k0 hK⟩
    · have hd : decide ((70 : Int) < (ny : Int)) = true := by rw [decide_eq_true_iff]; omega
      go_enter Tryz.func10, Tryz.ntmps10
      go_wp2
      go_ret
      exact ⟨.inr rfl, k0⟩
  · have hd : decide ((70 : Int) < (nx : Int)) = true := by rw [decide_eq_true_iff]; omega
    go_enter Tryz.func10, Tryz.ntmps10
    go_wp2
    go_ret
    exact ⟨.inr rfl, k0⟩

end Go.Proofs.YtgifflfjhockaaaGreatDoor.I

namespace Go.Proofs.YtgifflfjhockaaaGreatDoor.I
open Go.RowKit W

theorem img_size : (Tryz.prog.info? 25).map (·.size) = some 2 := by kernel_rfl
theorem ret_imgE {fn : Func} {tmps : Array Value} {w : World} {g : Nat} {v : IV} {e : Value} (h : fn.results = #[.cell 2 25, .tmp 3]) (hp : tmps.getD 2 undef = .pointer (some ⟨g, 0, none⟩)) (hb : Blk w g 25 v.cells) (he : tmps.getD 3 undef = e) :
    (results fn tmps).run Tryz.prog w = .ok (.tuple #[v.val, e]) w := by
  rw [results_cell_tmp h, hp, he]
  simp only [asAddr, Sem.run_pure, Result.andThen_ok]
  rw [run_loadVar_row w g 25 25 v.cells (0, 0) _ hb Tryz.underlying25 rfl img_size]
  rfl
theorem ret_img {fn : Func} {p : Tmp} {tmps : Array Value} {w : World} {g : Nat} {v : IV} (h : fn.results = #[.cell p 25]) (hp : tmps.getD p undef = .pointer (some ⟨g, 0, none⟩)) (hb : Blk w g 25 v.cells) :
    (results fn tmps).run Tryz.prog w = .ok v.val w :=
  results_cell_row h tmps w g 25 v.cells (0, 0) _ hp hb Tryz.underlying25 rfl img_size
theorem put2_img {W : World} {g : Nat} {x y : Value} (h : Blk W g 25 #[x, y]) (u v : Value) : Blk ((W.setCell ⟨g, 0, none⟩ u).setCell ⟨g, 1, none⟩ v) g 25 #[u, v] := by
  have := (h.put 0 u).put 1 v
  simpa using this
theorem keep2_img (W : World) (g : Nat) (u v : Value) : Keep (fun k => k = g) W ((W.setCell ⟨g, 0, none⟩ u).setCell ⟨g, 1, none⟩ v) :=
  ((Keep.refl (fun k => k = g) W).setCell (p := ⟨g, 0, none⟩) (fun _ => rfl) u).setCell (p := ⟨g, 1, none⟩) (fun _ => rfl) v
/-- How inner ends. -/
def InnR (w : World) (l : List UInt8) (e : Ending) (w' : World) : Prop :=
  ∃ v es fs, ∃ b : Bool, e = .returned (.tuple #[v.val, .bool b]) ∧ OwnIm w' (Fresh w) v es fs ∧ Keep NoB w w' ∧ (b = true → rdI l 0 = some (imOf es fs, l.length)) ∧ (b = false → ∀ x, rdI l 0 = some x → x.2 ≠ l.length)
theorem end_of {q n : Nat} : ((if q < n then (13 : Int) else 0) == 0) = decide (n ≤ q) := by
  by_cases h : q < n
  · rw [if_pos h, decide_eq_false (by omega)]; rfl
  · rw [if_neg h, decide_eq_true (by omega)]; rfl

set_option maxRecDepth 100000 in
set_option maxHeartbeats 8000000 in
theorem inner_any (A : Option Addr) (l : List UInt8) (c : Nat) (w : World) (hr : V.Rd w A l) (hlen : l.length ≤ 140737488355328) :
    Calls Tryz.prog 44 #[.slice A l.length c] w (InnR w l) := by
  have bz := Blk.new w 25 nilW.cells
  have k0 := (Keep.refl NoB w).alloc (.cells nilW.cells 25)
  have HO := Lib.hid (V.on_any (w.alloc (.cells nilW.cells 25)) A l c (hr.keep k0 (fun _ _ _ => id)) hlen)
  have HB := Lib.hid bz
  have hb0 := bz.lt
  unfold nilW IV.cells at *
  dsimp only at *
  generalize hw0 : w.alloc (.cells #[.slice none 0 0, .slice none 0 0] 25) = w0 at *
  clear hr bz
  go_enter Tryz.func44, Tryz.ntmps44
  go_wp2_with fail
  refine HO.out.mono ?_
  rintro e w1 ⟨br, rfl, h1, k1⟩
  have hbr : w.heap.size < br := by
    have := h1.1
    unfold Fresh at this; omega
  have h1' : V.ReelAt w1 br (fun k => w.heap.size < k ∧ k < w1.heap.size) l 0 := h1.mono (fun k hk hl => ⟨by unfold Fresh at hk; omega, hl⟩)
  have hB1 := HB.out.keep k1 id
  have gK := keepN k0 k1
  clear h1 k1 hw0 HO HB
  go_wp2_with fail
  refine (partsS_any _).mono ?_
  rintro e w2 ⟨rfl, k2⟩
  have h2 := h1'.keep k2 (fun _ _ => id)
  have hB2 := hB1.keep k2 id
  replace gK := keepN gK k2
  have hz2 := k2.size
  have hbr2 := S.reel_lt h2
  clear h1' k2 hB1
  go_wp2_with fail
  refine (readS_any w2 br _ l 0 (fun k hk => by have := hk.2; omega) h2 hlen).mono ?_
  rintro e w3 (⟨hnone, rfl, ⟨q, h3⟩, k3⟩ | ⟨q, A3, n3, c3, es, hsome, rfl, hO3, hE3, h3, k3⟩)
  · have hB3 := hB2.keep k3 (by show ¬ (w.heap.size = br); omega)
    have gK3 := gK.trans k3 (fun k e hl => by omega)
    have HN := Lib.hid (rdI_1 hnone)
    have hlt3 := hB3.lt
    have f3 := fun i => hB3.frozen i
    have hc30 := hB3.cell 0
    have hc31 := hB3.cell 1
    simp only [List.getElem?_toArray, List.getElem?_cons_zero, List.getElem?_cons_succ] at hc30 hc31
    have HP := Lib.hid (put2_img hB3 (.slice none 0 0) (.slice none 0 0))
    have HK := Lib.hid (gK3.trans (keep2_img w3 w.heap.size (.slice none 0 0) (.slice none 0 0)) (fun k e hl => by omega))
    clear hB2 gK h2 h3 k3 hnone hB3 gK3
    go_wp2
    refine bodyPost_ret (ret_imgE (v := nilW) rfl rfl HP.out rfl) rfl ?_
    exact ⟨nilW, [], [], false, rfl, nil_own _ _, HK.out, (fun h => nomatch h), fun _ x hx => by rw [HN.out] at hx; cases hx⟩
  · have hB3 := hB2.keep k3 (by show ¬ (w.heap.size = br); omega)
    have gK3 := gK.trans k3 (fun k e hl => by omega)
    have hz3 := k3.size
    have hbr3 := S.reel_lt h3
    have hw2 : w.heap.size < w2.heap.size := hB2.lt
    clear hB2 gK h2 k3
    go_wp2_with fail
    refine (partsF_any _).mono ?_
    rintro e w4 ⟨rfl, k4⟩
    have h4 := h3.keep k4 (fun _ _ => id)
    have hB4 := hB3.keep k4 id
    have gK4 := keepN gK3 k4
    have hO4 := hO3.keepN k4
    have hE4 : ∀ e ∈ es, OwnS w4 (Fresh w2) e := fun e he => (hE3 e he).keep k4 (fun _ _ => id)
    have hz4 := k4.size
    clear h3 hB3 gK3 hO3 hE3 k4
    go_wp2_with fail
    refine (readF_any w4 br _ l q (fun k hk => by have := hk.2; omega) h4 hlen).mono ?_
    rintro e w5 (⟨hnone, rfl, ⟨q5, h5⟩, k5⟩ | ⟨q5, A5, n5, c5, fs, hsome5, rfl, hO5, hF5, h5, k5⟩)
    · have hB5 := hB4.keep k5 (by show ¬ (w.heap.size = br); omega)
      have gK5 := gK4.trans k5 (fun k e hl => by omega)
      have hO5 := hO4.keep k5 (fun k hk e => by unfold Fresh at hk; omega)
      have hE5 : ∀ e ∈ es, OwnS w5 (Fresh w2) e := fun e he => (hE4 e he).keep k5 (fun k hk e => by unfold Fresh at hk; omega)
      have HN := Lib.hid (rdI_2 hsome hnone)
      have hlt5 := hB5.lt
      have f5 := fun i => hB5.frozen i
      have hc50 := hB5.cell 0
      have hc51 := hB5.cell 1
      simp only [List.getElem?_toArray, List.getElem?_cons_zero, List.getElem?_cons_succ] at hc50 hc51
      have HP := Lib.hid (put2_img hB5 (.slice A3 n3 c3) (.slice none 0 0))
      have kq := keep2_img w5 w.heap.size (.slice A3 n3 c3) (.slice none 0 0)
      have HK := Lib.hid (gK5.trans kq (fun k e hl => by omega))
      have HOI : Hid (OwnIm ((w5.setCell ⟨w.heap.size, 0, none⟩ (.slice A3 n3 c3)).setCell ⟨w.heap.size, 1, none⟩ (.slice none 0 0)) (Fresh w) ⟨A3, n3, c3, none, 0, 0⟩ es []) :=
        ⟨(hO5.keep kq (fun k hk e => by unfold Fresh at hk; omega)).mono (fun k hk _ => by unfold Fresh at *; omega), Own.nil _ _ _ _, fun e he => (((hE5 e he).keep kq (fun k hk e => by unfold Fresh at hk; omega)).mono (fun k hk _ => by unfold Fresh at *; omega) : OwnS _ (Fresh w) e), (fun _ h => nomatch h)⟩
      clear hB4 gK4 h4 h5 k5 hnone hB5 gK5 hO4 hE4 hO5 hE5 kq hsome
      go_wp2
      refine bodyPost_ret (ret_imgE (v := ⟨A3, n3, c3, none, 0, 0⟩) rfl rfl HP.out rfl) rfl ?_
      exact ⟨⟨A3, n3, c3, none, 0, 0⟩, es, [], false, rfl, HOI.out, HK.out, (fun h => nomatch h), fun _ x hx => by rw [HN.out] at hx; cases hx⟩
    · have hB5 := hB4.keep k5 (by show ¬ (w.heap.size = br); omega)
      have gK5 := gK4.trans k5 (fun k e hl => by omega)
      have hO3 := hO4.keep k5 (fun k hk e => by unfold Fresh at hk; omega)
      have hE3 : ∀ e ∈ es, OwnS w5 (Fresh w2) e := fun e he => (hE4 e he).keep k5 (fun k hk e => by unfold Fresh at hk; omega)
      have HN := Lib.hid (rdI_3 hsome hsome5)
      have hq5 : q5 ≤ l.length := h5.2.1
      clear hB4 gK4 h4 hO4 hE4 hsome hsome5
      go_wp2_with fail
      refine (V.end_any w5 br _ l q5 h5).mono ?_
      rintro e w6 ⟨rfl, k6⟩
      have hB6 := hB5.keep k6 id
      have gK6 := keepN gK5 k6
      have hO6 := hO3.keepN k6
      have hP6 := hO5.keepN k6
      have hE6 : ∀ e ∈ es, OwnS w6 (Fresh w2) e := fun e he => (hE3 e he).keep k6 (fun _ _ => id)
      have hF6 : ∀ e ∈ fs, OwnF w6 (Fresh w4) e := fun e he => (hF5 e he).keep k6 (fun _ _ => id)
      have hz6 := k6.size
      have hend := end_of (q := q5) (n := l.length)
      have hlt6 := hB6.lt
      have f6 := fun i => hB6.frozen i
      have hc60 := hB6.cell 0
      have hc61 := hB6.cell 1
      simp only [List.getElem?_toArray, List.getElem?_cons_zero, List.getElem?_cons_succ] at hc60 hc61
      have HP := Lib.hid (put2_img hB6 (.slice A3 n3 c3) (.slice A5 n5 c5))
      have kq := keep2_img w6 w.heap.size (.slice A3 n3 c3) (.slice A5 n5 c5)
      have HK := Lib.hid (gK6.trans kq (fun k e hl => by omega))
      have HOI : Hid (OwnIm ((w6.setCell ⟨w.heap.size, 0, none⟩ (.slice A3 n3 c3)).setCell ⟨w.heap.size, 1, none⟩ (.slice A5 n5 c5)) (Fresh w) ⟨A3, n3, c3, A5, n5, c5⟩ es fs) :=
        ⟨(hO6.keep kq (fun k hk e => by unfold Fresh at hk; omega)).mono (fun k hk _ => by unfold Fresh at *; omega), (hP6.keep kq (fun k hk e => by unfold Fresh at hk; omega)).mono (fun k hk _ => by unfold Fresh at *; omega),
          fun e he => (((hE6 e he).keep kq (fun k hk e => by unfold Fresh at hk; omega)).mono (fun k hk _ => by unfold Fresh at *; omega) : OwnS _ (Fresh w) e),
          fun e he => (((hF6 e he).keep kq (fun k hk e => by unfold Fresh at hk; omega)).mono (fun k hk _ => by unfold Fresh at *; omega) : OwnF _ (Fresh w) e)⟩
      have HE : Hid ((decide (l.length ≤ q5) = true → rdI l 0 = some (imOf es fs, l.length)) ∧ (decide (l.length ≤ q5) = false → ∀ x, rdI l 0 = some x → x.2 ≠ l.length)) := by
        refine ⟨fun h => ?_, fun h x hx => ?_⟩
        · have h7 := of_decide_eq_true h
          rw [HN.out]
          have : q5 = l.length := by omega
          rw [← this]; rfl
        · have h7 := of_decide_eq_false h
          rw [HN.out] at hx
          injection hx with hx
          rw [← hx]
          dsimp only; omega
      generalize (if q5 < l.length then (13 : Int) else 0) = E at *
      generalize decide (l.length ≤ q5) = bb at *
      clear hB5 gK5 h5 k5 hO3 hE3 hO5 hF5 hB6 gK6 hO6 hP6 hE6 hF6 kq HN k6
      go_wp2
      refine bodyPost_ret (ret_imgE (v := ⟨A3, n3, c3, A5, n5, c5⟩) rfl rfl HP.out rfl) rfl ?_
      exact ⟨⟨A3, n3, c3, A5, n5, c5⟩, es, fs, bb, rfl, HOI.out, HK.out, HE.out.1, HE.out.2⟩

end Go.Proofs.YtgifflfjhockaaaGreatDoor.I
