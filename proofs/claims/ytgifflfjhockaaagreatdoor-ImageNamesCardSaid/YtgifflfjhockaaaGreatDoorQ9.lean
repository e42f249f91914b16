/-
  An image in memory: its value, its cells, what it reads as; an image that is owned. No conditions.
  Which functions may be, however great: what Check of layer function answers. Conditions: the function's lists lie in memory, each of them below 2^47.
  What the laws ask ahead: whether an image is more than statements go through. Conditions: the image's lists lie in memory, each below 2^47.
  The iterator of an instruction's operands: it brings each operand that there is, in order, with its functions as they lie in memory when it comes. Conditions: kinds are from 0 to 10.
  What Show answers. Conditions: the listed package-level variables hold what their initialisers lay; numbers fit an int64.
  The iterator of an image's functions, with their numbers; and Find, the program's and the document's. Conditions: the image's lists lie in memory; a round keeps them.
  A map from numbers to numbers that a call makes: what each key has. No program, no conditions.
  A map from texts to numbers that a call makes: what each key has. No program, no conditions.
  Are no two functions of one name: the program's apart, by the iterator and a map. Conditions: the image's lists lie in memory; no more than 1000 functions.
  A region that draws its order, by what each of its values is, where one operation, number c, writes what lay in the blocks of O, and the words of c and of those that stand behind it (late) may speak of these blocks. No program, no conditions.
  A region that draws its order, by what each of its values is, as in KProps4, but each operation writes a slot of its own, in no order (ds). No program, no conditions.
-/
import Derived.Maps.Keyed
import Derived.Maps.Own
import Derived.Maps.OwnIn
import Derived.Maps.OwnOps
import Derived.Maps.OwnSet
import Derived.Maps.Views
import Derived.WalkArith
import Derived.Test.YtgifflfjhockaaaGreatDoorQ5
import Derived.Test.YtgifflfjhockaaaGreatDoorQ8
import Derived.Test.YtgifflfjhockaaaGreatDoorQ4
import Derived.Test.YtgifflfjhockaaaGreatDoorQ6
import Derived.Test.YtgifflfjhockaaaGreatDoorQ2
import Derived.Test.YtgifflfjhockaaaGreatDoorQ3
import Derived.Test.YtgifflfjhockaaaGreatDoorQ7
namespace Go.Proofs.YtgifflfjhockaaaGreatDoor.I
open Go.RowKit W

/-- A shape's value. -/
structure SV where
  A : Option Addr
  n : Nat
  c : Nat
def SV.val (s : SV) : Value := .slice s.A s.n s.c
def ShAt (w : World) (s : SV) (l : List Int) : Prop := Rd w s.A (ivs l) ∧ l.length = s.n
theorem ShAt.keep {O : Nat → Prop} {w w' : World} {s : SV} {l : List Int} (h : ShAt w s l) (hk : Keep O w w') (hO : ∀ k, k < w.heap.size → ¬ O k) : ShAt w' s l :=
  ⟨h.1.keepN (hk.mono (fun k ho hl => absurd ho (hO k hl))), h.2⟩
/-- An image's value: where its lists lie. -/
structure IV where
  X : Option Addr
  nx : Nat
  cx : Nat
  Y : Option Addr
  ny : Nat
  cy : Nat
def IV.cells (v : IV) : Array Value := #[.slice v.X v.nx v.cx, .slice v.Y v.ny v.cy]
def IV.val (v : IV) : Value := .agg v.cells
abbrev SE := SV × List Int
abbrev FE := F.FV × F.Fu
def svs (es : List SE) : List Value := es.map fun e => e.1.val
def fvs (fs : List FE) : List Value := fs.flatMap fun e => e.1.cells.toList
def imOf (es : List SE) (fs : List FE) : Im := ⟨es.map fun e => e.2, fs.map fun e => e.2⟩
theorem cells_len (v : F.FV) : v.cells.toList.length = 5 := rfl
theorem fvs_one (fs : List FE) : ∀ u ∈ fvs fs, u.oneCell' = true := by
  intro u hu
  obtain ⟨b, _, hb⟩ := List.mem_flatMap.1 hu
  unfold F.FV.cells at hb
  simp only [List.mem_cons, List.not_mem_nil, or_false] at hb
  rcases hb with rfl | rfl | rfl | rfl | rfl <;> rfl
theorem fvs_length (fs : List FE) : (fvs fs).length = fs.length * 5 := by
  induction fs with
  | nil => rfl
  | cons v l ih =>
    unfold fvs at ih ⊢
    rw [List.flatMap_cons, List.length_append, ih, cells_len, List.length_cons]; omega
theorem svs_length (es : List SE) : (svs es).length = es.length := by simp [svs]
theorem fvs_append (l r : List FE) : fvs (l ++ r) = fvs l ++ fvs r := by simp [fvs]
theorem svs_append (l r : List SE) : svs (l ++ r) = svs l ++ svs r := by simp [svs]
theorem fvs_at : ∀ (fs : List FE) (i j : Nat) (h : i < fs.length), j < 5 → (fvs fs)[i * 5 + j]? = fs[i].1.cells.toList[j]?
  | v :: l, 0, j, _, hj => by
    unfold fvs
    rw [List.flatMap_cons, Nat.zero_mul, Nat.zero_add, List.getElem?_append_left (by rw [cells_len]; exact hj)]; rfl
  | v :: l, i + 1, j, h, hj => by
    have := fvs_at l i j (by simpa using h) hj
    unfold fvs at this ⊢
    rw [List.flatMap_cons, show (i + 1) * 5 + j = 5 + (i * 5 + j) by omega, List.getElem?_append_right (by rw [cells_len]; omega), cells_len, Nat.add_sub_cancel_left]
    exact this
theorem svs_at (es : List SE) (i : Nat) (h : i < es.length) : (svs es)[i]? = some es[i].1.val := by simp [svs, h]

/-- What an image's lists hold, wherever the value itself lies. -/
structure ImAt (w : World) (v : IV) (es : List SE) (fs : List FE) : Prop where
  rx : Rd w v.X (svs es)
  ry : Rd w v.Y (fvs fs)
  lx : es.length = v.nx
  ly : fs.length = v.ny
  hs : ∀ e ∈ es, ShAt w e.1 e.2
  hf : ∀ e ∈ fs, F.FnAt w e.1 e.2
theorem ImAt.keep {O : Nat → Prop} {w w' : World} {v : IV} {es : List SE} {fs : List FE} (h : ImAt w v es fs) (hk : Keep O w w') (hO : ∀ k, k < w.heap.size → ¬ O k) : ImAt w' v es fs :=
  have h2 : Keep NoB w w' := hk.mono (fun k ho hl => absurd ho (hO k hl))
  ⟨h.rx.keepN h2, h.ry.keepN h2, h.lx, h.ly, fun e he => (h.hs e he).keep h2 (fun _ _ => id), fun e he => (h.hf e he).keepN h2⟩
theorem ImAt.keepN {w w' : World} {v : IV} {es : List SE} {fs : List FE} (h : ImAt w v es fs) (hk : Keep NoB w w') : ImAt w' v es fs := h.keep hk (fun _ _ => id)
/-- It is no greater than statements go through. -/
structure SmI (es : List SE) (fs : List FE) : Prop where
  ns : es.length ≤ 70
  nf : fs.length ≤ 70
  sh : ∀ e ∈ es, e.1.n ≤ 100
  fn : ∀ e ∈ fs, F.SmF e.1
/-- Shape i, and function i, in memory. -/
theorem shape_at {w : World} {X : Option Addr} {es : List SE} (h : Rd w X (svs es)) {i : Nat} (hi : i < es.length) : ∃ g off, X = some ⟨g, off, none⟩ ∧ w.cell? ⟨g, off + i, none⟩ = some (.slice es[i].1.A es[i].1.n es[i].1.c) := by
  obtain ⟨g, off, e, hc⟩ := h (by rw [svs_length]; omega)
  exact ⟨g, off, e, hc i _ (svs_at es i hi)⟩
theorem fun_at {w : World} {Y : Option Addr} {fs : List FE} (h : Rd w Y (fvs fs)) {i : Nat} (hi : i < fs.length) : ∃ g off, Y = some ⟨g, off, none⟩ ∧ w.cell? ⟨g, off + i * 5, none⟩ = some (.string fs[i].1.S) ∧ w.cell? ⟨g, off + i * 5 + 1, none⟩ = some (.slice fs[i].1.A fs[i].1.na fs[i].1.ca) ∧
    w.cell? ⟨g, off + i * 5 + 2, none⟩ = some (.slice fs[i].1.B fs[i].1.nb fs[i].1.cb) ∧ w.cell? ⟨g, off + i * 5 + 3, none⟩ = some (.slice fs[i].1.L fs[i].1.nl fs[i].1.cl) ∧ w.cell? ⟨g, off + i * 5 + 4, none⟩ = some (.slice fs[i].1.D fs[i].1.nd fs[i].1.cd) := by
  obtain ⟨g, off, e, hc⟩ := h (by rw [fvs_length]; omega)
  exact ⟨g, off, e, hc _ _ (fvs_at fs i 0 hi (by omega)), hc _ _ (fvs_at fs i 1 hi (by omega)), hc _ _ (fvs_at fs i 2 hi (by omega)), hc _ _ (fvs_at fs i 3 hi (by omega)), hc _ _ (fvs_at fs i 4 hi (by omega))⟩

/-- An image whose lists are owned: each lies in a block of P. -/
structure OwnIm (W : World) (P : Nat → Prop) (v : IV) (es : List SE) (fs : List FE) : Prop where
  ox : Own W 58 1 P (.slice v.X v.nx v.cx) v.nx (svs es)
  oy : Own W 61 5 P (.slice v.Y v.ny v.cy) v.ny (fvs fs)
  hs : ∀ e ∈ es, Own W 3 1 P (.slice e.1.A e.1.n e.1.c) e.1.n (ivs e.2)
  hf : ∀ e ∈ fs, F.OwnF W P e.1 e.2
theorem OwnIm.keep {W W' : World} {P O : Nat → Prop} {v : IV} {es : List SE} {fs : List FE} (h : OwnIm W P v es fs) (hk : Keep O W W') (hn : ∀ k, P k → ¬ O k) : OwnIm W' P v es fs :=
  ⟨h.ox.keep hk hn, h.oy.keep hk hn, fun e he => (h.hs e he).keep hk hn, fun e he => (h.hf e he).keep hk hn⟩
theorem OwnIm.keepN {W W' : World} {P : Nat → Prop} {v : IV} {es : List SE} {fs : List FE} (h : OwnIm W P v es fs) (hk : Keep NoB W W') : OwnIm W' P v es fs := h.keep hk (fun _ _ => id)
theorem OwnIm.mono {W : World} {P P' : Nat → Prop} {v : IV} {es : List SE} {fs : List FE} (h : OwnIm W P v es fs) (hP : ∀ k, P k → k < W.heap.size → P' k) : OwnIm W P' v es fs :=
  ⟨h.ox.mono hP, h.oy.mono hP, fun e he => (h.hs e he).mono hP, fun e he => (h.hf e he).mono hP⟩
theorem OwnIm.im {W : World} {P : Nat → Prop} {v : IV} {es : List SE} {fs : List FE} (h : OwnIm W P v es fs) : ImAt W v es fs :=
  ⟨F.own_rdS h.ox, F.own_rdS h.oy, by have := h.ox.1.1; rw [svs_length] at this; omega, by have := h.oy.1.1; rw [fvs_length] at this; omega,
    fun e he => ⟨F.own_rdS (h.hs e he), F.own_len (h.hs e he)⟩, fun e he => (h.hf e he).fn⟩
def nilW : IV := ⟨none, 0, 0, none, 0, 0⟩
theorem nil_own (W : World) (P : Nat → Prop) : OwnIm W P nilW [] [] := ⟨Own.nil _ _ _ _, Own.nil _ _ _ _, (fun _ h => nomatch h), (fun _ h => nomatch h)⟩
end Go.Proofs.YtgifflfjhockaaaGreatDoor.I

namespace Go.Proofs.YtgifflfjhockaaaGreatDoor.F
open Go.RowKit W

/-- A function whose lists a machine holds. -/
structure LgF (v : FV) : Prop where
  sz : v.S.size ≤ 140737488355328
  na : v.na ≤ 140737488355328
  nb : v.nb ≤ 140737488355328
  nl : v.nl ≤ 140737488355328
  nd : v.nd ≤ 140737488355328
theorem SmF.lg {v : FV} (h : SmF v) : LgF v := ⟨by have := h.sz; omega, by have := h.na; omega, by have := h.nb; omega, by have := h.nl; omega, by have := h.nd; omega⟩

set_option maxRecDepth 100000 in
set_option maxHeartbeats 2000000 in
theorem fewL_any (v : FV) (w : World) (h : LgF v) (R : Int) (hR : Hid ((if v.na + v.nb + v.nl ≤ 64 then (0 : Int) else 70) = R)) :
    Calls Tryz.prog 118 #[v.val] w fun e w' => e = .returned (.int .i64 R) ∧ Keep NoB w w' := by
  obtain ⟨S, A, na, ca, B, nb, cb, L, nl, cl, D, nd, cd⟩ := v
  obtain ⟨_, q1, q2, q3, _⟩ := h
  dsimp only at q1 q2 q3 hR
  have bx := Blk.new w 61 (FV.cells ⟨S, A, na, ca, B, nb, cb, L, nl, cl, D, nd, cd⟩)
  have k0 := (Keep.refl NoB w).alloc (.cells (FV.cells ⟨S, A, na, ca, B, nb, cb, L, nl, cl, D, nd, cd⟩) 61)
  dsimp only [FV.val, FV.cells] at bx k0 ⊢
  by_cases h1 : na + nb + nl ≤ 64
  · obtain rfl : 0 = R := by rw [← hR.out, if_pos h1]
    clear hR
    go_enter Tryz.func118, Tryz.ntmps118
    go_wp2
    go_ret
    exact ⟨rfl, k0⟩
  · obtain rfl : 70 = R := by rw [← hR.out, if_neg h1]
    have h2 : (64 : Int) < (na : Int) + (nb : Int) + (nl : Int) := by omega
    clear hR h1
    go_enter Tryz.func118, Tryz.ntmps118
    go_wp2
    go_ret
    exact ⟨rfl, k0⟩

set_option maxRecDepth 100000 in
set_option maxHeartbeats 4000000 in
theorem checksL_any (v : FV) (f : Fu) (w : World) (h : FnAt w v f) (hs : LgF v) (g : Nat) (u0 u1 u2 u3 u4 : Value) (hb : Blk w g 69 #[u0, u1, u2, u3, u4])
    (a0 : AskV 160 89 61 (fnV 118) (v.cells) u0 w)
    (a1 : AskV 161 181 9 (fnV 120) (#[.string v.S]) u1 w)
    (a2 : AskV 164 183 57 (fnV 122) (#[.slice v.A v.na v.ca, .slice v.B v.nb v.cb]) u2 w)
    (a3 : AskV 164 183 57 (fnV 122) (#[.slice v.L v.nl v.cl, .slice none 0 0]) u3 w)
    (a4 : AskV 166 186 59 (fnV 125) (#[.slice v.D v.nd v.cd]) u4 w) :
    Calls Tryz.prog 116 #[.slice (some ⟨g, 0, none⟩) 5 5] w fun e w' => e = .returned (.bool (okF f)) ∧ Keep NoB w w' := by
  obtain ⟨c0, p0, rfl, a0, b0⟩ := a0
  obtain ⟨c1, p1, rfl, a1, b1⟩ := a1
  obtain ⟨c2, p2, rfl, a2, b2⟩ := a2
  obtain ⟨c3, p3, rfl, a3, b3⟩ := a3
  obtain ⟨c4, p4, rfl, a4, b4⟩ := a4
  refine (every_any (some ⟨g, 0, none⟩) [(160, #[.pointer (some ⟨c0, 0, none⟩), .pointer (some ⟨p0, 0, none⟩)]), (161, #[.pointer (some ⟨c1, 0, none⟩), .pointer (some ⟨p1, 0, none⟩)]), (164, #[.pointer (some ⟨c2, 0, none⟩), .pointer (some ⟨p2, 0, none⟩)]), (164, #[.pointer (some ⟨c3, 0, none⟩), .pointer (some ⟨p3, 0, none⟩)]), (166, #[.pointer (some ⟨c4, 0, none⟩), .pointer (some ⟨p4, 0, none⟩)])] 5 5 w rfl (by decide) (bsF v f) (fun _ W => Keep NoB w W) (fun W => Keep NoB w W) ?hcf ?hr ?hq (Keep.refl _ _)).mono ?_
  case hcf =>
    intro q hq
    simp only [List.mem_cons, List.not_mem_nil, or_false] at hq
    rcases hq with rfl | rfl | rfl | rfl | rfl
    · exact enters_of Tryz.func160 (by kernel_rfl) rfl
    · exact enters_of Tryz.func161 (by kernel_rfl) rfl
    · exact enters_of Tryz.func164 (by kernel_rfl) rfl
    · exact enters_of Tryz.func164 (by kernel_rfl) rfl
    · exact enters_of Tryz.func166 (by kernel_rfl) rfl
  case hr =>
    intro i W hK _
    refine ⟨g, 0, rfl, fun j u hu => ?_⟩
    rw [Nat.zero_add, (hb.keep hK id).cell j]
    simpa using hu
  case hq =>
    intro i hi W hK
    have hf := h.keepN hK
    have hi : i = 0 ∨ i = 1 ∨ i = 2 ∨ i = 3 ∨ i = 4 := by simp at hi; omega
    rcases hi with rfl | rfl | rfl | rfl | rfl
    · refine (askedFun_any 118 (enters_of Tryz.func118 (by kernel_rfl) rfl) v c0 p0 W (a0.keep hK id) (b0.keep hK id) _ (bsF v f 0) (few_eq v f) (fewL_any v W hs _ rfl)).mono ?_
      rintro e W' ⟨rfl, hk⟩
      exact ⟨rfl, fun _ => keepN hK hk, fun _ => keepN hK hk⟩
    · refine (askedStr_any 120 (enters_of Tryz.func120 (by kernel_rfl) rfl) v.S c1 p1 W (a1.keep hK id) (b1.keep hK id) (chkN f.nm) (bsF v f 1) (chkN_eq _) ?_).mono ?_
      · refine (named_any v.S f.nm W hf.nm (by have := hs.sz; omega) _ rfl).mono ?_
        rintro e W' ⟨rfl, rfl⟩
        exact ⟨rfl, Keep.refl _ _⟩
      rintro e W' ⟨rfl, hk⟩
      exact ⟨rfl, fun _ => keepN hK hk, fun _ => keepN hK hk⟩
    · refine (askedSig_any 122 (enters_of Tryz.func122 (by kernel_rfl) rfl) _ _ c2 p2 W (a2.keep hK id) (b2.keep hK id) (S.chkG f.ar f.rs) (bsF v f 2) (chkG_eq _ _) (S.chkG_any v.A f.ar v.na v.ca v.B f.rs v.nb v.cb W hf.ra hf.rb hf.la hf.lb (by have := hs.na; omega) (by have := hs.nb; omega) _ rfl)).mono ?_
      rintro e W' ⟨rfl, hk⟩
      exact ⟨rfl, fun _ => keepN hK hk, fun _ => keepN hK hk⟩
    · refine (askedSig_any 122 (enters_of Tryz.func122 (by kernel_rfl) rfl) _ _ c3 p3 W (a3.keep hK id) (b3.keep hK id) (S.chkG f.lc []) (bsF v f 3) (chkG_eq _ _) (S.chkG_any v.L f.lc v.nl v.cl none [] 0 0 W hf.rl (Rd.none_ _ _) hf.ll rfl (by have := hs.nl; omega) (by omega) _ rfl)).mono ?_
      rintro e W' ⟨rfl, hk⟩
      exact ⟨rfl, fun _ => keepN hK hk, fun _ => keepN hK hk⟩
    · refine (askedBod_any 125 (enters_of Tryz.func125 (by kernel_rfl) rfl) v.D v.nd v.cd c4 p4 W (a4.keep hK id) (b4.keep hK id) (C.chkB f.bd) (bsF v f 4) (chkB_eq _) (C.cchk_any v.D f.bd v.nd v.cd W hf.rd hf.ld (by have := hs.nd; omega) _ rfl)).mono ?_
      rintro e W' ⟨rfl, hk⟩
      exact ⟨rfl, fun _ => keepN hK hk, fun _ => keepN hK hk⟩
  rintro e w' (⟨rfl, hb, hk⟩ | ⟨rfl, hb, hk⟩)
  · exact ⟨by rw [bsF_all h hb], hk⟩
  · exact ⟨by rw [bsF_not h hb], hk⟩

set_option maxRecDepth 100000 in
set_option maxHeartbeats 8000000 in
theorem checkL_any (v : FV) (f : Fu) (w : World) (h : FnAt w v f) (hs : LgF v) (R : Int) (hR : Hid (chkF f = R)) :
    Calls Tryz.prog 76 #[v.val] w fun e w' => e = .returned (.int .i64 R) ∧ Keep NoB w w' := by
  have bx := Blk.new w 61 v.cells
  have k0 := (Keep.refl NoB w).alloc (.cells v.cells 61)
  have HF := Lib.hid (h.keepN k0)
  obtain ⟨S, A, na, ca, B, nb, cb, L, nl, cl, D, nd, cd⟩ := v
  have HE := Lib.hid (fun W hf g u0 u1 u2 u3 u4 hb a0 a1 a2 a3 a4 => checksL_any _ f W hf hs g u0 u1 u2 u3 u4 hb a0 a1 a2 a3 a4)
  obtain ⟨q0, q1, q2, q3, q4⟩ := blk5 bx
  dsimp only [FV.val, FV.cells] at bx k0 HF q0 q1 q2 q3 q4 ⊢
  have HX := Lib.hid bx
  clear h hs bx
  generalize hw1 : w.alloc (.cells #[.string S, .slice A na ca, .slice B nb cb, .slice L nl cl, .slice D nd cd] 61) = w1 at k0 HF q0 q1 q2 q3 q4 HX
  go_enter Tryz.func76, Tryz.ntmps76
  go_wp2_with fail
  clear hw1
  refine wp_region_props2 3 99 (NoB) (by kernel_rfl) (by kernel_rfl) (SC ⟨S, A, na, ca, B, nb, cb, L, nl, cl, D, nd, cd⟩ f w.heap.size) (fun i u x y _ h hk => SC_stable _ _ _ i u x y h hk) (of_decide_eq_true rfl) ?step ?spec ?fin
  case step =>
    intro i o a w' ho hic hF hK hA
    have hi : i < 18 := by simpa using (Array.getElem?_eq_some_iff.1 ho).1
    by_cases h0 : i = 0
    · subst h0
      simp only [List.getElem?_toArray, List.getElem?_cons_zero, Option.some.injEq] at ho
      subst ho
      have e1 : a.tmps.getD 1 undef = .pointer (some ⟨w.heap.size, 0, none⟩) := hF.2.2 1 (.inl (by decide))
      have c0 := Keep.cell hK q0 id
      have c1 := Keep.cell hK q1 id
      have c2 := Keep.cell hK q2 id
      have c3 := Keep.cell hK q3 id
      have c4 := Keep.cell hK q4 id
      refine Does.plain rfl ?_
      unfold yieldsK
      go_simp
      exact ⟨rfl, Keep.refl _ _⟩
    by_cases h1 : i = 1
    · subst h1
      simp only [List.getElem?_toArray, List.getElem?_cons_zero, List.getElem?_cons_succ, Option.some.injEq] at ho
      subst ho
      have e3 : a.tmps.getD 3 undef = .agg #[.string S, .slice A na ca, .slice B nb cb, .slice L nl cl, .slice D nd cd] := hA ⟨0, .data⟩ (by simp) rfl
      refine Does.plain rfl ?_
      unfold yieldsK
      go_simp
      refine (passesFun_any 118 ⟨S, A, na, ca, B, nb, cb, L, nl, cl, D, nd, cd⟩ w').mono ?_
      rintro e w2 ⟨u, rfl, h1, h2⟩
      exact ⟨_, rfl, h1, h2⟩
    by_cases h2 : i = 2
    · subst h2
      simp only [List.getElem?_toArray, List.getElem?_cons_zero, List.getElem?_cons_succ, Option.some.injEq] at ho
      subst ho
      have e1 : a.tmps.getD 1 undef = .pointer (some ⟨w.heap.size, 0, none⟩) := hF.2.2 1 (.inl (by decide))
      refine Does.plain rfl ?_
      unfold yieldsK
      go_simp
      exact ⟨rfl, Keep.refl _ _⟩
    by_cases h3 : i = 3
    · subst h3
      simp only [List.getElem?_toArray, List.getElem?_cons_zero, List.getElem?_cons_succ, Option.some.injEq] at ho
      subst ho
      have e5 : a.tmps.getD 5 undef = .pointer (some ⟨w.heap.size, 0, none⟩) := hA ⟨2, .data⟩ (by simp) rfl
      have c0 := Keep.cell hK q0 id
      refine Does.plain rfl ?_
      unfold yieldsK
      go_simp
      exact ⟨rfl, Keep.refl _ _⟩
    by_cases h4 : i = 4
    · subst h4
      simp only [List.getElem?_toArray, List.getElem?_cons_zero, List.getElem?_cons_succ, Option.some.injEq] at ho
      subst ho
      have e6 : a.tmps.getD 6 undef = .string S := hA ⟨3, .data⟩ (by simp) rfl
      refine Does.plain rfl ?_
      unfold yieldsK
      go_simp
      refine (passesStr_any 120 S w').mono ?_
      rintro e w2 ⟨u, rfl, h1, h2⟩
      exact ⟨_, rfl, h1, h2⟩
    by_cases h5 : i = 5
    · subst h5
      simp only [List.getElem?_toArray, List.getElem?_cons_zero, List.getElem?_cons_succ, Option.some.injEq] at ho
      subst ho
      have e1 : a.tmps.getD 1 undef = .pointer (some ⟨w.heap.size, 0, none⟩) := hF.2.2 1 (.inl (by decide))
      refine Does.plain rfl ?_
      unfold yieldsK
      go_simp
      exact ⟨rfl, Keep.refl _ _⟩
    by_cases h6 : i = 6
    · subst h6
      simp only [List.getElem?_toArray, List.getElem?_cons_zero, List.getElem?_cons_succ, Option.some.injEq] at ho
      subst ho
      have e8 : a.tmps.getD 8 undef = .pointer (some ⟨w.heap.size, 1, none⟩) := hA ⟨5, .data⟩ (by simp) rfl
      have c1 := Keep.cell hK q1 id
      have c2 := Keep.cell hK q2 id
      refine Does.plain rfl ?_
      unfold yieldsK
      go_simp
      exact ⟨rfl, Keep.refl _ _⟩
    by_cases h7 : i = 7
    · subst h7
      simp only [List.getElem?_toArray, List.getElem?_cons_zero, List.getElem?_cons_succ, Option.some.injEq] at ho
      subst ho
      have e9 : a.tmps.getD 9 undef = .agg #[.slice A na ca, .slice B nb cb] := hA ⟨6, .data⟩ (by simp) rfl
      refine Does.plain rfl ?_
      unfold yieldsK
      go_simp
      refine (passesSig_any 122 (.slice A na ca) (.slice B nb cb) w').mono ?_
      rintro e w2 ⟨u, rfl, h1, h2⟩
      exact ⟨_, rfl, h1, h2⟩
    by_cases h8 : i = 8
    · subst h8
      simp only [List.getElem?_toArray, List.getElem?_cons_zero, List.getElem?_cons_succ, Option.some.injEq] at ho
      subst ho
      have e1 : a.tmps.getD 1 undef = .pointer (some ⟨w.heap.size, 0, none⟩) := hF.2.2 1 (.inl (by decide))
      refine Does.plain rfl ?_
      unfold yieldsK
      go_simp
      exact ⟨rfl, Keep.refl _ _⟩
    by_cases h9 : i = 9
    · subst h9
      simp only [List.getElem?_toArray, List.getElem?_cons_zero, List.getElem?_cons_succ, Option.some.injEq] at ho
      subst ho
      have e11 : a.tmps.getD 11 undef = .pointer (some ⟨w.heap.size, 3, none⟩) := hA ⟨8, .data⟩ (by simp) rfl
      have c3 := Keep.cell hK q3 id
      refine Does.plain rfl ?_
      unfold yieldsK
      go_simp
      exact ⟨rfl, Keep.refl _ _⟩
    by_cases h10 : i = 10
    · subst h10
      simp only [List.getElem?_toArray, List.getElem?_cons_zero, List.getElem?_cons_succ, Option.some.injEq] at ho
      subst ho
      have e12 : a.tmps.getD 12 undef = .slice L nl cl := hA ⟨9, .data⟩ (by simp) rfl
      refine Does.plain rfl ?_
      unfold yieldsK
      go_simp
      refine (taking_any L nl cl w').mono ?_
      rintro e w2 ⟨rfl, h2⟩
      exact ⟨_, rfl, rfl, h2⟩
    by_cases h11 : i = 11
    · subst h11
      simp only [List.getElem?_toArray, List.getElem?_cons_zero, List.getElem?_cons_succ, Option.some.injEq] at ho
      subst ho
      have e13 : a.tmps.getD 13 undef = .agg #[.slice L nl cl, .slice none 0 0] := hA ⟨10, .data⟩ (by simp) rfl
      refine Does.plain rfl ?_
      unfold yieldsK
      go_simp
      refine (passesSig_any 122 (.slice L nl cl) (.slice none 0 0) w').mono ?_
      rintro e w2 ⟨u, rfl, h1, h2⟩
      exact ⟨_, rfl, h1, h2⟩
    by_cases h12 : i = 12
    · subst h12
      simp only [List.getElem?_toArray, List.getElem?_cons_zero, List.getElem?_cons_succ, Option.some.injEq] at ho
      subst ho
      have e1 : a.tmps.getD 1 undef = .pointer (some ⟨w.heap.size, 0, none⟩) := hF.2.2 1 (.inl (by decide))
      refine Does.plain rfl ?_
      unfold yieldsK
      go_simp
      exact ⟨rfl, Keep.refl _ _⟩
    by_cases h13 : i = 13
    · subst h13
      simp only [List.getElem?_toArray, List.getElem?_cons_zero, List.getElem?_cons_succ, Option.some.injEq] at ho
      subst ho
      have e15 : a.tmps.getD 15 undef = .pointer (some ⟨w.heap.size, 4, none⟩) := hA ⟨12, .data⟩ (by simp) rfl
      have c4 := Keep.cell hK q4 id
      refine Does.plain rfl ?_
      unfold yieldsK
      go_simp
      exact ⟨rfl, Keep.refl _ _⟩
    by_cases h14 : i = 14
    · subst h14
      simp only [List.getElem?_toArray, List.getElem?_cons_zero, List.getElem?_cons_succ, Option.some.injEq] at ho
      subst ho
      have e16 : a.tmps.getD 16 undef = .slice D nd cd := hA ⟨13, .data⟩ (by simp) rfl
      refine Does.plain rfl ?_
      unfold yieldsK
      go_simp
      refine (passesBod_any 125 D nd cd w').mono ?_
      rintro e w2 ⟨u, rfl, h1, h2⟩
      exact ⟨_, rfl, h1, h2⟩
    by_cases h15 : i = 15
    · subst h15
      simp only [List.getElem?_toArray, List.getElem?_cons_zero, List.getElem?_cons_succ, Option.some.injEq] at ho
      subst ho
      obtain ⟨c0, p0, e4, a0, b0⟩ := hA ⟨1, .data⟩ (by simp) rfl
      have e4 : a.tmps.getD 4 undef = askV 160 #[.pointer (some ⟨c0, 0, none⟩), .pointer (some ⟨p0, 0, none⟩)] := e4
      obtain ⟨c1, p1, e7, a1, b1⟩ := hA ⟨4, .data⟩ (by simp) rfl
      have e7 : a.tmps.getD 7 undef = askV 161 #[.pointer (some ⟨c1, 0, none⟩), .pointer (some ⟨p1, 0, none⟩)] := e7
      obtain ⟨c2, p2, e10, a2, b2⟩ := hA ⟨7, .data⟩ (by simp) rfl
      have e10 : a.tmps.getD 10 undef = askV 164 #[.pointer (some ⟨c2, 0, none⟩), .pointer (some ⟨p2, 0, none⟩)] := e10
      obtain ⟨c3, p3, e14, a3, b3⟩ := hA ⟨11, .data⟩ (by simp) rfl
      have e14 : a.tmps.getD 14 undef = askV 164 #[.pointer (some ⟨c3, 0, none⟩), .pointer (some ⟨p3, 0, none⟩)] := e14
      obtain ⟨c4, p4, e17, a4, b4⟩ := hA ⟨14, .data⟩ (by simp) rfl
      have e17 : a.tmps.getD 17 undef = askV 166 #[.pointer (some ⟨c4, 0, none⟩), .pointer (some ⟨p4, 0, none⟩)] := e17
      refine Does.plain rfl ?_
      unfold yieldsK
      unfold askV at *
      simp only [Array.getD_eq_getD_getElem?] at e4 e7 e10 e14 e17
      go_simp
      refine ⟨⟨w'.heap.size, _, _, _, _, _, rfl, Blk.new _ _ _, ⟨c0, p0, rfl, a0.alloc _, b0.alloc _⟩, ⟨c1, p1, rfl, a1.alloc _, b1.alloc _⟩, ⟨c2, p2, rfl, a2.alloc _, b2.alloc _⟩, ⟨c3, p3, rfl, a3.alloc _, b3.alloc _⟩, ⟨c4, p4, rfl, a4.alloc _, b4.alloc _⟩⟩, (Keep.refl _ _).alloc _⟩
    by_cases h16 : i = 16
    · subst h16
      simp only [List.getElem?_toArray, List.getElem?_cons_zero, List.getElem?_cons_succ, Option.some.injEq] at ho
      subst ho
      obtain ⟨g, u0, u1, u2, u3, u4, e18, hb, a0, a1, a2, a3, a4⟩ := hA ⟨15, .data⟩ (by simp) rfl
      have e18 : a.tmps.getD 18 undef = .slice (some ⟨g, 0, none⟩) 5 5 := e18
      refine Does.plain rfl ?_
      unfold yieldsK
      go_simp
      refine (HE.out w' (HF.out.keepN hK) g u0 u1 u2 u3 u4 hb a0 a1 a2 a3 a4).mono ?_
      rintro e w2 ⟨rfl, h2⟩
      exact ⟨_, rfl, rfl, h2⟩
    by_cases h17 : i = 17
    · subst h17
      simp only [List.getElem?_toArray, List.getElem?_cons_zero, List.getElem?_cons_succ, Option.some.injEq] at ho
      subst ho
      have e19 : a.tmps.getD 19 undef = .bool (okF f) := hA ⟨16, .data⟩ (by simp) rfl
      refine Does.plain rfl ?_
      unfold yieldsK
      go_simp
      exact ⟨rfl, Keep.refl _ _⟩
    omega
  case spec =>
    intro o a w' ho
    simp at ho
  case fin =>
    intro a w' hF gK hA
    have e20 : a.tmps.getD (3 + 17) undef = .bool (!okF f) := hA 17 (by decide)
    have ha := frame_fill (n := 18) hF (of_decide_eq_true rfl)
    rw [ha]
    rw [show List.range 18 = [0, 1, 2, 3, 4, 5, 6, 7, 8, 9, 10, 11, 12, 13, 14, 15, 16, 17] from rfl]
    simp only [List.map_cons, List.map_nil, e20]
    generalize a.tmps.getD (3 + 0) undef = u0
    generalize a.tmps.getD (3 + 1) undef = u1
    generalize a.tmps.getD (3 + 2) undef = u2
    generalize a.tmps.getD (3 + 3) undef = u3
    generalize a.tmps.getD (3 + 4) undef = u4
    generalize a.tmps.getD (3 + 5) undef = u5
    generalize a.tmps.getD (3 + 6) undef = u6
    generalize a.tmps.getD (3 + 7) undef = u7
    generalize a.tmps.getD (3 + 8) undef = u8
    generalize a.tmps.getD (3 + 9) undef = u9
    generalize a.tmps.getD (3 + 10) undef = u10
    generalize a.tmps.getD (3 + 11) undef = u11
    generalize a.tmps.getD (3 + 12) undef = u12
    generalize a.tmps.getD (3 + 13) undef = u13
    generalize a.tmps.getD (3 + 14) undef = u14
    generalize a.tmps.getD (3 + 15) undef = u15
    generalize a.tmps.getD (3 + 16) undef = u16
    simp only [fillT, List.setIfInBounds_toArray, List.set_cons_zero, List.set_cons_succ]
    have HR := Lib.hid (keepN k0 gK)
    clear gK k0 hA hF ha e20 HE HF HX q0 q1 q2 q3 q4
    cases ho : okF f
    · obtain rfl : 70 = R := by rw [← hR.out]; exact (chkF_no ho).symm
      clear hR ho
      go_wp2
      go_ret
      exact ⟨rfl, HR.out⟩
    · obtain rfl : 0 = R := by rw [← hR.out]; exact (chkF_ok ho).symm
      clear hR ho
      go_wp2
      go_ret
      exact ⟨rfl, HR.out⟩

end Go.Proofs.YtgifflfjhockaaaGreatDoor.F

namespace Go.Proofs.YtgifflfjhockaaaGreatDoor.I
open Go.RowKit W

theorem blk2 {w : World} {g : Nat} {v : IV} (h : Blk w g 25 v.cells) : w.cell? ⟨g, 0, none⟩ = some (.slice v.X v.nx v.cx) ∧ w.cell? ⟨g, 1, none⟩ = some (.slice v.Y v.ny v.cy) := ⟨h.cell 0, h.cell 1⟩
/-- An image whose lists a machine holds. -/
structure LgI (v : IV) (es : List SE) (fs : List FE) : Prop where
  nx : v.nx ≤ 140737488355328
  ny : v.ny ≤ 140737488355328
  sh : ∀ e ∈ es, e.1.n ≤ 140737488355328
  fn : ∀ e ∈ fs, F.LgF e.1

end Go.Proofs.YtgifflfjhockaaaGreatDoor.I

namespace Go.Proofs.YtgifflfjhockaaaGreatDoor.O
open Go.RowKit Go.Shelf
attribute [local go_sem] Oper.semAt_some

/-- An operand that comes: its kind, its number, its functions. -/
structure Part where
  k : Int
  n : Int
  sh : Value
  gu : Value
def Part.key (x : Part) : Int × Int := (x.k, x.n)
abbrev partE (x : Part) : Array Value := #[opV x.k x.sh x.gu, .int .i64 x.n]
/-- The operands that there are. -/
def partsL (ka kb a b : Int) : List (Int × Int) := if ka = 0 then [] else if kb = 0 then [(ka, a)] else [(ka, a), (kb, b)]
/-- What is known of one that comes: its place, its functions. -/
def PartN (ka kb a b : Int) (pre : List Part) (x : Part) (W : World) : Prop := (∃ post, pre.map Part.key ++ x.key :: post = partsL ka kb a b) ∧ FnAt x.k x.sh x.gu W

theorem parts_0 {ka kb a b : Int} (h : ka = 0) : partsL ka kb a b = [] := by unfold partsL; rw [if_pos h]
theorem parts_1 {ka kb a b : Int} (h : ka ≠ 0) (h' : kb = 0) : partsL ka kb a b = [(ka, a)] := by unfold partsL; rw [if_neg h, if_pos h']
theorem parts_2 {ka kb a b : Int} (h : ka ≠ 0) (h' : kb ≠ 0) : partsL ka kb a b = [(ka, a), (kb, b)] := by unfold partsL; rw [if_neg h, if_neg h']

theorem run_index_nums (a b : Int) (w : World) : (Instr.index 287 (.agg #[.int .i64 a, .int .i64 b]) (.int .i64 0)).run Tryz.prog w = .ok (.int .i64 a) w ∧
    (Instr.index 287 (.agg #[.int .i64 a, .int .i64 b]) (.int .i64 1)).run Tryz.prog w = .ok (.int .i64 b) w := by
  have hs : (sizeOf 2).run Tryz.prog w = .ok 1 w := Tryz.sizeOf2 w
  unfold Instr.index
  constructor
  · simp [run_underlying Tryz.underlying287, asIntOf, hs, part]
  · simp [run_underlying Tryz.underlying287, asIntOf, hs, part]

set_option maxRecDepth 100000 in
set_option maxHeartbeats 4000000 in
theorem parts1_in (m : Nat) (q : Row) (op a b : Int) (Bx Br : Nat) (hka : 0 ≤ q.ka ∧ q.ka ≤ 10) (hkb : 0 ≤ q.kb ∧ q.kb ≤ 10) (I : List Part → World → Prop)
    (hbx : ∀ pre W, I pre W → Blk W Bx 63 #[.int .i64 op, .int .i64 a, .int .i64 b]) (hbr : ∀ pre W, I pre W → Blk W Br 259 (cells9 q)) :
    Brings Tryz.prog m (m + 1) 210 #[.pointer (some ⟨Bx, 0, none⟩), .pointer (some ⟨Br, 0, none⟩)] partE I (PartN q.ka q.kb a b) (fun xs => xs.map Part.key = partsL q.ka q.kb a b) := by
  intro L J hJk hJI hY W h0
  refine callsIn_of_wp Tryz.func210 rfl trivial ?_ rfl
  simp only [Tryz.ntmps210, List.size_toArray, List.length_cons, List.length_nil, Nat.reduceAdd, Nat.reduceSub, Array.replicate_succ, Array.replicate_zero, List.push_toArray, List.append_toArray, List.nil_append, List.cons_append]
  have x0 := hbx _ _ (hJI _ _ h0)
  have c1 : W.cell? ⟨Bx, 1, none⟩ = some (.int .i64 a) := x0.cell 1
  have c2 : W.cell? ⟨Bx, 2, none⟩ = some (.int .i64 b) := x0.cell 2
  clear x0
  gi_wp2
  gi_loopw [11] (fun i wr => ∃ (k : Nat) (pre : List Part), k ≤ 2 ∧ i = .int .i64 (k : Int) ∧ Hid (pre.map Part.key = [(q.ka, a), (q.kb, b)].take k ∧ (1 ≤ k → q.ka ≠ 0) ∧ (2 ≤ k → q.kb ≠ 0)) ∧ J pre wr)
    (fun i _ => 2 - (intOf i).toNat)
  case atStart => exact ⟨0, [], by omega, rfl, ⟨rfl, fun h => by omega, fun h => by omega⟩, h0⟩
  case round =>
    obtain ⟨k, pre, hk, rfl, HP, hJ⟩ := hrel
    have r0 := hbr _ _ (hJI _ _ hJ)
    have d1 : wr.cell? ⟨Br, 1, none⟩ = some (.int .i64 q.ka) := r0.cell 1
    have d2 : wr.cell? ⟨Br, 2, none⟩ = some (.int .i64 q.kb) := r0.cell 2
    clear r0 c1 c2
    have hix := fun w => run_index_nums a b w
    have hi0 := fun w => (hix w).1
    have hi1 := fun w => (hix w).2
    clear hix
    obtain rfl | rfl | rfl : k = 0 ∨ k = 1 ∨ k = 2 := by omega
    · by_cases hz : q.ka = 0
      · have hS : Hid (pre.map Part.key = partsL q.ka q.kb a b) := by show _ = _; rw [HP.out.1, parts_0 hz]; rfl
        have e0 : (q.ka == 0) = true := by rw [beq_iff_eq]; exact hz
        clear HP hz hka hkb
        rw [show ((0 : Nat) : Int) = 0 from rfl]
        gi_wp2
        refine ⟨trivial, ?_⟩
        gi_wp2
        refine ⟨fun _ h => (by cases h), ?_⟩
        gi_wp2
        refine bodyPost_ret (results_none rfl _ _ _) rfl ?_
        exact ⟨⟨_, rfl⟩, pre, hS.out, hJ⟩
      · have e0 : (q.ka == 0) = false := by rw [beq_eq_false_iff_ne]; exact hz
        have HN : Hid (pre.map Part.key ++ (q.ka, a) :: (if q.kb = 0 then [] else [(q.kb, b)]) = partsL q.ka q.kb a b) := by show _ = _; rw [HP.out.1]; unfold partsL; rw [if_neg hz]; split <;> rfl
        have HQ : Hid (∀ x : Part, x.key = (q.ka, a) → (pre ++ [x]).map Part.key = [(q.ka, a), (q.kb, b)].take 1) := by intro x hx; rw [List.map_append, HP.out.1]; simp [hx]
        have hp1 := HP.out.2.1
        have HZ : Hid ((1 ≤ 1 → q.ka ≠ 0) ∧ (2 ≤ 1 → q.kb ≠ 0)) := ⟨fun _ => hz, fun h => by omega⟩
        clear HP hz hp1
        rw [show ((0 : Nat) : Int) = 0 from rfl]
        gi_wp2_with (refine ⟨trivial, ?_⟩; gi_at_call 198; refine (callsIn_wide.2 (operandOf_any q.ka hka _)).mono ?_; rintro e w1 ⟨sh, gu, rfl, hF, k1⟩; have hJ1 := hJk _ _ _ hJ k1; obtain ⟨fn, tmps, assign, body, hy, hR⟩ := hY pre ⟨q.ka, a, sh, gu⟩ w1 hJ1 ⟨⟨_, HN.out⟩, hF⟩; dsimp only [partE] at hy)
        refine hR.mono ?_
        rintro e W3 ⟨rfl, hJ3⟩
        gi_wp2
        go_roundw
        case rel => exact ⟨1, pre ++ [_], by omega, rfl, ⟨HQ.out _ rfl, HZ.out⟩, hJ3⟩
        case measure => simp [intOf]
    · by_cases hz : q.kb = 0
      · have hS : Hid (pre.map Part.key = partsL q.ka q.kb a b) := by show _ = _; rw [HP.out.1, parts_1 (HP.out.2.1 (by omega)) hz]; rfl
        have e0 : (q.kb == 0) = true := by rw [beq_iff_eq]; exact hz
        clear HP hz hka hkb
        rw [show ((1 : Nat) : Int) = 1 from rfl]
        gi_wp2
        refine ⟨trivial, ?_⟩
        gi_wp2
        refine ⟨fun _ h => (by cases h), ?_⟩
        gi_wp2
        refine bodyPost_ret (results_none rfl _ _ _) rfl ?_
        exact ⟨⟨_, rfl⟩, pre, hS.out, hJ⟩
      · have e0 : (q.kb == 0) = false := by rw [beq_eq_false_iff_ne]; exact hz
        have HN : Hid (pre.map Part.key ++ (q.kb, b) :: [] = partsL q.ka q.kb a b) := by show _ = _; rw [HP.out.1, parts_2 (HP.out.2.1 (by omega)) hz]; rfl
        have HQ : Hid (∀ x : Part, x.key = (q.kb, b) → (pre ++ [x]).map Part.key = [(q.ka, a), (q.kb, b)].take 2) := by intro x hx; rw [List.map_append, HP.out.1]; simp [hx]
        have hp1 := HP.out.2.1
        have HZ : Hid ((1 ≤ 2 → q.ka ≠ 0) ∧ (2 ≤ 2 → q.kb ≠ 0)) := ⟨fun _ => hp1 (by omega), fun _ => hz⟩
        clear HP hz hp1
        rw [show ((1 : Nat) : Int) = 1 from rfl]
        gi_wp2_with (refine ⟨trivial, ?_⟩; gi_at_call 198; refine (callsIn_wide.2 (operandOf_any q.kb hkb _)).mono ?_; rintro e w1 ⟨sh, gu, rfl, hF, k1⟩; have hJ1 := hJk _ _ _ hJ k1; obtain ⟨fn, tmps, assign, body, hy, hR⟩ := hY pre ⟨q.kb, b, sh, gu⟩ w1 hJ1 ⟨⟨_, HN.out⟩, hF⟩; dsimp only [partE] at hy)
        refine hR.mono ?_
        rintro e W3 ⟨rfl, hJ3⟩
        gi_wp2
        go_roundw
        case rel => exact ⟨2, pre ++ [_], by omega, rfl, ⟨HQ.out _ rfl, HZ.out⟩, hJ3⟩
        case measure => simp [intOf]
    · have hS : Hid (pre.map Part.key = partsL q.ka q.kb a b) := by show _ = _; rw [HP.out.1, parts_2 (HP.out.2.1 (by omega)) (HP.out.2.2 (by omega))]; rfl
      clear HP hka hkb
      rw [show ((2 : Nat) : Int) = 2 from rfl]
      gi_wp2
      go_end0
      exact ⟨⟨_, rfl⟩, pre, hS.out, hJ⟩

end Go.Proofs.YtgifflfjhockaaaGreatDoor.O

namespace Go.Proofs.YtgifflfjhockaaaGreatDoor.O
open Go.RowKit Go.Shelf
attribute [local go_sem] Oper.semAt_some

theorem blk_own {β : Type} (B g : Nat) (t : TypeId) (cs : β → Array Value) : OwnFrom B (fun s W => Blk W g t (cs s)) := by
  intro s X Y row h hg hrow
  refine (hg.block g h.lt (fun e => ?_)).trans h
  obtain ⟨_, o, ho, hc⟩ := hrow g e.symm
  rw [show X.heap[g]? = _ from h] at ho
  cases ho; cases hc
theorem keep_own {β : Type} {B : Nat} {w0 : World} (O : Nat → Prop) (hB : w0.heap.size ≤ B) : OwnFrom B (fun (_ : β) W => Keep O w0 W) := by
  intro s X Y row h hg hrow
  exact h.grown hg (fun g e hl => by have := (hrow g e).1; omega)
set_option maxHeartbeats 1000000 in
theorem parts_any (q : Row) (op a b : Int) (w : World) : Calls Tryz.prog 194 #[rowV q, instV op a b] w fun e w' =>
    e = .returned (.func (.func 210) #[] #[.pointer (some ⟨w.heap.size + 1, 0, none⟩), .pointer (some ⟨w.heap.size, 0, none⟩)]) ∧ Blk w' w.heap.size 259 (cells9 q) ∧ Blk w' (w.heap.size + 1) 63 #[.int .i64 op, .int .i64 a, .int .i64 b] ∧ Keep NoB w w' := by
  go_enter Tryz.func194, Tryz.ntmps194
  go_wp2
  go_ret
  have h1 := Blk.new (w.alloc (.cells (cells9 q) 259)) 63 #[.int .i64 op, .int .i64 a, .int .i64 b]
  rw [World.size_alloc] at h1
  exact ⟨rfl, (Blk.new _ _ _).alloc _, h1, ((Keep.refl NoB w).alloc _).alloc _⟩

/-- The text of the operands that have come. -/
def textP (l : List (Int × Int)) : List UInt8 := l.flatMap fun x => 32 :: word x.1 x.2
theorem kinds_none (op : Int) : (rowAt op).ka = 0 → (rowAt op).kb = 0 := by
  have := rowAt_all (p := fun r => decide (r.ka = 0 → r.kb = 0)) (by decide) (by decide) op
  exact of_decide_eq_true this

theorem textP_len : ∀ (l : List (Int × Int)), (∀ x ∈ l, I64 x.2) → (textP l).length ≤ 22 * l.length
  | [], _ => Nat.zero_le _
  | x :: l, h => by
    have h1 := word_len x.1 x.2 (h x (by simp))
    have h2 := textP_len l (fun y hy => h y (by simp [hy]))
    have e : textP (x :: l) = (32 :: word x.1 x.2) ++ textP l := by unfold textP; simp
    rw [e]
    simp
    omega
theorem parts_mem {ka kb a b : Int} {x : Int × Int} (h : x ∈ partsL ka kb a b) : x.1 ≠ 0 ∧ (x.2 = a ∨ x.2 = b) := by
  unfold partsL at h
  split at h
  · cases h
  · split at h
    · rename_i h1 h2; simp at h; subst h; exact ⟨h1, .inl rfl⟩
    · rename_i h1 h2
      simp at h
      rcases h with rfl | rfl
      · exact ⟨h1, .inl rfl⟩
      · exact ⟨h2, .inr rfl⟩
theorem parts_len (ka kb a b : Int) : (partsL ka kb a b).length ≤ 2 := by unfold partsL; split <;> (try split) <;> simp
theorem part_facts {ka kb a b : Int} {pre : List Part} {x : Part} {W : World} (h : PartN ka kb a b pre x W) (ha : I64 a) (hb : I64 b) : x.k ≠ 0 ∧ I64 x.n ∧ (textP (pre.map Part.key)).length ≤ 44 := by
  obtain ⟨⟨post, hp⟩, _⟩ := h
  have h64 : ∀ y ∈ partsL ka kb a b, I64 y.2 := fun y hy => by rcases (parts_mem hy).2 with e | e <;> rw [e] <;> assumption
  have hx := parts_mem (x := x.key) (by rw [← hp]; simp)
  have hl := congrArg List.length hp
  have h2 := parts_len ka kb a b
  have hx64 := h64 x.key (by rw [← hp]; simp)
  have ht := textP_len (pre.map Part.key) (fun y hy => h64 y (by rw [← hp]; exact List.mem_append_left _ hy))
  simp at hl ht
  exact ⟨hx.1, hx64, by omega⟩
theorem Keep_putObj {O : Nat → Prop} {w W : World} {D : Nat} {o : Obj} (h : Keep O w W) (hD : w.heap.size ≤ D) : Keep O w (W.putObj D o) := h.grown (grownBy_putObj' W D o) (fun g e hl => by cases e; omega)
end Go.Proofs.YtgifflfjhockaaaGreatDoor.O

namespace Go.Proofs.YtgifflfjhockaaaGreatDoor.I
open Go.RowKit Go.Shelf W
attribute [local go_sem] Oper.semAt_some

/-- The function of a number, and what comes. -/
def fnI (fs : List FE) (x : Nat) : FE := fs[x]?.getD (F.nilV, F.nilF)
theorem fnI_at {fs : List FE} {x : Nat} (h : x < fs.length) : fnI fs x = fs[x] := by unfold fnI; rw [List.getElem?_eq_getElem h]; rfl
abbrev eaA (fs : List FE) (x : Nat) : Array Value := #[.int .i64 (x : Int), (fnI fs x).1.val]
/-- What a round keeps: the list of functions. -/
def FsK (Y : Option Addr) (fs : List FE) (W W' : World) : Prop := Rd W Y (fvs fs) → Rd W' Y (fvs fs)
theorem FsK.trans {Y : Option Addr} {fs : List FE} {A B C : World} (h : FsK Y fs A B) (h' : FsK Y fs B C) : FsK Y fs A C := fun hr => h' (h hr)
theorem rd_putObj {A : Option Addr} {xs : List Value} (W : World) (l : Nat) (o o' : Obj) (hl : W.heap[l]? = some o) (ho : o.isCells = false) (hr : Rd W A xs) : Rd (W.putObj l o') A xs := fun h0 => by
  obtain ⟨g, off, e, hc⟩ := hr h0
  refine ⟨g, off, e, fun j u hu => ?_⟩
  have h1 := hc j u hu
  have hne : g ≠ l := by
    intro e2
    unfold World.cell? at h1
    dsimp only at h1
    rw [e2, hl] at h1
    cases o with
    | cells cs t f => cases ho
    | _ => simp at h1
  exact (World.cell?_of_block (World.putObj_heap_other (show (⟨g, off + j, none⟩ : Addr).block ≠ l from hne))).trans h1
theorem FsK.putObj {Y : Option Addr} {fs : List FE} (W : World) (l : Nat) (o o' : Obj) (hl : W.heap[l]? = some o) (ho : o.isCells = false) : FsK Y fs W (W.putObj l o') := fun h => rd_putObj W l o o' hl ho h
theorem rd_lt {W : World} {A : Option Addr} {xs : List Value} (h : Rd W A xs) {ad : Addr} (e : A = some ad) (h0 : 0 < xs.length) : ad.block < W.heap.size := by
  obtain ⟨g, off, e2, hc⟩ := h h0
  rw [e] at e2
  injection e2 with e2
  subst e2
  exact World.block_lt_of_cell? W _ (hc 0 _ (List.getElem?_eq_getElem h0))
set_option maxRecDepth 100000 in
set_option maxHeartbeats 4000000 in
theorem each1_in (m l : Nat) (hm : 1 ≤ m) (b : Nat) (v : IV) (fs : List FE) (hl : fs.length = v.ny) (hn : v.ny ≤ 1000) (J Jx : List Nat → World → Prop) (hJk : ∀ pre W W', J pre W → Keep NoB W W' → J pre W')
    (hY : ∀ pre x W, J pre W → pre.length < v.ny → YieldAt Fence.wide (m - 1) Tryz.prog l (eaA fs x) W fun e W' =>
      (e = .returned (.bool true) ∧ J (pre ++ [x]) W' ∧ FsK v.Y fs W W') ∨ (e = .returned (.bool false) ∧ Jx (pre ++ [x]) W'))
    (W : World) (hx : Blk W b 25 v.cells) (hr : Rd W v.Y (fvs fs)) (h0 : J [] W) :
    CallsIn Fence.wide m Tryz.prog 104 #[.func (.yield l) #[] #[], .pointer (some ⟨b, 0, none⟩)] W fun e W' => (∃ v, e = .returned v) ∧
      ((∃ ys : List Nat, ys = List.range v.ny ∧ J ys W') ∨ (∃ pre : List Nat, (∃ k, k ≤ v.ny ∧ pre = List.range k) ∧ Jx pre W')) := by
  obtain ⟨q0, q1⟩ := blk2 hx
  obtain ⟨X, nx, cx, Y, ny, cy⟩ := v
  dsimp only at *
  have HR := Lib.hid hr
  clear hr hx
  refine callsIn_of_wp Tryz.func104 rfl trivial ?_ rfl
  simp only [Tryz.ntmps104, List.size_toArray, List.length_cons, List.length_nil, Nat.reduceAdd, Nat.reduceSub, Array.replicate_succ, Array.replicate_zero, List.push_toArray, List.append_toArray, List.nil_append, List.cons_append]
  gi_wp2
  gi_loopw [8] (fun p wr => ∃ j : Nat, j ≤ ny ∧ p = .int .i64 (j : Int) ∧ J (List.range j) wr ∧ Hid (Rd wr Y (fvs fs))) (fun p _ => ny - (intOf p).toNat)
  case atStart => exact ⟨0, by omega, rfl, h0, HR.out⟩
  case round =>
    clear h0 HR q0 q1
    obtain ⟨j, hj, rfl, hJ, hL⟩ := hrel
    by_cases hlt : j < ny
    · have hje : j < fs.length := by omega
      obtain ⟨g, off, rfl, c0, c1, c2, c3, c4⟩ := fun_at hL.out hje
      have hk0 := (Keep.refl NoB wr).alloc (.cells (fnI fs j).1.cells 61)
      have HY := Lib.hid (hY (List.range j) j _ (hJk _ _ _ hJ hk0) (by simp; omega))
      have HL2 := Lib.hid (hL.out.keepN hk0)
      have HE : Hid (List.range j ++ [j] = List.range (j + 1)) := by show _ = _; rw [List.range_succ]
      have hfi := fnI_at hje
      dsimp only [eaA] at HY
      rw [hfi] at HY HL2
      clear hJ hk0 hfi
      generalize fs[j] = e at c0 c1 c2 c3 c4 HY HL2
      obtain ⟨⟨S1, A1, na1, ca1, B1, nb1, cb1, L1, nl1, cl1, D1, nd1, cd1⟩, f⟩ := e
      dsimp only [F.FV.val, F.FV.cells] at c0 c1 c2 c3 c4 HY HL2
      obtain ⟨fn, tmps, assign, body, hy, hRun⟩ := HY.out
      clear HY hY
      gi_wp2
      refine hRun.mono ?_
      rintro e W3 (⟨rfl, hJ3, hk3⟩ | ⟨rfl, hJx3⟩)
      · have hL3 := hk3 HL2.out
        rw [HE.out] at hJ3
        gi_wp2
        go_roundw
        case rel => exact ⟨j + 1, by omega, by go_num, hJ3, hL3⟩
        case measure => simp [intOf]; omega
      · rw [HE.out] at hJx3
        gi_wp2
        refine bodyPost_ret (results_none rfl _ _ _) rfl ?_
        exact ⟨⟨_, rfl⟩, .inr ⟨_, ⟨_, by omega, rfl⟩, hJx3⟩⟩
    · obtain rfl : j = ny := by omega
      gi_wp2
      go_end0
      exact ⟨⟨_, rfl⟩, .inl ⟨_, rfl, hJ⟩⟩

theorem each_abides {B : Nat} {J : List Nat → World → Prop} (h : AbidesFrom B J) : ∀ pre W W', J pre W → Keep NoB W W' → J pre W' := fun pre W W' hj hk => h pre W W' none hj hk.grows (fun r e => by cases e)
theorem each_stops (m : Nat) (hm : 1 ≤ m) (b : Nat) (v : IV) (fs : List FE) (hl : fs.length = v.ny) (hn : v.ny ≤ 1000) (w : World) (hx : Blk w b 25 v.cells) (hr : Rd w v.Y (fvs fs)) :
    SeqStopsK Fence.wide m Tryz.prog 104 #[.pointer (some ⟨b, 0, none⟩)] (eaA fs) (FsK v.Y fs) (fun ys : List Nat => ys = List.range v.ny) (fun pre : List Nat => ∃ k, k ≤ v.ny ∧ pre = List.range k) v.ny w := fun l J Jx W hb hJ _ hY h0 =>
  each1_in m l hm b v fs hl hn J Jx (each_abides hJ) hY W (Blk.keep hx (Keep.of_below (O := NoB) hb) id) (hr.keepN (Keep.of_below (O := NoB) hb)) h0

set_option maxRecDepth 100000 in
theorem each_any (m : Nat) (v : IV) (w : World) :
    CallsIn Fence.wide m Tryz.prog 57 #[v.val] w fun e w' => e = .returned (.func (.func 104) #[] #[.pointer (some ⟨w.heap.size, 0, none⟩)]) ∧ w' = w.alloc (.cells v.cells 25) := by
  obtain ⟨X, nx, cx, Y, ny, cy⟩ := v
  dsimp only [IV.val, IV.cells]
  refine callsIn_of_wp Tryz.func57 rfl trivial ?_ rfl
  simp only [Tryz.ntmps57, List.size_toArray, List.length_cons, List.length_nil, Nat.reduceAdd, Nat.reduceSub, Array.replicate_succ, Array.replicate_zero, List.push_toArray, List.append_toArray, List.nil_append, List.cons_append]
  gi_wp2
  go_ret
  exact ⟨rfl, rfl⟩

end Go.Proofs.YtgifflfjhockaaaGreatDoor.I

namespace Go.Proofs.YtgifflfjhockaaaGreatDoor
open Go.RowKit Go.Maps

/-- Block b is a map of at most n keys; each number has what f says. -/
def IMap (P : Program) (k e : TypeId) (b n : Nat) (f : Int → Nat) (w : World) : Prop :=
  ∃ D : DataW Unit, w.ownsMap P k (plainElem P e) b n D ∧ IsMap D ∧ ∀ h : Int, D.atKey (.int .i64 h) (.lit (.int .i64 0)) = .lit (.int .i64 (f h : Int))
section
variable {P : Program} {k e t : TypeId} {b n : Nat} {f : Int → Nat} {w w' : World}
theorem IMap.new (P : Program) (k e : TypeId) (w : World) : IMap P k e w.heap.size 0 (fun _ => 0) (w.alloc (.map #[] 0)) :=
  ⟨.map [], World.ownsMap_made w P k _, isMap_empty, fun _ => rfl⟩
theorem IMap.lt (h : IMap P k e b n f w) : b < w.heap.size := by obtain ⟨_, h, _⟩ := h; exact h.lt
theorem IMap.obj (h : IMap P k e b n f w) : ∃ es c, w.heap[b]? = some (.map es c) := by
  obtain ⟨_, ⟨es, c, hb, _⟩, _⟩ := h
  exact ⟨es, c, hb⟩
theorem IMap.grown {row : Option Nat} (h : IMap P k e b n f w) (hg : w.grownBy w' row) (hne : some b ≠ row) : IMap P k e b n f w' := by
  obtain ⟨D, h1, h2, h3⟩ := h
  exact ⟨D, h1.kept hg hne, h2, h3⟩
theorem IMap.keep {O : Nat → Prop} (h : IMap P k e b n f w) (hk : Keep O w w') (hb : ¬ O b) : IMap P k e b n f w' := by
  obtain ⟨D, ⟨es, c, h0, hr⟩, h2, h3⟩ := h
  exact ⟨D, ⟨es, c, (hk.block b (Array.getElem?_eq_some_iff.1 h0).1 hb).trans h0, hr⟩, h2, h3⟩
theorem IMap.mono {m : Nat} (h : IMap P k e b n f w) (hm : n ≤ m) : IMap P k e b m f w := by
  obtain ⟨D, h1, h2, h3⟩ := h
  exact ⟨D, h1.mono hm, h2, h3⟩
theorem IMap.congr {g : Int → Nat} (h : IMap P k e b n f w) (hg : ∀ x, g x = f x) : IMap P k e b n g w := by
  obtain ⟨D, h1, h2, h3⟩ := h
  exact ⟨D, h1, h2, fun x => by rw [hg]; exact h3 x⟩
/-- What a store of one makes of f. -/
def setF (f : Int → Nat) (x : Int) (v : Nat) : Int → Nat := fun y => if y = x then v else f y
theorem lit_inj {a b : Int} (h : (DataW.lit (.int .i64 a) : DataW Unit) = .lit (.int .i64 b)) : a = b := by injection h with h; injection h with _ h
theorem isMap_put {D : DataW Unit} {f : Int → Nat} {x : Int} {v : Nat} (hD : IsMap D) (h3 : ∀ h : Int, D.atKey (.int .i64 h) (.lit (.int .i64 0)) = .lit (.int .i64 (f h : Int))) :
    ∀ h : Int, (D.put (.int .i64 x) (.lit (.int .i64 (v : Int)))).atKey (.int .i64 h) (.lit (.int .i64 0)) = .lit (.int .i64 (setF f x v h : Int)) := by
  intro h
  unfold setF
  by_cases he : h = x
  · subst he; rw [if_pos rfl]; exact atKey_put_same hD (by unfold WideAt.IsKeyLit; trivial) _ _
  · rw [if_neg he, atKey_put_other (by intro e; injection e with _ e; exact he e)]; exact h3 h
/-- A store. -/
theorem IMap.update (h : IMap P k e b n f w) (ht : P.underlying t = some (.map k e)) (hk : P.underlying k = some (.int .i64)) (he : P.underlying e = some (.int .i64)) (hn : n < maxLen) (x : Int) (v : Nat) (hx : (Lit.int .i64 x).wf = true) (hv : (Lit.int .i64 (v : Int)).wf = true) :
    ∃ w', (Instr.mapUpdate t (.map (some b)) (.int .i64 x) (.int .i64 (v : Int))).run P w = .ok () w' ∧ IMap P k e b (n + 1) (setF f x v) w' ∧ w.grownBy w' (some b) := by
  obtain ⟨D, h1, h2, h3⟩ := h
  obtain ⟨w', hrun, r1, r2⟩ := h1.update (int_keyed hk) ht hn (keyOf_int_mk hk hx) (plainElem_int he hv)
  exact ⟨w', hrun, ⟨_, r1, h2.put _ _, isMap_put h2 h3⟩, r2⟩
/-- A look. -/
theorem IMap.look (h : IMap P k e b n f w) (ht : P.underlying t = some (.map k e)) (hk : P.underlying k = some (.int .i64)) (he : P.underlying e = some (.int .i64)) (hz : (zeroValue e).run P w = .ok (.int .i64 0) w) (x : Int) (hx : (Lit.int .i64 x).wf = true) :
    (Instr.lookup t (.map (some b)) (.int .i64 x) false).run P w = .ok (.int .i64 (f x : Int)) w := by
  obtain ⟨D, h1, h2, h3⟩ := h
  obtain ⟨c, hrun, hat, _⟩ := h1.lookup_int (int_keyed hk) ht he hz (keyOf_int_mk hk hx)
  rw [h3 x] at hat
  rw [lit_inj hat]
  exact hrun
end
end Go.Proofs.YtgifflfjhockaaaGreatDoor

namespace Go.Proofs.YtgifflfjhockaaaGreatDoor
open Go.RowKit Go.Maps

/-- Block b is a map of at most n keys; each text has what f says. -/
def SMap (P : Program) (k e : TypeId) (b n : Nat) (f : List UInt8 → Nat) (w : World) : Prop :=
  ∃ D : DataW Unit, w.ownsMap P k (plainElem P e) b n D ∧ IsMap D ∧ ∀ s : List UInt8, D.atKey (.string s) (.lit (.int .i64 0)) = .lit (.int .i64 (f s : Int))
section
variable {P : Program} {k e t : TypeId} {b n : Nat} {f : List UInt8 → Nat} {w w' : World}
theorem SMap.new (P : Program) (k e : TypeId) (w : World) : SMap P k e w.heap.size 0 (fun _ => 0) (w.alloc (.map #[] 0)) :=
  ⟨.map [], World.ownsMap_made w P k _, isMap_empty, fun _ => rfl⟩
theorem SMap.lt (h : SMap P k e b n f w) : b < w.heap.size := by obtain ⟨_, h, _⟩ := h; exact h.lt
theorem SMap.obj (h : SMap P k e b n f w) : ∃ es c, w.heap[b]? = some (.map es c) := by
  obtain ⟨_, ⟨es, c, hb, _⟩, _⟩ := h
  exact ⟨es, c, hb⟩
theorem SMap.grown {row : Option Nat} (h : SMap P k e b n f w) (hg : w.grownBy w' row) (hne : some b ≠ row) : SMap P k e b n f w' := by
  obtain ⟨D, h1, h2, h3⟩ := h
  exact ⟨D, h1.kept hg hne, h2, h3⟩
theorem SMap.keep {O : Nat → Prop} (h : SMap P k e b n f w) (hk : Keep O w w') (hb : ¬ O b) : SMap P k e b n f w' := by
  obtain ⟨D, ⟨es, c, h0, hr⟩, h2, h3⟩ := h
  exact ⟨D, ⟨es, c, (hk.block b (Array.getElem?_eq_some_iff.1 h0).1 hb).trans h0, hr⟩, h2, h3⟩
theorem SMap.mono {m : Nat} (h : SMap P k e b n f w) (hm : n ≤ m) : SMap P k e b m f w := by
  obtain ⟨D, h1, h2, h3⟩ := h
  exact ⟨D, h1.mono hm, h2, h3⟩
theorem SMap.congr {g : List UInt8 → Nat} (h : SMap P k e b n f w) (hg : ∀ x, g x = f x) : SMap P k e b n g w := by
  obtain ⟨D, h1, h2, h3⟩ := h
  exact ⟨D, h1, h2, fun x => by rw [hg]; exact h3 x⟩
/-- What a store makes of f. -/
def setS (f : List UInt8 → Nat) (x : List UInt8) (v : Nat) : List UInt8 → Nat := fun y => if y = x then v else f y
theorem isMap_putS {D : DataW Unit} {f : List UInt8 → Nat} {x : List UInt8} {v : Nat} (hD : IsMap D) (h3 : ∀ h : List UInt8, D.atKey (.string h) (.lit (.int .i64 0)) = .lit (.int .i64 (f h : Int))) :
    ∀ h : List UInt8, (D.put (.string x) (.lit (.int .i64 (v : Int)))).atKey (.string h) (.lit (.int .i64 0)) = .lit (.int .i64 (setS f x v h : Int)) := by
  intro h
  unfold setS
  by_cases he : h = x
  · subst he; rw [if_pos rfl]; exact atKey_put_same hD (by unfold WideAt.IsKeyLit; trivial) _ _
  · rw [if_neg he, atKey_put_other (by intro e; injection e with e; exact he e)]; exact h3 h
theorem keyOf_str {P : Program} {k : TypeId} (hk : P.underlying k = some .string) {S : ByteArray} (hs : S.size ≤ maxLen) : keyOf P k (.string S) = some (.string S.data.toList) := by
  simp [keyOf, hk, mapKey, hs]
/-- A store. -/
theorem SMap.update (h : SMap P k e b n f w) (ht : P.underlying t = some (.map k e)) (hk : P.underlying k = some .string) (he : P.underlying e = some (.int .i64)) (hn : n < maxLen) (S : ByteArray) (v : Nat) (hx : S.size ≤ maxLen) (hv : (Lit.int .i64 (v : Int)).wf = true) :
    ∃ w', (Instr.mapUpdate t (.map (some b)) (.string S) (.int .i64 (v : Int))).run P w = .ok () w' ∧ SMap P k e b (n + 1) (setS f S.data.toList v) w' ∧ w.grownBy w' (some b) := by
  obtain ⟨D, h1, h2, h3⟩ := h
  obtain ⟨w', hrun, r1, r2⟩ := h1.update (string_keyed hk) ht hn (keyOf_str hk hx) (plainElem_int he hv)
  exact ⟨w', hrun, ⟨_, r1, h2.put _ _, isMap_putS h2 h3⟩, r2⟩
/-- A look. -/
theorem SMap.look (h : SMap P k e b n f w) (ht : P.underlying t = some (.map k e)) (hk : P.underlying k = some .string) (he : P.underlying e = some (.int .i64)) (hz : (zeroValue e).run P w = .ok (.int .i64 0) w) (S : ByteArray) (hx : S.size ≤ maxLen) :
    (Instr.lookup t (.map (some b)) (.string S) false).run P w = .ok (.int .i64 (f S.data.toList : Int)) w := by
  obtain ⟨D, h1, h2, h3⟩ := h
  obtain ⟨c, hrun, hat, _⟩ := h1.lookup_int (string_keyed hk) ht he hz (keyOf_str hk hx)
  rw [h3 S.data.toList] at hat
  rw [lit_inj hat]
  exact hrun
end
end Go.Proofs.YtgifflfjhockaaaGreatDoor

namespace Go.Proofs.YtgifflfjhockaaaGreatDoor.I
open Go.RowKit Go.Shelf W
attribute [local go_sem] Oper.semAt_some

/-- The name of a number. -/
def nmx (fs : List FE) (x : Nat) : List UInt8 := (fnI fs x).1.S.data.toList
/-- How often a name has come, if none came twice. -/
def cntF (fs : List FE) (pre : List Nat) (s : List UInt8) : Nat := if s ∈ pre.map (nmx fs) then 1 else 0
theorem cntF_new {fs : List FE} {pre : List Nat} {x : Nat} : ∀ s, cntF fs (pre ++ [x]) s = setS (cntF fs pre) (nmx fs x) 1 s := by
  intro s
  unfold cntF setS
  by_cases e : s = nmx fs x
  · subst e; simp
  · rw [if_neg e]; simp [e]
theorem nodup_new {fs : List FE} {pre : List Nat} {x : Nat} (h : nmx fs x ∉ pre.map (nmx fs)) (hp : (pre.map (nmx fs)).Nodup) : ((pre ++ [x]).map (nmx fs)).Nodup := by
  rw [List.map_append, List.nodup_append]
  refine ⟨hp, by simp, ?_⟩
  intro a ha b hb
  simp at hb
  subst hb
  rintro rfl
  exact h ha
theorem names_range {fs : List FE} {n : Nat} (hn : fs.length = n) (hN : ∀ e ∈ fs, e.1.S.data.toList = e.2.nm) : (List.range n).map (nmx fs) = names (imOf [] fs) := by
  apply List.ext_getElem?
  intro i
  unfold names imOf nmx
  by_cases h : i < fs.length
  · rw [List.getElem?_map, List.getElem?_range (by omega)]
    simp [fnI_at h, h, hN _ (List.getElem_mem h)]
  · rw [List.getElem?_eq_none (by simp; omega), List.getElem?_eq_none (by simp; omega)]
theorem rd_grown {W W' : World} {A : Option Addr} {xs : List Value} {mb : Nat} {es : Array MapEntry} {c : Nat} (hg : W.grownBy W' (some mb)) (hm : W.heap[mb]? = some (.map es c)) (hr : Rd W A xs) : Rd W' A xs := fun h0 => by
  obtain ⟨g, off, e, hc⟩ := hr h0
  refine ⟨g, off, e, fun j u hu => ?_⟩
  have h1 := hc j u hu
  have hne : g ≠ mb := by
    rintro rfl
    unfold World.cell? at h1
    simp [hm] at h1
  exact (World.cell?_of_block (hg.block g (World.block_lt_of_cell? W _ h1) (by simp [hne]))).trans h1
theorem blk_grown_map {W W' : World} {mb g : Nat} {t : TypeId} {cs : Array Value} {es : Array MapEntry} {c : Nat} (hg : W.grownBy W' (some mb)) (hm : W.heap[mb]? = some (.map es c)) (h : Blk W g t cs) : Blk W' g t cs :=
  h.grown hg (fun e => by
    cases e
    unfold Blk at h
    rw [hm] at h; cases h)
/-- What the loop keeps. -/
def ApI (w : World) (b : Nat) (fs : List FE) (pre : List Nat) (W : World) : Prop :=
  (Blk W (b + 1) 4 #[.bool false] ∧ Blk W (b + 1 + 1 + 1) 75 #[.map (some (b + 1 + 1))]) ∧ SMap Tryz.prog 9 3 (b + 1 + 1) pre.length (cntF fs pre) W ∧ Keep NoB w W ∧ (pre.map (nmx fs)).Nodup
/-- Where it is left: a name came twice. -/
def ApX (w : World) (b : Nat) (fs : List FE) (c : Code) (pre : List Nat) (W : World) : Prop :=
  c = .ret ∧ Blk W (b + 1) 4 #[.bool false] ∧ Keep NoB w W ∧ ¬ (pre.map (nmx fs)).Nodup
def ApA (v : IV) (fs : List FE) (b : Nat) (x : Nat) (Bo : Nat) : Act :=
  { tmps := #[v.val, .pointer (some ⟨b, 0, none⟩), .pointer (some ⟨b + 1, 0, none⟩), .pointer (some ⟨b + 1 + 1 + 1, 0, none⟩), undef, .pointer (some ⟨Bo, 0, none⟩), .map (some (b + 1 + 1)), v.val, .func (.func 104) #[] #[.pointer (some ⟨b + 1 + 1 + 1 + 1, 0, none⟩)], .int .i64 (x : Int), (fnI fs x).1.val, undef, undef, undef, undef, undef, undef, undef, undef, undef, undef], defers := [] }
theorem apI_own {w : World} {b B : Nat} {fs : List FE} (hb : b + 4 ≤ B) (hB : w.heap.size ≤ B) : OwnFrom B (ApI w b fs) := by
  intro s X Y row ⟨⟨h1, h2⟩, h3, h4, h5⟩ hg hrow
  exact ⟨⟨O.blk_own (β := Unit) _ _ _ (fun _ => _) () _ _ _ h1 hg hrow, O.blk_own (β := Unit) _ _ _ (fun _ => _) () _ _ _ h2 hg hrow⟩, h3.grown hg (fun e => by have := (hrow _ e.symm).1; omega), O.keep_own (β := Unit) _ hB () _ _ _ h4 hg hrow, h5⟩
theorem apX_own {w : World} {b B : Nat} {fs : List FE} (hB : w.heap.size ≤ B) (c : Code) : OwnFrom B (fun (pre : List Nat) W => ApX w b fs c pre W) := by
  intro s X Y row ⟨h0, h1, h4, h5⟩ hg hrow
  exact ⟨h0, O.blk_own (β := Unit) _ _ _ (fun _ => _) () _ _ _ h1 hg hrow, O.keep_own (β := Unit) _ hB () _ _ _ h4 hg hrow, h5⟩
theorem met_zero (w : World) : (zeroValue 3).run Tryz.prog w = .ok (.int .i64 0) w := Tryz.zeroValue3 w
theorem not_nodup_range {fs : List FE} {k n : Nat} (hk : k ≤ n) (h : ¬ ((List.range k).map (nmx fs)).Nodup) : ¬ ((List.range n).map (nmx fs)).Nodup := by
  intro h2
  refine h (List.Nodup.sublist ?_ h2)
  exact (List.range_sublist.2 hk).map _
theorem blk_putObj {W : World} {g D : Nat} {t : TypeId} {cs : Array Value} {o o' : Obj} (h : Blk W g t cs) (hl : W.heap[D]? = some o) (ho : o.isCells = false) : Blk (W.putObj D o') g t cs := by
  have hne : g ≠ D := by
    rintro rfl
    unfold Blk at h
    rw [hl] at h; cases h; cases ho
  exact (World.putObj_heap_other hne).trans h
theorem run_bool {w : World} {g : Nat} {u : Bool} (h : Blk w g 4 #[.bool u]) : (loadVar 4 ⟨g, 0, none⟩).run Tryz.prog w = .ok (.bool u) w := by
  have ha : (isAgg 4).run Tryz.prog w = .ok false w := Tryz.isAgg4 w
  have hc : w.cell? ⟨g, 0, none⟩ = some (.bool u) := h.cell 0
  simp [loadVar, ha, hc]

set_option maxRecDepth 100000 in
set_option maxHeartbeats 4000000 in
theorem apart_any (v : IV) (es : List SE) (fs : List FE) (w : World) (h : ImAt w v es fs) (hn : v.ny ≤ 1000) (hf : ∀ e ∈ fs, e.1.S.size ≤ 140737488355328) (R : Bool) (hR : Hid (decide ((names (imOf [] fs)).Nodup) = R)) :
    Calls Tryz.prog 54 #[v.val] w fun e w' => e = .returned (.bool R) ∧ Keep NoB w w' := by
  have hly := h.ly
  have HR := Lib.hid (fun W (hk : Keep NoB w W) => h.ry.keepN hk)
  have HN := Lib.hid (names_range hly (fun e he => (h.hf e he).nm))
  have HSZ : Hid (∀ x, (fnI fs x).1.S.size ≤ maxLen) := fun x => by
    by_cases hx : x < fs.length
    · rw [fnI_at hx]; have := hf _ (List.getElem_mem hx); unfold maxLen; omega
    · unfold fnI; rw [List.getElem?_eq_none (by omega)]; exact Nat.zero_le _
  clear h hf
  refine (callsIn_wide (n := 4)).1 ?_
  refine callsIn_of_wp_marks Tryz.func54 rfl trivial ?_ rfl
  have hmm := @run_makeMap Tryz.prog
  have hst := Lib.hid (fun m hm b w hx hr => each_stops m hm b v fs hly hn w hx hr)
  have he1 := Lib.hid (fun m w => each_any m v w)
  have hkk := ((((Keep.refl NoB w).alloc (.cells v.cells 25)).alloc (.cells #[.bool false] 4)).alloc (.map #[] 0)).alloc (.cells #[.map (some (w.heap.size + 1 + 1))] 75)
  have hs := (((Blk.new (w.alloc (.cells v.cells 25)) 4 #[.bool false]).alloc (.map #[] 0)).alloc (.cells #[.map (some (w.heap.size + 1 + 1))] 75)).alloc (.cells v.cells 25)
  have hm0 := SMap.new Tryz.prog 9 3 ((w.alloc (.cells v.cells 25)).alloc (.cells #[.bool false] 4))
  simp only [World.size_alloc] at hm0
  have hm1 := hm0.keep (O := NoB) (((Keep.refl NoB _).alloc (.cells #[.map (some (w.heap.size + 1 + 1))] 75)).alloc (.cells v.cells 25)) id
  have hb3 := (Blk.new (((w.alloc (.cells v.cells 25)).alloc (.cells #[.bool false] 4)).alloc (.map #[] 0)) 75 #[.map (some (w.heap.size + 1 + 1))]).alloc (.cells v.cells 25)
  have hi5 := Blk.new ((((w.alloc (.cells v.cells 25)).alloc (.cells #[.bool false] 4)).alloc (.map #[] 0)).alloc (.cells #[.map (some (w.heap.size + 1 + 1))] 75)) 25 v.cells
  simp only [World.size_alloc] at hs hb3 hi5
  have hK := hkk.alloc (.cells v.cells 25)
  have hr5 := HR.out _ hK
  have hI0 : ApI w w.heap.size fs [] _ := ⟨⟨hs, hb3⟩, hm1.congr (fun x => by simp [cntF]), hK, by simp⟩
  have HI0 := Lib.hid hI0
  have HX5 := Lib.hid hi5
  have HR5 := Lib.hid hr5
  clear hs hm0 hm1 hb3 hi5 hkk hK hr5 hI0
  obtain ⟨X, nx, cx, Y, ny, cy⟩ := v
  dsimp only [IV.val, IV.cells] at *
  simp only [Tryz.ntmps54, List.size_toArray, List.length_cons, List.length_nil, Nat.reduceAdd, Nat.reduceSub, Array.replicate_succ, Array.replicate_zero, List.push_toArray, List.append_toArray, List.nil_append, List.cons_append]
  gi_wp2_with (refine ⟨trivial, ?_⟩; gi_at_call 57; refine (he1.out _ _).mono ?_; rintro e w1 ⟨rfl, rfl⟩)
  refine wpIn_rangeFunc_ownH rfl (by omega) (gf := 104) (lb := #[.pointer (some ⟨w.heap.size + 1 + 1 + 1 + 1, 0, none⟩)]) rfl trivial (enters_of Tryz.func104 (by kernel_rfl) rfl)
    (hst.out _ (by omega) _ _ HX5.out HR5.out) FsK.trans (fun W l o o' _ hl ho _ => FsK.putObj W l o o' hl ho) (Below.refl _ _) (fun _ => rfl)
    (ApI w w.heap.size fs) (fun c pre W => ApX w w.heap.size fs c pre W) (apI_own (by simp) (by simp; omega)) (fun c => apX_own (by simp; omega) c) HI0.out
    (fun x a' W => ∃ Bo, Blk W Bo 61 (fnI fs x).1.cells ∧ a' = ApA ⟨X, nx, cx, Y, ny, cy⟩ fs w.heap.size x Bo) ?hax ?assign ?body ?done ?stop
  case hax =>
    rintro x a' s X Y row ⟨Bo, h1, h2⟩ hg hrow
    exact ⟨Bo, O.blk_own (β := Unit) _ _ _ (fun _ => _) () _ _ _ h1 hg hrow, h2⟩
  case assign =>
    intro l pre x W K hi hK
    have HI := Lib.hid (fun W' hk => apI_own (w := w) (b := w.heap.size) (fs := fs) (B := w.heap.size + 4) (Nat.le_refl _) (by omega) pre W W' none hi (Keep.grows hk) (fun r e => by cases e))
    have HB1 := Lib.hid (Blk.new W 61 (fnI fs x).1.cells)
    have HK2 := Lib.hid (fun a' W' h1 h2 h3 h4 => hK a' W' h1 h2 h3 h4)
    unfold ApA at HK2
    dsimp only [eaA]
    clear hi
    generalize fnI fs x = e at *
    obtain ⟨⟨S1, A1, na1, ca1, B1, nb1, cb1, L1, nl1, cl1, D1, nd1, cd1⟩, f⟩ := e
    dsimp only [F.FV.val, F.FV.cells, IV.val, IV.cells] at *
    clear hK
    gi_wp2
    exact HK2.out _ _ (keepsFrom_keep ((Keep.refl NoB W).alloc _)) (fun h => h.keepN ((Keep.refl NoB W).alloc _)) (HI.out _ ((Keep.refl NoB W).alloc _)) ⟨_, HB1.out, rfl⟩
  case body =>
    rintro l pre x a' W hl _ ⟨⟨hs, hm3⟩, hM, hK, hnd⟩ ⟨Bo, hb, rfl⟩ hlt
    have cb : W.cell? ⟨Bo, 0, none⟩ = some (.string (fnI fs x).1.S) := hb.cell 0
    have cm : W.cell? ⟨w.heap.size + 1 + 1 + 1, 0, none⟩ = some (.map (some (w.heap.size + 1 + 1))) := hm3.cell 0
    have hsz := HSZ.out x
    obtain ⟨em, cmc, hobj⟩ := hM.obj
    dsimp only [ApA, IV.val, IV.cells]
    have hzs := hs.lt
    by_cases hx : nmx fs x ∈ pre.map (nmx fs)
    · have e1 : cntF fs pre (fnI fs x).1.S.data.toList = 1 := if_pos hx
      have hlk := hM.look (t := 75) Tryz.underlying75 Tryz.underlying9 Tryz.underlying3 (met_zero _) (fnI fs x).1.S hsz
      obtain ⟨w5, hup, hM5, hg5⟩ := hM.update (t := 75) Tryz.underlying75 Tryz.underlying9 Tryz.underlying3 (by unfold maxLen; omega) (fnI fs x).1.S 2 hsz (by decide)
      have hlk5 := hM5.look (t := 75) Tryz.underlying75 Tryz.underlying9 Tryz.underlying3 (met_zero _) (fnI fs x).1.S hsz
      have e2 : setS (cntF fs pre) (fnI fs x).1.S.data.toList 2 (fnI fs x).1.S.data.toList = 2 := if_pos rfl
      rw [e1, show ((1 : Nat) : Int) = 1 from rfl] at hlk
      rw [e2, show ((2 : Nat) : Int) = 2 from rfl] at hlk5
      rw [show ((2 : Nat) : Int) = 2 from rfl] at hup
      have cb5 := (blk_grown_map hg5 hobj hb).cell 0
      have cm5 := (blk_grown_map hg5 hobj hm3).cell 0
      have hs5 := blk_grown_map hg5 hobj hs
      have hs6 := hs5.put 0 (.bool false)
      have fz := fun i => hs5.frozen i
      have c5 := hs5.cell 0
      have hzs5 := hs5.lt
      have HX : Hid (ApX w w.heap.size fs .ret (pre ++ [x]) (w5.setCell ⟨w.heap.size + 1, 0, none⟩ (.bool false))) :=
        ⟨rfl, hs6, (hK.grown hg5 (fun g e hl => by cases e; omega)).setCell (fun h => absurd h (by simp)) _, fun h => by
          rw [List.map_append, List.nodup_append] at h
          exact h.2.2 _ hx _ (by simp) rfl⟩
      have HKF : Hid (KeepsFrom (w.heap.size + 1 + 1 + 1 + 1 + 1) W (w5.setCell ⟨w.heap.size + 1, 0, none⟩ (.bool false))) :=
        ⟨by have := hg5.size; simpa [World.setCell] using this, fun k o hk1 hk2 hk3 => (Below.heap_setCell _ _ _ _ (by show k ≠ w.heap.size + 1; omega)).trans ((hg5.block k (Array.getElem?_eq_some_iff.1 hk2).1 (by simp; omega)).trans hk2)⟩
      simp only [F.FV.cells, List.getElem?_toArray, List.getElem?_cons_zero] at cb5 cm5 c5
      clear hM hM5 hs hm3 hb hs5 hs6 hK hg5 hobj hnd e1 e2 hx
      generalize fnI fs x = e at *
      obtain ⟨⟨S1, A1, na1, ca1, B1, nb1, cb1, L1, nl1, cl1, D1, nd1, cd1⟩, f⟩ := e
      dsimp only [F.FV.val, F.FV.cells] at *
      gi_wp2
      exact ⟨by simpa using HKF.out, HX.out⟩
    · have e1 : cntF fs pre (fnI fs x).1.S.data.toList = 0 := if_neg hx
      have hlk := hM.look (t := 75) Tryz.underlying75 Tryz.underlying9 Tryz.underlying3 (met_zero _) (fnI fs x).1.S hsz
      obtain ⟨w5, hup, hM5, hg5⟩ := hM.update (t := 75) Tryz.underlying75 Tryz.underlying9 Tryz.underlying3 (by unfold maxLen; omega) (fnI fs x).1.S 1 hsz (by decide)
      have hlk5 := hM5.look (t := 75) Tryz.underlying75 Tryz.underlying9 Tryz.underlying3 (met_zero _) (fnI fs x).1.S hsz
      have e2 : setS (cntF fs pre) (fnI fs x).1.S.data.toList 1 (fnI fs x).1.S.data.toList = 1 := if_pos rfl
      rw [e1, show ((0 : Nat) : Int) = 0 from rfl] at hlk
      rw [e2, show ((1 : Nat) : Int) = 1 from rfl] at hlk5
      rw [show ((1 : Nat) : Int) = 1 from rfl] at hup
      have cb5 := (blk_grown_map hg5 hobj hb).cell 0
      have cm5 := (blk_grown_map hg5 hobj hm3).cell 0
      have HX : Hid (ApI w w.heap.size fs (pre ++ [x]) w5) :=
        ⟨⟨blk_grown_map hg5 hobj hs, blk_grown_map hg5 hobj hm3⟩, by
          have := hM5.congr (g := cntF fs (pre ++ [x])) cntF_new
          rwa [show pre.length + 1 = (pre ++ [x]).length by simp] at this, hK.grown hg5 (fun g e hl => by cases e; omega), nodup_new hx hnd⟩
      have HKF : Hid (KeepsFrom (w.heap.size + 1 + 1 + 1 + 1 + 1) W w5 ∧ FsK Y fs W w5) :=
        ⟨⟨hg5.size, fun k o hk1 hk2 hk3 => (hg5.block k (Array.getElem?_eq_some_iff.1 hk2).1 (by simp; omega)).trans hk2⟩, fun hr => rd_grown hg5 hobj hr⟩
      simp only [F.FV.cells, List.getElem?_toArray, List.getElem?_cons_zero] at cb5 cm5
      clear hM hM5 hs hm3 hb hK hg5 hobj hnd e1 e2 hx
      generalize fnI fs x = e at *
      obtain ⟨⟨S1, A1, na1, ca1, B1, nb1, cb1, L1, nl1, cl1, D1, nd1, cd1⟩, f⟩ := e
      dsimp only [F.FV.val, F.FV.cells] at *
      gi_wp2
      exact ⟨by simpa using HKF.out.1, HKF.out.2, HX.out⟩
  case done =>
    rintro D ys W hD rfl ⟨⟨hs, hm3⟩, hM, hK, hnd⟩ hDf
    rw [HN.out] at hnd
    obtain rfl : true = R := by rw [← hR.out, decide_eq_true hnd]
    have hs6 := hs.put 0 (.bool true)
    have fz := fun i => hs.frozen i
    have c5 : W.cell? ⟨w.heap.size + 1, 0, none⟩ = some (.bool false) := hs.cell 0
    have hK6 := hK.setCell (p := ⟨w.heap.size + 1, 0, none⟩) (fun h => absurd h (by simp)) (.bool true)
    have hDf6 := (Below.heap_setCell W ⟨w.heap.size + 1, 0, none⟩ (.bool true) D (by show D ≠ w.heap.size + 1; simp at hD; omega)).trans hDf
    have HS6 := Lib.hid hs6
    clear hs hm3 hM hnd hK hs6
    gi_wp2
    refine ⟨by simp, .inl ⟨_, _, rfl, run_takeDeferred hDf6, ?_⟩⟩
    exact ⟨_, O.results_cell rfl rfl (run_bool (blk_putObj HS6.out hDf6 rfl)), rfl, O.Keep_putObj hK6 (by simp at hD; omega)⟩
  case stop =>
    rintro D c pre W hD ⟨k, hk, rfl⟩ ⟨rfl, hs, hK, hnd⟩ hDf
    have hnd2 := not_nodup_range hk hnd
    rw [HN.out] at hnd2
    obtain rfl : false = R := by rw [← hR.out, decide_eq_false hnd2]
    gi_wp2
    refine ⟨by simp, .inl ⟨_, _, rfl, run_takeDeferred hDf, ?_⟩⟩
    exact ⟨_, O.results_cell rfl rfl (run_bool (blk_putObj hs hDf rfl)), rfl, O.Keep_putObj hK (by simp at hD; omega)⟩

end Go.Proofs.YtgifflfjhockaaaGreatDoor.I

namespace Go.Proofs.YtgifflfjhockaaaGreatDoor
open Go.RowKit
section
variable {P : Program} {md : Region.Mode} {ops : Array Oper}

/-- Each late number is c, or stands behind c or a late one. -/
def lateG (md : Region.Mode) (ops : Array Oper) (c : Nat) (late : Nat → Bool) : Bool := (List.range ops.size).all fun i => match ops[i]? with
  | none => false
  | some o => !late i || (i == c || o.after.any fun e => Region.binds md e && (e.on == c || late e.on))
theorem lateG_at {c : Nat} {late : Nat → Bool} (h : lateG md ops c late = true) {i : Nat} {o : Oper} (ho : ops[i]? = some o) (hl : late i = true) (hc : i ≠ c) : ∃ e ∈ o.after, Region.binds md e = true ∧ (e.on = c ∨ late e.on = true) := by
  have hi := (Array.getElem?_eq_some_iff.1 ho).1
  have h1 := List.all_eq_true.1 h i (List.mem_range.2 hi)
  simp only [ho, hl, Bool.not_true, Bool.false_or, Bool.or_eq_true, beq_iff_eq] at h1
  rcases h1 with h1 | h1
  · exact absurd h1 hc
  · obtain ⟨j, hj, h2⟩ := Array.any_eq_true.1 h1
    simp only [Bool.and_eq_true, Bool.or_eq_true, beq_iff_eq] at h2
    exact ⟨o.after[j], Array.getElem_mem hj, h2.1, h2.2⟩

theorem wpAny_props4 {Q : Exit → Act → World → Prop} (d0 c : Nat) (O : Nat → Prop) (late : Nat → Bool) (hB : propsG ops d0 c = true) (hLt : lateG md ops c late = true) (S : Nat → Value → World → Prop) (w0 : World) (a0 : Act) (hS1 : ∀ i v w w', i ≠ c → late i = false → Keep O w0 w → S i v w → Keep O w w' → S i v w') (hS2 : ∀ i v w w', Keep O w0 w → S i v w → Keep NoB w w' → S i v w') (hsz : d0 + ops.size ≤ a0.tmps.size)
    (hstep : ∀ i o (a : Act) (w : World), ops[i]? = some o → i ≠ c → FrameI a0 d0 ops.size a → Keep O w0 w → (∀ e ∈ o.after, Region.binds md e = true → S e.on (a.tmps.getD (d0 + e.on) undef) w) → Does P ops o a w fun u w' => S i u w' ∧ Keep NoB w w')
    (hspec : ∀ o (a : Act) (w : World), ops[c]? = some o → FrameI a0 d0 ops.size a → Keep NoB w0 w → (∀ e ∈ o.after, Region.binds md e = true → S e.on (a.tmps.getD (d0 + e.on) undef) w) → Does P ops o a w fun u w' => (∀ v, (o.dst.isSome = true → v = u) → S c v w') ∧ Keep O w w')
    (hend : ∀ (a : Act) (w : World), FrameI a0 d0 ops.size a → Keep O w0 w → (∀ i, i < ops.size → S i (a.tmps.getD (d0 + i) undef) w) → Q .normal a w) :
    ∀ (fuel : Nat) (listed : Array Bool) (a : Act) (w : World), listed.size = ops.size → (∃ L : List Nat, L.length ≤ fuel ∧ ∀ i, i < ops.size → listed.getD i true = false → i ∈ L) → FrameI a0 d0 ops.size a → Keep O w0 w → (listed.getD c true = false → Keep NoB w0 w) → (∀ i, i < ops.size → late i = true → listed.getD i true = true → listed.getD c true = true) →
      (∀ i, i < ops.size → listed.getD i true = true → S i (a.tmps.getD (d0 + i) undef) w) → wpAny P md ops Q fuel listed a w := by
  have hNO : ∀ {X Y : World}, Keep NoB X Y → Keep O X Y := fun h => h.mono (fun _ hf _ => hf.elim)
  intro fuel
  induction fuel with
  | zero =>
    intro listed a w hs ⟨L, hL, hin⟩ hF hK hC hLa hA
    obtain rfl : L = [] := List.length_eq_zero_iff.1 (by omega)
    have hall : ∀ i, i < ops.size → listed.getD i true = true := fun i hi => by
      cases h : listed.getD i true
      · cases hin i hi h
      · rfl
    refine ⟨?_, hend a w hF hK fun i hi => hA i hi (hall i hi)⟩
    rw [List.eq_nil_iff_forall_not_mem]
    intro i hi
    obtain ⟨h1, o, ho, _⟩ := mem_ready.1 hi
    rw [hall i (Array.getElem?_eq_some_iff.1 ho).1] at h1; cases h1
  | succ fuel ih =>
    intro listed a w hs ⟨L, hL, hin⟩ hF hK hC hLa hA
    refine ⟨fun h0 => hend a w hF hK fun i hi => hA i hi (no_readyG hB hs h0 i hi), fun i hi => ?_⟩
    obtain ⟨h1, o, ho, hall⟩ := mem_ready.1 hi
    have hi' := (Array.getElem?_eq_some_iff.1 ho).1
    obtain ⟨hd, hlt⟩ := propsG_at hB ho
    have hdeps : ∀ e ∈ o.after, Region.binds md e = true → S e.on (a.tmps.getD (d0 + e.on) undef) w := fun e he hb => by
      have h2 := hall e he hb
      have h3 := hlt e he
      refine hA e.on (by omega) ?_
      have h4 : e.on < listed.size := by omega
      simpa [h4] using h2
    have hKO : (if i = c then Keep NoB w0 w else True) := by
      split
      · rename_i e; subst e; exact hC h1
      · trivial
    have hdoes : Does P ops o a w fun u w' => (∀ v, (o.dst.isSome = true → v = u) → S i v w') ∧ Keep O w w' ∧ (i ≠ c → Keep NoB w w') := by
      by_cases e : i = c
      · subst e
        rw [if_pos rfl] at hKO
        rcases hspec o a w ho hF hKO hdeps with ⟨hw, hy⟩ | ⟨hw, h2, h3⟩
        · refine .inl ⟨hw, ?_⟩
          unfold yieldsK at hy ⊢
          exact yieldsR_mono (fun u w' ⟨h2, h3⟩ => ⟨h2, h3, fun h => absurd rfl h⟩) _ _ hy
        · exact .inr ⟨hw, h2, h3, fun h => absurd rfl h⟩
      · have hsome : o.dst.isSome = true := by
          rcases hd with h | ⟨_, h⟩
          · rw [h]; rfl
          · exact absurd h e
        rcases hstep i o a w ho e hF hK hdeps with ⟨hw, hy⟩ | ⟨hw, h2, h3⟩
        · refine .inl ⟨hw, ?_⟩
          unfold yieldsK at hy ⊢
          exact yieldsR_mono (fun u w' ⟨h2, h3⟩ => ⟨fun v hv => by rw [hv hsome]; exact h2, hNO h3, fun _ => h3⟩) _ _ hy
        · exact .inr ⟨hw, fun v hv => by rw [hv hsome]; exact h2, hNO h3, fun _ => h3⟩
    have hnext : ∀ u w', (∀ v, (o.dst.isSome = true → v = u) → S i v w') → Keep O w w' → (i ≠ c → Keep NoB w w') → wpAny P md ops Q fuel (listed.setIfInBounds i true) (a.put o.dst u) w' := by
      intro u w' hSu hk hkn
      have hfr : FrameI a0 d0 ops.size (a.put o.dst u) ∧ (∀ k, k < ops.size → k ≠ i → (a.put o.dst u).tmps.getD (d0 + k) undef = a.tmps.getD (d0 + k) undef) ∧ (o.dst.isSome = true → (a.put o.dst u).tmps.getD (d0 + i) undef = u) := by
        rcases hd with hd | ⟨hd, _⟩
        · rw [hd]
          have hds : d0 + i < a.tmps.size := by rw [hF.2.1]; omega
          have hget : ∀ s, (a.put (some (d0 + i)) u).tmps.getD s undef = if s = d0 + i then u else a.tmps.getD s undef := fun s => by
            unfold Act.put
            by_cases e : s = d0 + i
            · subst e; simp [hds]
            · rw [if_neg e]
              simp only [Array.getD_eq_getD_getElem?, Array.getElem?_setIfInBounds]
              rw [if_neg (fun h => e h.symm)]
          refine ⟨⟨hF.1, by unfold Act.put; simpa using hF.2.1, fun s hs' => ?_⟩, fun k hk' hki => ?_, fun _ => ?_⟩
          · rw [hget, if_neg (by omega)]; exact hF.2.2 s hs'
          · rw [hget, if_neg (by omega)]
          · rw [hget, if_pos rfl]
        · rw [hd]
          exact ⟨hF, fun _ _ _ => rfl, fun h => by cases h⟩
      obtain ⟨hF', hother, hself⟩ := hfr
      refine ih (listed.setIfInBounds i true) _ w' (by simpa using hs) ⟨L.erase i, ?_, fun k hk' hl => ?_⟩ hF' (hK.trans hk (fun _ h _ => h)) (fun hl => ?_) (fun k hk' hlk hl => ?_) fun k hk' hl => ?_
      · rw [List.length_erase_of_mem (hin i hi' h1)]; omega
      · have hki : k ≠ i := by
          rintro rfl
          have : k < listed.size := by omega
          simp [this] at hl
        have hl2 : listed.getD k true = false := by rw [getD_set_ne true (Ne.symm hki)] at hl; exact hl
        exact (List.mem_erase_of_ne hki).2 (hin k hk' hl2)
      · have hci : c ≠ i := by
          rintro rfl
          have : c < listed.size := by omega
          simp [this] at hl
        rw [getD_set_ne true (Ne.symm hci)] at hl
        exact keepN (hC hl) (hkn (Ne.symm hci))
      · have hcl : ∀ n, listed.getD n true = true → (listed.setIfInBounds i true).getD n true = true := fun n hn => by
          by_cases e : i = n
          · subst e
            have h5 : i < listed.size := by omega
            simp [h5]
          · rw [getD_set_ne true e]; exact hn
        by_cases e : k = i
        · subst e
          by_cases ec : k = c
          · rw [← ec]; exact hl
          · obtain ⟨x, hx, hb, h6⟩ := lateG_at hLt ho hlk ec
            have h7 := hall x hx hb
            have h8 := hlt x hx
            have h9 : x.on < listed.size := by omega
            have h10 : listed.getD x.on true = true := by simpa [h9] using h7
            refine hcl c ?_
            rcases h6 with h6 | h6
            · rw [← h6]; exact h10
            · exact hLa x.on (by omega) h6 h10
        · rw [getD_set_ne true (Ne.symm e)] at hl
          exact hcl c (hLa k hk' hlk hl)
      · by_cases e : k = i
        · subst e
          exact hSu _ hself
        · rw [hother k hk' e]
          rw [getD_set_ne true (Ne.symm e)] at hl
          by_cases ec : i = c
          · subst ec
            by_cases hlk : late k = true
            · have := hLa k hk' hlk hl
              rw [h1] at this; cases this
            · exact hS1 k _ _ _ e (by simpa using hlk) hK (hA k hk' hl) hk
          · exact hS2 k _ _ _ hK (hA k hk' hl) (hkn ec)
    unfold wpOp
    simp only [ho]
    rcases hdoes with ⟨hw, hy⟩ | ⟨hw, h2, h3, h4⟩
    · rw [if_pos hw]
      exact .inl (Oper.wp_of_yields hy fun u w' ⟨h2, h3, h4⟩ => hnext u w' h2 h3 h4)
    · rw [if_neg (by rw [hw]; decide)]
      exact hnext undef w h2 h3 h4
theorem wp_region_props4 {id : Nat} {Q : Exit → Act → World → Prop} {a0 : Act} {w : World} (d0 c : Nat) (O : Nat → Prop) (late : Nat → Bool) (hm : P.follows .mixedOrders = true) (hB : propsG ops d0 c = true) (hLt : lateG .any ops c late = true) (S : Nat → Value → World → Prop) (hS1 : ∀ i v w1 w', i ≠ c → late i = false → Keep O w w1 → S i v w1 → Keep O w1 w' → S i v w') (hS2 : ∀ i v w1 w', Keep O w w1 → S i v w1 → Keep NoB w1 w' → S i v w') (hsz : d0 + ops.size ≤ a0.tmps.size)
    (hstep : ∀ i o (a : Act) (w' : World), ops[i]? = some o → i ≠ c → FrameI a0 d0 ops.size a → Keep O w w' → (∀ e ∈ o.after, Region.binds .any e = true → S e.on (a.tmps.getD (d0 + e.on) undef) w') → Does P ops o a w' fun u w'' => S i u w'' ∧ Keep NoB w' w'')
    (hspec : ∀ o (a : Act) (w' : World), ops[c]? = some o → FrameI a0 d0 ops.size a → Keep NoB w w' → (∀ e ∈ o.after, Region.binds .any e = true → S e.on (a.tmps.getD (d0 + e.on) undef) w') → Does P ops o a w' fun u w'' => (∀ v, (o.dst.isSome = true → v = u) → S c v w'') ∧ Keep O w' w'')
    (hend : ∀ (a : Act) (w' : World), FrameI a0 d0 ops.size a → Keep O w w' → (∀ i, i < ops.size → S i (a.tmps.getD (d0 + i) undef) w') → Q .normal a w') : (Code.region id ops true).wp P Q a0 w :=
  wp_region_any hm (wpAny_props4 d0 c O late hB hLt S w a0 hS1 hS2 hsz hstep hspec hend _ _ a0 w.drew (by simp) ⟨List.range ops.size, by simp, fun i hi _ => List.mem_range.2 hi⟩ ⟨rfl, rfl, fun _ _ => rfl⟩ (Keep.refl O w).drew (fun _ => (Keep.refl NoB w).drew) (fun i hi _ hl => by simp [hi] at hl) fun i hi hl => by
    simp [hi] at hl)
end
end Go.Proofs.YtgifflfjhockaaaGreatDoor

namespace Go.Proofs.YtgifflfjhockaaaGreatDoor
open Go.RowKit
section
variable {P : Program} {md : Region.Mode} {ops : Array Oper}

/-- What lies in other slots stays. -/
def FrameD (a0 : Act) (ds : Nat → Nat) (n : Nat) (a : Act) : Prop := a.defers = a0.defers ∧ a.tmps.size = a0.tmps.size ∧ ∀ s, (∀ i, i < n → s ≠ ds i) → a.tmps.getD s undef = a0.tmps.getD s undef
def fitsD (ops : Array Oper) (ds : Nat → Nat) (n : Nat) : Bool := (List.range ops.size).all fun i => ((ops[i]?).bind (·.dst)).isNone || decide (ds i < n)
theorem fitsD_at {ds : Nat → Nat} {n : Nat} (h : fitsD ops ds n = true) {i : Nat} {o : Oper} (ho : ops[i]? = some o) {d : Nat} (hd : o.dst = some d) : ds i < n := by
  have hi := (Array.getElem?_eq_some_iff.1 ho).1
  have h1 := List.all_eq_true.1 h i (List.mem_range.2 hi)
  simpa [ho, hd] using h1
/-- The slots' values put one by one. -/
def fillD (t : Array Value) : List (Nat × Value) → Array Value
  | [] => t
  | x :: vs => fillD (t.setIfInBounds x.1 x.2) vs
theorem fillD_size : ∀ (vs : List (Nat × Value)) (t : Array Value), (fillD t vs).size = t.size
  | [], _ => rfl
  | x :: vs, t => by rw [fillD, fillD_size vs]; simp
theorem fillD_get : ∀ (vs : List (Nat × Value)) (t u : Array Value) (s : Nat), t.size = u.size → (∀ x ∈ vs, x.2 = u.getD x.1 undef) → ((∃ x ∈ vs, x.1 = s) ∨ t.getD s undef = u.getD s undef) → (fillD t vs).getD s undef = u.getD s undef
  | [], _, _, _, _, _, h => by
    rcases h with ⟨x, hx, _⟩ | h
    · cases hx
    · exact h
  | x :: vs, t, u, s, hz, hv, h => by
    rw [fillD]
    refine fillD_get vs _ u s (by simpa using hz) (fun y hy => hv y (List.mem_cons_of_mem _ hy)) ?_
    by_cases e : x.1 = s
    · refine .inr ?_
      have h1 := hv x List.mem_cons_self
      by_cases hs : s < t.size
      · rw [h1, e]
        have hs2 : s < u.size := by omega
        simp [hs]
      · have hs2 : ¬ s < u.size := by omega
        simp [hs, hs2]
    · rcases h with ⟨y, hy, hye⟩ | h
      · rcases List.mem_cons.1 hy with rfl | hy
        · exact absurd hye e
        · exact .inl ⟨y, hy, hye⟩
      · refine .inr ?_
        simp only [Array.getD_eq_getD_getElem?, Array.getElem?_setIfInBounds] at h ⊢
        rw [if_neg e]; exact h
theorem frameD_fill {a0 a : Act} {ds : Nat → Nat} {n : Nat} (h : FrameD a0 ds n a) : a = { tmps := fillD a0.tmps ((List.range n).map fun i => (ds i, a.tmps.getD (ds i) undef)), defers := a0.defers } := by
  obtain ⟨h1, h2, h3⟩ := h
  have e : a.tmps = fillD a0.tmps ((List.range n).map fun i => (ds i, a.tmps.getD (ds i) undef)) := by
    apply Array.ext
    · rw [fillD_size, h2]
    · intro s hs1 hs2
      have := fillD_get ((List.range n).map fun i => (ds i, a.tmps.getD (ds i) undef)) a0.tmps a.tmps s h2.symm (fun x hx => by
        obtain ⟨i, _, rfl⟩ := List.mem_map.1 hx; rfl) (by
        by_cases hc : ∃ i, i < n ∧ ds i = s
        · obtain ⟨i, hi, hie⟩ := hc
          exact .inl ⟨_, List.mem_map.2 ⟨i, List.mem_range.2 hi, rfl⟩, hie⟩
        · exact .inr (h3 s (fun i hi e => hc ⟨i, hi, e.symm⟩)).symm)
      rw [Array.getD_eq_getD_getElem?, Array.getD_eq_getD_getElem?, Array.getElem?_eq_getElem hs2, Array.getElem?_eq_getElem hs1] at this
      simpa using this.symm
  cases a
  simp only at h1 e
  rw [h1, ← e]

theorem frameD_list {a0 a : Act} {l : List Nat} {n : Nat} (hn : n = l.length) (h : FrameD a0 (fun i => l.getD i 0) n a) : a = { tmps := fillD a0.tmps (l.map fun d => (d, a.tmps.getD d undef)), defers := a0.defers } := by
  subst hn
  have h1 := frameD_fill h
  have e : ((List.range l.length).map fun i => (l.getD i 0, a.tmps.getD (l.getD i 0) undef)) = l.map fun d => (d, a.tmps.getD d undef) := by
    apply List.ext_getElem?
    intro i
    by_cases hi : i < l.length
    · rw [List.getElem?_map, List.getElem?_range hi, List.getElem?_map, List.getElem?_eq_getElem hi]
      simp [List.getD, List.getElem?_eq_getElem hi]
    · rw [List.getElem?_eq_none (by simp; omega), List.getElem?_eq_none (by simp; omega)]
  rw [e] at h1
  exact h1

end
end Go.Proofs.YtgifflfjhockaaaGreatDoor
