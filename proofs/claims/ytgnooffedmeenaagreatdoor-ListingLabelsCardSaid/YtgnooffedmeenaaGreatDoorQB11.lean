/-
  Part 11 of the proofs of LBackRow, LLabelsRow: what is laid, and what the functions that the law runs answer. Conditions: each theorem names its own.
-/
import Derived.Shelf.Small.Strs
import Derived.Test.YtgnooffedmeenaaGreatDoorQB10
namespace Go.Proofs.YtgnooffedmeenaaGreatDoor.F
open Go.RowKit W

structure LgF (v : FV) : Prop where
 sz : v.S.size ≤ 140737488355328
 na : v.na ≤ 140737488355328
 nb : v.nb ≤ 140737488355328
 nl : v.nl ≤ 140737488355328
 nd : v.nd ≤ 140737488355328
theorem SmF.lg {v : FV} (h : SmF v) : LgF v := ⟨by have := h.sz; omega, by have := h.na; omega, by have := h.nb; omega, by have := h.nl; omega, by have := h.nd; omega⟩

set_option maxRecDepth 100000 in
set_option maxHeartbeats 2000000 in
theorem fewL_any (v : FV) (w : World) (h : LgF v) (R : Int) (hR : Hid ((if v.na + v.nb + v.nl ≤ 64 then (0 : Int) else 70) = R)) :
  Calls Tryz.prog 98 #[v.val] w fun e w' => e = .returned (.int .i64 R) ∧ Keep NoB w w' := by
 obtain ⟨S, A, na, ca, B, nb, cb, L, nl, cl, D, nd, cd⟩ := v
 obtain ⟨_, q1, q2, q3, _⟩ := h
 dsimp only at q1 q2 q3 hR
 have bx := Blk.new w 37 (FV.cells ⟨S, A, na, ca, B, nb, cb, L, nl, cl, D, nd, cd⟩)
 have k0 := (Keep.refl NoB w).alloc (.cells (FV.cells ⟨S, A, na, ca, B, nb, cb, L, nl, cl, D, nd, cd⟩) 37)
 dsimp only [FV.val, FV.cells] at bx k0 ⊢
 by_cases h1 : na + nb + nl ≤ 64
 ·obtain rfl : 0 = R := by rw [← hR.out, if_pos h1]
  clear hR
  go_enter Tryz.func98, Tryz.ntmps98
  go_wp2
  go_ret
  exact ⟨rfl, k0⟩
 ·obtain rfl : 70 = R := by rw [← hR.out, if_neg h1]
  have h2 : (64 : Int) < (na : Int) + (nb : Int) + (nl : Int) := by omega
  clear hR h1
  go_enter Tryz.func98, Tryz.ntmps98
  go_wp2
  go_ret
  exact ⟨rfl, k0⟩

set_option maxRecDepth 100000 in
set_option maxHeartbeats 4000000 in
theorem checksL_any (v : FV) (f : Fu) (w : World) (h : FnAt w v f) (hs : LgF v) (g : Nat) (u0 u1 u2 u3 u4 : Value) (hb : Blk w g 57 #[u0, u1, u2, u3, u4])
  (a0 : AskV 155 88 37 (fnV 98) (v.cells) u0 w)
  (a1 : AskV 156 159 9 (fnV 100) (#[.string v.S]) u1 w)
  (a2 : AskV 159 161 34 (fnV 102) (#[.slice v.A v.na v.ca, .slice v.B v.nb v.cb]) u2 w)
  (a3 : AskV 159 161 34 (fnV 102) (#[.slice v.L v.nl v.cl, .slice none 0 0]) u3 w)
  (a4 : AskV 163 164 35 (fnV 105) (#[.slice v.D v.nd v.cd]) u4 w) :
  Calls Tryz.prog 96 #[.slice (some ⟨g, 0, none⟩) 5 5] w fun e w' => e = .returned (.bool (okF f)) ∧ Keep NoB w w' := by
 obtain ⟨c0, p0, rfl, a0, b0⟩ := a0
 obtain ⟨c1, p1, rfl, a1, b1⟩ := a1
 obtain ⟨c2, p2, rfl, a2, b2⟩ := a2
 obtain ⟨c3, p3, rfl, a3, b3⟩ := a3
 obtain ⟨c4, p4, rfl, a4, b4⟩ := a4
 refine (every_any (some ⟨g, 0, none⟩) [(155, #[.pointer (some ⟨c0, 0, none⟩), .pointer (some ⟨p0, 0, none⟩)]), (156, #[.pointer (some ⟨c1, 0, none⟩), .pointer (some ⟨p1, 0, none⟩)]), (159, #[.pointer (some ⟨c2, 0, none⟩), .pointer (some ⟨p2, 0, none⟩)]), (159, #[.pointer (some ⟨c3, 0, none⟩), .pointer (some ⟨p3, 0, none⟩)]), (163, #[.pointer (some ⟨c4, 0, none⟩), .pointer (some ⟨p4, 0, none⟩)])] 5 5 w rfl (by decide) (bsF v f) (fun _ W => Keep NoB w W) (fun W => Keep NoB w W) ?hcf ?hr ?hq (Keep.refl _ _)).mono ?_
 case hcf =>
  intro q hq
  simp only [List.mem_cons, List.not_mem_nil, or_false] at hq
  rcases hq with rfl | rfl | rfl | rfl | rfl
  ·exact enters_of Tryz.func155 (by kernel_rfl) rfl
  ·exact enters_of Tryz.func156 (by kernel_rfl) rfl
  ·exact enters_of Tryz.func159 (by kernel_rfl) rfl
  ·exact enters_of Tryz.func159 (by kernel_rfl) rfl
  ·exact enters_of Tryz.func163 (by kernel_rfl) rfl
 case hr =>
  intro i W hK _
  refine ⟨g, 0, rfl, fun j u hu => ?_⟩
  rw [Nat.zero_add, (hb.keep hK id).cell j]
  simpa using hu
 case hq =>
  intro i hi W hK
  have hf := h.keepN hK
  have hi : i = 0 ∨ i = 1 ∨ i = 2 ∨ i = 3 ∨ i = 4 := by simp at hi; omega
  rcases hi with rfl | rfl | rfl | rfl | rfl
  ·refine (askedFun_any 98 (enters_of Tryz.func98 (by kernel_rfl) rfl) v c0 p0 W (a0.keep hK id) (b0.keep hK id) _ (bsF v f 0) (few_eq v f) (fewL_any v W hs _ rfl)).mono ?_
   rintro e W' ⟨rfl, hk⟩
   exact ⟨rfl, fun _ => keepN hK hk, fun _ => keepN hK hk⟩
  ·refine (askedStr_any 100 (enters_of Tryz.func100 (by kernel_rfl) rfl) v.S c1 p1 W (a1.keep hK id) (b1.keep hK id) (chkN f.nm) (bsF v f 1) (chkN_eq _) ?_).mono ?_
   ·refine (named_any v.S f.nm W hf.nm (by have := hs.sz; omega) _ rfl).mono ?_
    rintro e W' ⟨rfl, rfl⟩
    exact ⟨rfl, Keep.refl _ _⟩
   rintro e W' ⟨rfl, hk⟩
   exact ⟨rfl, fun _ => keepN hK hk, fun _ => keepN hK hk⟩
  ·refine (askedSig_any 102 (enters_of Tryz.func102 (by kernel_rfl) rfl) _ _ c2 p2 W (a2.keep hK id) (b2.keep hK id) (S.chkG f.ar f.rs) (bsF v f 2) (chkG_eq _ _) (S.chkG_any v.A f.ar v.na v.ca v.B f.rs v.nb v.cb W hf.ra hf.rb hf.la hf.lb (by have := hs.na; omega) (by have := hs.nb; omega) _ rfl)).mono ?_
   rintro e W' ⟨rfl, hk⟩
   exact ⟨rfl, fun _ => keepN hK hk, fun _ => keepN hK hk⟩
  ·refine (askedSig_any 102 (enters_of Tryz.func102 (by kernel_rfl) rfl) _ _ c3 p3 W (a3.keep hK id) (b3.keep hK id) (S.chkG f.lc []) (bsF v f 3) (chkG_eq _ _) (S.chkG_any v.L f.lc v.nl v.cl none [] 0 0 W hf.rl (Rd.none_ _ _) hf.ll rfl (by have := hs.nl; omega) (by omega) _ rfl)).mono ?_
   rintro e W' ⟨rfl, hk⟩
   exact ⟨rfl, fun _ => keepN hK hk, fun _ => keepN hK hk⟩
  ·refine (askedBod_any 105 (enters_of Tryz.func105 (by kernel_rfl) rfl) v.D v.nd v.cd c4 p4 W (a4.keep hK id) (b4.keep hK id) (C.chkB f.bd) (bsF v f 4) (chkB_eq _) (C.cchk_any v.D f.bd v.nd v.cd W hf.rd hf.ld (by have := hs.nd; omega) _ rfl)).mono ?_
   rintro e W' ⟨rfl, hk⟩
   exact ⟨rfl, fun _ => keepN hK hk, fun _ => keepN hK hk⟩
 rintro e w' (⟨rfl, hb, hk⟩ | ⟨rfl, hb, hk⟩)
 ·exact ⟨by rw [bsF_all h hb], hk⟩
 ·exact ⟨by rw [bsF_not h hb], hk⟩

set_option maxRecDepth 100000 in
set_option maxHeartbeats 8000000 in
theorem checkL_any (v : FV) (f : Fu) (w : World) (h : FnAt w v f) (hs : LgF v) (R : Int) (hR : Hid (chkF f = R)) :
  Calls Tryz.prog 47 #[v.val] w fun e w' => e = .returned (.int .i64 R) ∧ Keep NoB w w' := by
 have bx := Blk.new w 37 v.cells
 have k0 := (Keep.refl NoB w).alloc (.cells v.cells 37)
 have HF := Lib.hid (h.keepN k0)
 obtain ⟨S, A, na, ca, B, nb, cb, L, nl, cl, D, nd, cd⟩ := v
 have HE := Lib.hid (fun W hf g u0 u1 u2 u3 u4 hb a0 a1 a2 a3 a4 => checksL_any _ f W hf hs g u0 u1 u2 u3 u4 hb a0 a1 a2 a3 a4)
 obtain ⟨q0, q1, q2, q3, q4⟩ := blk5 bx
 dsimp only [FV.val, FV.cells] at bx k0 HF q0 q1 q2 q3 q4 ⊢
 have HX := Lib.hid bx
 clear h hs bx
 generalize hw1 : w.alloc (.cells #[.string S, .slice A na ca, .slice B nb cb, .slice L nl cl, .slice D nd cd] 37) = w1 at k0 HF q0 q1 q2 q3 q4 HX
 go_enter Tryz.func47, Tryz.ntmps47
 go_wp2_with fail
 clear hw1
 refine wp_region_props2 3 99 (NoB) (by kernel_rfl) (by kernel_rfl) (SC ⟨S, A, na, ca, B, nb, cb, L, nl, cl, D, nd, cd⟩ f w.heap.size) (fun i u x y _ h hk => SC_stable _ _ _ i u x y h hk) (of_decide_eq_true rfl) ?step ?spec ?fin
 case step =>
  intro i o a w' ho hic hF hK hA
  have hi : i < 18 := by simpa using (Array.getElem?_eq_some_iff.1 ho).1
  by_cases h0 : i = 0
  ·subst h0
   simp only [List.getElem?_toArray, List.getElem?_cons_zero, Option.some.injEq] at ho
   subst ho
   have e1 : a.tmps.getD 1 undef = .pointer (some ⟨w.heap.size, 0, none⟩) := hF.2.2 1 (.inl (by decide))
   have c0 := Keep.cell hK q0 id
   have c1 := Keep.cell hK q1 id
   have c2 := Keep.cell hK q2 id
   have c3 := Keep.cell hK q3 id
   have c4 := Keep.cell hK q4 id
   refine Does.plain rfl ?_
   unfold yieldsK
   go_simp
   exact ⟨rfl, Keep.refl _ _⟩
  by_cases h1 : i = 1
  ·subst h1
   simp only [List.getElem?_toArray, List.getElem?_cons_zero, List.getElem?_cons_succ, Option.some.injEq] at ho
   subst ho
   have e3 : a.tmps.getD 3 undef = .agg #[.string S, .slice A na ca, .slice B nb cb, .slice L nl cl, .slice D nd cd] := hA ⟨0, .data⟩ (by simp) rfl
   refine Does.plain rfl ?_
   unfold yieldsK
   go_simp
   refine (passesFun_any 98 ⟨S, A, na, ca, B, nb, cb, L, nl, cl, D, nd, cd⟩ w').mono ?_
   rintro e w2 ⟨u, rfl, h1, h2⟩
   exact ⟨_, rfl, h1, h2⟩
  by_cases h2 : i = 2
  ·subst h2
   simp only [List.getElem?_toArray, List.getElem?_cons_zero, List.getElem?_cons_succ, Option.some.injEq] at ho
   subst ho
   have e1 : a.tmps.getD 1 undef = .pointer (some ⟨w.heap.size, 0, none⟩) := hF.2.2 1 (.inl (by decide))
   refine Does.plain rfl ?_
   unfold yieldsK
   go_simp
   exact ⟨rfl, Keep.refl _ _⟩
  by_cases h3 : i = 3
  ·subst h3
   simp only [List.getElem?_toArray, List.getElem?_cons_zero, List.getElem?_cons_succ, Option.some.injEq] at ho
   subst ho
   have e5 : a.tmps.getD 5 undef = .pointer (some ⟨w.heap.size, 0, none⟩) := hA ⟨2, .data⟩ (by simp) rfl
   have c0 := Keep.cell hK q0 id
   refine Does.plain rfl ?_
   unfold yieldsK
   go_simp
   exact ⟨rfl, Keep.refl _ _⟩
  by_cases h4 : i = 4
  ·subst h4
   simp only [List.getElem?_toArray, List.getElem?_cons_zero, List.getElem?_cons_succ, Option.some.injEq] at ho
   subst ho
   have e6 : a.tmps.getD 6 undef = .string S := hA ⟨3, .data⟩ (by simp) rfl
   refine Does.plain rfl ?_
   unfold yieldsK
   go_simp
   refine (passesStr_any 100 S w').mono ?_
   rintro e w2 ⟨u, rfl, h1, h2⟩
   exact ⟨_, rfl, h1, h2⟩
  by_cases h5 : i = 5
  ·subst h5
   simp only [List.getElem?_toArray, List.getElem?_cons_zero, List.getElem?_cons_succ, Option.some.injEq] at ho
   subst ho
   have e1 : a.tmps.getD 1 undef = .pointer (some ⟨w.heap.size, 0, none⟩) := hF.2.2 1 (.inl (by decide))
   refine Does.plain rfl ?_
   unfold yieldsK
   go_simp
   exact ⟨rfl, Keep.refl _ _⟩
  by_cases h6 : i = 6
  ·subst h6
   simp only [List.getElem?_toArray, List.getElem?_cons_zero, List.getElem?_cons_succ, Option.some.injEq] at ho
   subst ho
   have e8 : a.tmps.getD 8 undef = .pointer (some ⟨w.heap.size, 1, none⟩) := hA ⟨5, .data⟩ (by simp) rfl
   have c1 := Keep.cell hK q1 id
   have c2 := Keep.cell hK q2 id
   refine Does.plain rfl ?_
   unfold yieldsK
   go_simp
   exact ⟨rfl, Keep.refl _ _⟩
  by_cases h7 : i = 7
  ·subst h7
   simp only [List.getElem?_toArray, List.getElem?_cons_zero, List.getElem?_cons_succ, Option.some.injEq] at ho
   subst ho
   have e9 : a.tmps.getD 9 undef = .agg #[.slice A na ca, .slice B nb cb] := hA ⟨6, .data⟩ (by simp) rfl
   refine Does.plain rfl ?_
   unfold yieldsK
   go_simp
   refine (passesSig_any 102 (.slice A na ca) (.slice B nb cb) w').mono ?_
   rintro e w2 ⟨u, rfl, h1, h2⟩
   exact ⟨_, rfl, h1, h2⟩
  by_cases h8 : i = 8
  ·subst h8
   simp only [List.getElem?_toArray, List.getElem?_cons_zero, List.getElem?_cons_succ, Option.some.injEq] at ho
   subst ho
   have e1 : a.tmps.getD 1 undef = .pointer (some ⟨w.heap.size, 0, none⟩) := hF.2.2 1 (.inl (by decide))
   refine Does.plain rfl ?_
   unfold yieldsK
   go_simp
   exact ⟨rfl, Keep.refl _ _⟩
  by_cases h9 : i = 9
  ·subst h9
   simp only [List.getElem?_toArray, List.getElem?_cons_zero, List.getElem?_cons_succ, Option.some.injEq] at ho
   subst ho
   have e11 : a.tmps.getD 11 undef = .pointer (some ⟨w.heap.size, 3, none⟩) := hA ⟨8, .data⟩ (by simp) rfl
   have c3 := Keep.cell hK q3 id
   refine Does.plain rfl ?_
   unfold yieldsK
   go_simp
   exact ⟨rfl, Keep.refl _ _⟩
  by_cases h10 : i = 10
  ·subst h10
   simp only [List.getElem?_toArray, List.getElem?_cons_zero, List.getElem?_cons_succ, Option.some.injEq] at ho
   subst ho
   have e12 : a.tmps.getD 12 undef = .slice L nl cl := hA ⟨9, .data⟩ (by simp) rfl
   refine Does.plain rfl ?_
   unfold yieldsK
   go_simp
   refine (taking_any L nl cl w').mono ?_
   rintro e w2 ⟨rfl, h2⟩
   exact ⟨_, rfl, rfl, h2⟩
  by_cases h11 : i = 11
  ·subst h11
   simp only [List.getElem?_toArray, List.getElem?_cons_zero, List.getElem?_cons_succ, Option.some.injEq] at ho
   subst ho
   have e13 : a.tmps.getD 13 undef = .agg #[.slice L nl cl, .slice none 0 0] := hA ⟨10, .data⟩ (by simp) rfl
   refine Does.plain rfl ?_
   unfold yieldsK
   go_simp
   refine (passesSig_any 102 (.slice L nl cl) (.slice none 0 0) w').mono ?_
   rintro e w2 ⟨u, rfl, h1, h2⟩
   exact ⟨_, rfl, h1, h2⟩
  by_cases h12 : i = 12
  ·subst h12
   simp only [List.getElem?_toArray, List.getElem?_cons_zero, List.getElem?_cons_succ, Option.some.injEq] at ho
   subst ho
   have e1 : a.tmps.getD 1 undef = .pointer (some ⟨w.heap.size, 0, none⟩) := hF.2.2 1 (.inl (by decide))
   refine Does.plain rfl ?_
   unfold yieldsK
   go_simp
   exact ⟨rfl, Keep.refl _ _⟩
  by_cases h13 : i = 13
  ·subst h13
   simp only [List.getElem?_toArray, List.getElem?_cons_zero, List.getElem?_cons_succ, Option.some.injEq] at ho
   subst ho
   have e15 : a.tmps.getD 15 undef = .pointer (some ⟨w.heap.size, 4, none⟩) := hA ⟨12, .data⟩ (by simp) rfl
   have c4 := Keep.cell hK q4 id
   refine Does.plain rfl ?_
   unfold yieldsK
   go_simp
   exact ⟨rfl, Keep.refl _ _⟩
  by_cases h14 : i = 14
  ·subst h14
   simp only [List.getElem?_toArray, List.getElem?_cons_zero, List.getElem?_cons_succ, Option.some.injEq] at ho
   subst ho
   have e16 : a.tmps.getD 16 undef = .slice D nd cd := hA ⟨13, .data⟩ (by simp) rfl
   refine Does.plain rfl ?_
   unfold yieldsK
   go_simp
   refine (passesBod_any 105 D nd cd w').mono ?_
   rintro e w2 ⟨u, rfl, h1, h2⟩
   exact ⟨_, rfl, h1, h2⟩
  by_cases h15 : i = 15
  ·subst h15
   simp only [List.getElem?_toArray, List.getElem?_cons_zero, List.getElem?_cons_succ, Option.some.injEq] at ho
   subst ho
   obtain ⟨c0, p0, e4, a0, b0⟩ := hA ⟨1, .data⟩ (by simp) rfl
   have e4 : a.tmps.getD 4 undef = askV 155 #[.pointer (some ⟨c0, 0, none⟩), .pointer (some ⟨p0, 0, none⟩)] := e4
   obtain ⟨c1, p1, e7, a1, b1⟩ := hA ⟨4, .data⟩ (by simp) rfl
   have e7 : a.tmps.getD 7 undef = askV 156 #[.pointer (some ⟨c1, 0, none⟩), .pointer (some ⟨p1, 0, none⟩)] := e7
   obtain ⟨c2, p2, e10, a2, b2⟩ := hA ⟨7, .data⟩ (by simp) rfl
   have e10 : a.tmps.getD 10 undef = askV 159 #[.pointer (some ⟨c2, 0, none⟩), .pointer (some ⟨p2, 0, none⟩)] := e10
   obtain ⟨c3, p3, e14, a3, b3⟩ := hA ⟨11, .data⟩ (by simp) rfl
   have e14 : a.tmps.getD 14 undef = askV 159 #[.pointer (some ⟨c3, 0, none⟩), .pointer (some ⟨p3, 0, none⟩)] := e14
   obtain ⟨c4, p4, e17, a4, b4⟩ := hA ⟨14, .data⟩ (by simp) rfl
   have e17 : a.tmps.getD 17 undef = askV 163 #[.pointer (some ⟨c4, 0, none⟩), .pointer (some ⟨p4, 0, none⟩)] := e17
   refine Does.plain rfl ?_
   unfold yieldsK
   unfold askV at *
   simp only [Array.getD_eq_getD_getElem?] at e4 e7 e10 e14 e17
   go_simp
   refine ⟨⟨w'.heap.size, _, _, _, _, _, rfl, Blk.new _ _ _, ⟨c0, p0, rfl, a0.alloc _, b0.alloc _⟩, ⟨c1, p1, rfl, a1.alloc _, b1.alloc _⟩, ⟨c2, p2, rfl, a2.alloc _, b2.alloc _⟩, ⟨c3, p3, rfl, a3.alloc _, b3.alloc _⟩, ⟨c4, p4, rfl, a4.alloc _, b4.alloc _⟩⟩, (Keep.refl _ _).alloc _⟩
  by_cases h16 : i = 16
  ·subst h16
   simp only [List.getElem?_toArray, List.getElem?_cons_zero, List.getElem?_cons_succ, Option.some.injEq] at ho
   subst ho
   obtain ⟨g, u0, u1, u2, u3, u4, e18, hb, a0, a1, a2, a3, a4⟩ := hA ⟨15, .data⟩ (by simp) rfl
   have e18 : a.tmps.getD 18 undef = .slice (some ⟨g, 0, none⟩) 5 5 := e18
   refine Does.plain rfl ?_
   unfold yieldsK
   go_simp
   refine (HE.out w' (HF.out.keepN hK) g u0 u1 u2 u3 u4 hb a0 a1 a2 a3 a4).mono ?_
   rintro e w2 ⟨rfl, h2⟩
   exact ⟨_, rfl, rfl, h2⟩
  by_cases h17 : i = 17
  ·subst h17
   simp only [List.getElem?_toArray, List.getElem?_cons_zero, List.getElem?_cons_succ, Option.some.injEq] at ho
   subst ho
   have e19 : a.tmps.getD 19 undef = .bool (okF f) := hA ⟨16, .data⟩ (by simp) rfl
   refine Does.plain rfl ?_
   unfold yieldsK
   go_simp
   exact ⟨rfl, Keep.refl _ _⟩
  omega
 case spec =>
  intro o a w' ho
  simp at ho
 case fin =>
  intro a w' hF gK hA
  have e20 : a.tmps.getD (3 + 17) undef = .bool (!okF f) := hA 17 (by decide)
  have ha := frame_fill (n := 18) hF (of_decide_eq_true rfl)
  rw [ha]
  rw [show List.range 18 = [0, 1, 2, 3, 4, 5, 6, 7, 8, 9, 10, 11, 12, 13, 14, 15, 16, 17] from rfl]
  simp only [List.map_cons, List.map_nil, e20]
  generalize a.tmps.getD (3 + 0) undef = u0
  generalize a.tmps.getD (3 + 1) undef = u1
  generalize a.tmps.getD (3 + 2) undef = u2
  generalize a.tmps.getD (3 + 3) undef = u3
  generalize a.tmps.getD (3 + 4) undef = u4
  generalize a.tmps.getD (3 + 5) undef = u5
  generalize a.tmps.getD (3 + 6) undef = u6
  generalize a.tmps.getD (3 + 7) undef = u7
  generalize a.tmps.getD (3 + 8) undef = u8
  generalize a.tmps.getD (3 + 9) undef = u9
  generalize a.tmps.getD (3 + 10) undef = u10
  generalize a.tmps.getD (3 + 11) undef = u11
  generalize a.tmps.getD (3 + 12) undef = u12
  generalize a.tmps.getD (3 + 13) undef = u13
  generalize a.tmps.getD (3 + 14) undef = u14
  generalize a.tmps.getD (3 + 15) undef = u15
  generalize a.tmps.getD (3 + 16) undef = u16
  simp only [fillT, List.setIfInBounds_toArray, List.set_cons_zero, List.set_cons_succ]
  have HR := Lib.hid (keepN k0 gK)
  clear gK k0 hA hF ha e20 HE HF HX q0 q1 q2 q3 q4
  cases ho : okF f
  ·obtain rfl : 70 = R := by rw [← hR.out]; exact (chkF_no ho).symm
   clear hR ho
   go_wp2
   go_ret
   exact ⟨rfl, HR.out⟩
  ·obtain rfl : 0 = R := by rw [← hR.out]; exact (chkF_ok ho).symm
   clear hR ho
   go_wp2
   go_ret
   exact ⟨rfl, HR.out⟩

end Go.Proofs.YtgnooffedmeenaaGreatDoor.F

namespace Go.Proofs.YtgnooffedmeenaaGreatDoor.I
open Go.RowKit W

def ndS (fs : List FE) : Nat := (fs.map fun e => e.1.nd).sum
theorem ndS_take {fs : List FE} {k : Nat} (h : k < fs.length) : ndS (fs.take (k + 1)) = ndS (fs.take k) + fs[k].1.nd := by
 unfold ndS; rw [List.take_succ_eq_append_getElem h, List.map_append, List.sum_append]; rfl
theorem blk2 {w : World} {g : Nat} {v : IV} (h : Blk w g 25 v.cells) : w.cell? ⟨g, 0, none⟩ = some (.slice v.X v.nx v.cx) ∧ w.cell? ⟨g, 1, none⟩ = some (.slice v.Y v.ny v.cy) := ⟨h.cell 0, h.cell 1⟩
structure LgI (v : IV) (es : List SE) (fs : List FE) : Prop where
 nx : v.nx ≤ 140737488355328
 ny : v.ny ≤ 140737488355328
 sh : ∀ e ∈ es, e.1.n ≤ 140737488355328
 fn : ∀ e ∈ fs, F.LgF e.1

set_option maxRecDepth 100000 in
set_option maxHeartbeats 4000000 in
theorem great_any (v : IV) (es : List SE) (fs : List FE) (w : World) (h : ImAt w v es fs) (hl : LgI v es fs) :
  Calls Tryz.prog 9 #[v.val] w fun e w' => ((e = .returned (.int .i64 0) ∧ SmI es fs ∧ ndS fs ≤ 5000) ∨ e = .returned (.int .i64 1)) ∧ Keep NoB w w' := by
 have bx := Blk.new w 25 v.cells
 have k0 := (Keep.refl NoB w).alloc (.cells v.cells 25)
 have HI := Lib.hid (h.keepN k0)
 obtain ⟨q0, q1⟩ := blk2 bx
 have hlx := h.lx
 have hly := h.ly
 have hx := hl.nx
 have hy := hl.ny
 have HS := Lib.hid hl.sh
 have HF := Lib.hid hl.fn
 have HB := Lib.hid bx
 obtain ⟨X, nx, cx, Y, ny, cy⟩ := v
 dsimp only [IV.val, IV.cells] at *
 clear h hl bx
 by_cases hg : nx ≤ 70
 ·by_cases hg2 : ny ≤ 70
  ·go_enter Tryz.func9, Tryz.ntmps9
   go_wp2
   go_loop [3] (fun i => ∃ k : Nat, k ≤ nx ∧ i = .int .i64 k ∧ Hid (∀ e ∈ es.take k, e.1.n ≤ 100)) (fun i => nx - (intOf i).toNat)
   case atStart => exact ⟨0, Nat.zero_le _, rfl, fun e h => by simp at h⟩
   case round =>
    obtain ⟨k, hk, rfl, hT⟩ := hrel
    by_cases hlt : k < nx
    ·have hke : k < es.length := by omega
     obtain ⟨g, off, rfl, c0⟩ := shape_at HI.out.rx hke
     have hL := HS.out _ (List.getElem_mem hke)
     have HT : Hid (es[k].1.n ≤ 100 → ∀ e ∈ es.take (k + 1), e.1.n ≤ 100) := fun h e he => by
      rw [List.take_succ_eq_append_getElem hke] at he
      rcases List.mem_append.1 he with he | he
      ·exact hT.out e he
      ·rw [List.mem_singleton.1 he]; exact h
     clear hT
     generalize es[k] = e at c0 hL HT
     obtain ⟨⟨A1, n1, d1⟩, l⟩ := e
     dsimp only [SV.val] at c0 hL HT
     by_cases h1 : n1 ≤ 100
     ·have HV := Lib.hid (HT.out h1)
      clear HT
      go_wp2
      go_round
      case rel => exact ⟨k + 1, by omega, by go_num, HV⟩
      case measure => simp [intOf]; omega
     ·clear HT
      go_wp2
      go_ret
      exact ⟨.inr rfl, k0⟩
    ·obtain rfl : k = nx := by omega
     have HV : Hid (∀ e ∈ es, e.1.n ≤ 100) := by show ∀ e ∈ es, e.1.n ≤ 100; rw [← List.take_of_length_le (l := es) (i := k) (by omega)]; exact hT.out
     clear hT hlt
     have hF := fun e he => HF.out e he
     go_wp2
     go_loopw [4, 5] (fun s i wr => ∃ j : Nat, j ≤ ny ∧ i = .int .i64 j ∧ s = .int .i64 (ndS (fs.take j) : Nat) ∧ ndS (fs.take j) ≤ 5000 ∧ Hid (∀ e ∈ fs.take j, F.SmF e.1) ∧ Keep NoB (w.alloc (.cells #[.slice X k cx, .slice Y ny cy] 25)) wr) (fun _ i _ => ny - (intOf i).toNat)
     case atStart => exact ⟨0, Nat.zero_le _, rfl, rfl, Nat.zero_le _, fun e h => by simp at h, Keep.refl _ _⟩
     case round =>
      obtain ⟨j, hj, rfl, rfl, hs5, hT, hK⟩ := hrel
      replace q1 := hK.cell q1 id
      by_cases hlt : j < ny
      ·have hje : j < fs.length := by omega
       obtain ⟨g, off, rfl, c0, c1, c2, c3, c4⟩ := fun_at (HI.out.keepN hK).ry hje
       have hL := hF _ (List.getElem_mem hje)
       have hnd := ndS_take hje
       have HT : Hid (F.SmF fs[j].1 → ∀ e ∈ fs.take (j + 1), F.SmF e.1) := fun h e he => by
        rw [List.take_succ_eq_append_getElem hje] at he
        rcases List.mem_append.1 he with he | he
        ·exact hT.out e he
        ·rw [List.mem_singleton.1 he]; exact h
       clear hT
       generalize fs[j] = e at c0 c1 c2 c3 c4 hL HT hnd
       obtain ⟨fv, f⟩ := e
       dsimp only at c0 c1 c2 c3 c4 hL HT hnd
       have hL4 := hL.nd
       clear hF HF HS hL
       generalize ndS (fs.take j) = N at *
       by_cases h1 : F.SmF fv
       ·have HG := Lib.hid (fun w => F.great_no fv w h1)
        have HV := Lib.hid (HT.out h1)
        clear HT h1
        obtain ⟨S1, A1, na1, ca1, B1, nb1, cb1, L1, nl1, cl1, D1, nd1, cd1⟩ := fv
        dsimp only [F.FV.val, F.FV.cells] at *
        by_cases h5 : N + nd1 ≤ 5000
        ·go_wp2_with fail
         refine (HG.out _).mono ?_
         rintro e w1 ⟨rfl, k1⟩
         have hK1 := keepN hK k1
         go_wp2
         go_roundw
         case rel => exact ⟨j + 1, by omega, by go_num, by rw [hnd]; go_num, by omega, HV, hK1⟩
         case measure => simp [intOf]; omega
        ·have h6 : (5000 : Int) < (N : Int) + (nd1 : Int) := by omega
         go_wp2_with fail
         refine (HG.out _).mono ?_
         rintro e w1 ⟨rfl, k1⟩
         have hK1 := keepN hK k1
         go_wp2
         go_ret
         exact ⟨.inr rfl, keepN k0 hK1⟩
       ·have HG := Lib.hid (fun w => F.great_yes fv w h1)
        clear HT h1
        obtain ⟨S1, A1, na1, ca1, B1, nb1, cb1, L1, nl1, cl1, D1, nd1, cd1⟩ := fv
        dsimp only [F.FV.val, F.FV.cells] at *
        go_wp2_with fail
        refine (HG.out _).mono ?_
        rintro e w1 ⟨rfl, k1⟩
        have hK1 := keepN hK k1
        go_wp2
        go_ret
        exact ⟨.inr rfl, keepN k0 hK1⟩
      ·obtain rfl : j = ny := by omega
       have hall : fs.take j = fs := List.take_of_length_le (by omega)
       rw [hall] at hs5 hT
       have HR : Hid (SmI es fs ∧ ndS fs ≤ 5000) := ⟨⟨by omega, by omega, HV.out, hT.out⟩, hs5⟩
       clear hF HF HS HV hT hs5
       go_wp2
       go_ret
       exact ⟨.inl ⟨rfl, HR.out.1, HR.out.2⟩, keepN k0 hK⟩
  ·have hd : decide ((70 : Int) < (ny : Int)) = true := by rw [decide_eq_true_iff]; omega
   go_enter Tryz.func9, Tryz.ntmps9
   go_wp2
   go_ret
   exact ⟨.inr rfl, k0⟩
 ·have hd : decide ((70 : Int) < (nx : Int)) = true := by rw [decide_eq_true_iff]; omega
  go_enter Tryz.func9, Tryz.ntmps9
  go_wp2
  go_ret
  exact ⟨.inr rfl, k0⟩

end Go.Proofs.YtgnooffedmeenaaGreatDoor.I

namespace Go.Proofs.YtgnooffedmeenaaGreatDoor.M.L
open Go.RowKit W

structure SH where
 v : I.IV
 m : Option Nat
 og : Nat
 ob : Array Value
 bg : Nat
 bb : Array Value
def SH.cells (s : SH) : Array Value := #[.slice s.v.X s.v.nx s.v.cx, .slice s.v.Y s.v.ny s.v.cy, .map s.m, .func (.func s.og) #[] s.ob, .func (.func s.bg) #[] s.bb]
def SH.val (s : SH) : Value := .agg s.cells
def lnC (l : Ln4) : Array Value := #[.int .i64 (l.1 : Int), .int .i64 (l.2.1 : Int), .int .i64 (l.2.2.1 : Int), .int .i64 (l.2.2.2 : Int)]
def lbN (p : I.Im) (k i : Nat) : Option Nat := (p.fn[k]?).bind fun f => (tgs f.bd).findIdx? fun j => decide (j = i)
def labF (p : I.Im) (x y : Int) : Option Nat := if 0 ≤ x ∧ 0 ≤ y then lbN p x.toNat y.toNat else none
theorem lb_lbN (p : I.Im) (k i : Nat) : LBp p k i = (lbN p k i).map fun n => lbl ((n : Nat) : Int) := by
 unfold LBp lbN labA
 cases p.fn[k]? <;> rfl
theorem labF_nat (p : I.Im) (k i : Nat) : labF p (k : Int) (i : Int) = lbN p k i := by unfold labF; rw [if_pos (by omega)]; simp
theorem labB_lbN (p : I.Im) (k i : Nat) : labB p k i = (lbN p k i).isSome := by unfold labB; rw [lb_lbN]; cases lbN p k i <;> rfl
theorem lbN_lt {p : I.Im} {k i n : Nat} (h : lbN p k i = some n) : ∃ f, p.fn[k]? = some f ∧ n < (tgs f.bd).length ∧ (tgs f.bd)[n]? = some i := by
 unfold lbN at h
 cases hf : p.fn[k]? with
 | none => rw [hf] at h; cases h
 | some f =>
  rw [hf] at h
  have h : (tgs f.bd).findIdx? (fun j => decide (j = i)) = some n := h
  rw [List.findIdx?_eq_some_iff_getElem] at h
  obtain ⟨hn, h1, _⟩ := h
  exact ⟨f, rfl, hn, by rw [List.getElem?_eq_getElem hn, of_decide_eq_true h1]⟩

/-! ### Keys of labels -/

theorem spot_row : (82 : TypeId) < Tryz.prog.types.size := of_decide_eq_true (by kernel_rfl)
theorem spot_wide : (match Tryz.prog.underlying 82 with | some (.array _ _) | some (.struct _) => true | _ => false) = true := by kernel_rfl
theorem spot_laid : laidOutB Tryz.prog = true := by kernel_rfl
set_option maxRecDepth 100000 in
theorem spot_deep : Tryz.prog.keyTypeAt 3 82 = true := by kernel_rfl
set_option maxRecDepth 100000 in
theorem spot_law : WideMaps.KeyLaw Tryz.prog 82 := deep_law_laid spot_laid (m := 3) (by omega) spot_row spot_deep spot_wide
theorem spot_keyed : Maps.Keyed Tryz.prog 82 := Maps.Keyed.of_law spot_law
theorem spot_size : ∃ m, Tryz.prog.types.size = m + 1 := by
 have h1 := spot_row
 cases h : Tryz.prog.types.size with
 | zero => rw [h] at h1; exact absurd h1 (Nat.not_lt_zero _)
 | succ m => exact ⟨m, rfl⟩
theorem spot_type : Tryz.prog.keyType 82 = true := by kernel_rfl
theorem spot_formed (x y : Int) : (pairV x y).formed Tryz.prog 82 = true := by
 unfold pairV
 have h : Tryz.prog.cellsOf 82 = 2 := by kernel_rfl
 have h2 : ∃ fs, Tryz.prog.underlying 82 = some (.struct fs) := ⟨_, Tryz.underlying82⟩
 obtain ⟨fs, h2⟩ := h2
 simp [Value.formed, h2, h]
theorem spot_lits (x y : Int) (hx : (Lit.int .i64 x).wf = true) (hy : (Lit.int .i64 y).wf = true) : ∃ ls, Tryz.prog.keyLits (Tryz.prog.types.size + 1) 82 [.int .i64 x, .int .i64 y] = some ls := by
 obtain ⟨m, hm⟩ := spot_size
 rw [hm]
 refine ⟨[.int .i64 x, .int .i64 y], ?_⟩
 have hc : Tryz.prog.cellsOf 82 = 2 := by kernel_rfl
 have hi : Tryz.prog.cellsOf 3 = 1 := by kernel_rfl
 unfold Program.keyLits
 simp only [Tryz.underlying82]
 rw [if_pos (by refine ⟨by rw [hc]; rfl, by kernel_rfl⟩)]
 simp [Program.keyLits, Tryz.underlying3, hi, hx, hy]
theorem spot_key : PairKey Tryz.prog 82 := pairKey_of spot_keyed fun x y hx hy => by
 obtain ⟨ls, hls⟩ := spot_lits x y hx hy
 refine ⟨.string (keyBytes ls), ?_⟩
 have hf := spot_formed x y
 unfold keyOf
 simp only [Tryz.underlying82]
 rw [if_pos (by rw [spot_type, hf]; rfl)]
 show Option.map _ (Tryz.prog.keyLits (Tryz.prog.types.size + 1) 82 [.int .i64 x, .int .i64 y]) = _
 rw [hls]
 rfl
theorem int_zero (w : World) : (zeroValue 3).run Tryz.prog w = .ok (.int .i64 0) w := by kernel_rfl
theorem wf_small {h : Int} (h0 : 0 ≤ h) (h1 : h ≤ 100000) : (Lit.int .i64 h).wf = true := WalkArith.wf_i64 (by omega)
abbrev PM (b n : Nat) (f : Int → Int → Option Nat) (w : World) : Prop := PMap Tryz.prog 82 3 b n f w
theorem pm_look {b n : Nat} {f : Int → Int → Option Nat} {w : World} (h : PM b n f w) (k i : Nat) (hk : k ≤ 100000) (hi : i ≤ 100000) :
  (Instr.lookup 69 (.map (some b)) (.agg #[.int .i64 (k : Int), .int .i64 (i : Int)]) false).run Tryz.prog w = .ok (.int .i64 (((f k i).getD 0 : Nat) : Int)) w :=
 h.look spot_key Tryz.underlying69 Tryz.underlying3 (int_zero w) k i (wf_small (by omega) (by omega)) (wf_small (by omega) (by omega))
theorem pm_look_ok {b n : Nat} {f : Int → Int → Option Nat} {w : World} (h : PM b n f w) (k i : Nat) (hk : k ≤ 100000) (hi : i ≤ 100000) :
  (Instr.lookup 69 (.map (some b)) (.agg #[.int .i64 (k : Int), .int .i64 (i : Int)]) true).run Tryz.prog w = .ok (.tuple #[.int .i64 (((f k i).getD 0 : Nat) : Int), .bool (f k i).isSome]) w :=
 h.look_ok spot_key Tryz.underlying69 Tryz.underlying3 (int_zero w) k i (wf_small (by omega) (by omega)) (wf_small (by omega) (by omega))
theorem nil_look_ok (w : World) (k i : Nat) (hk : k ≤ 100000) (hi : i ≤ 100000) :
  (Instr.lookup 69 (.map none) (.agg #[.int .i64 (k : Int), .int .i64 (i : Int)]) true).run Tryz.prog w = .ok (.tuple #[.int .i64 0, .bool false]) w :=
 pair_nil spot_key Tryz.underlying69 (int_zero w) k i (wf_small (by omega) (by omega)) (wf_small (by omega) (by omega))
theorem pm_put {b n : Nat} {f : Int → Int → Option Nat} {w : World} (h : PM b n f w) (hn : n < maxLen) (k i v : Nat) (hk : k ≤ 100000) (hi : i ≤ 100000) (hv : v ≤ 100000) :
  ∃ w', (Instr.mapUpdate 69 (.map (some b)) (.agg #[.int .i64 (k : Int), .int .i64 (i : Int)]) (.int .i64 (v : Int))).run Tryz.prog w = .ok () w' ∧ PM b (n + 1) (setP f k i v) w' ∧ w.grownBy w' (some b) :=
 h.update spot_key Tryz.underlying69 Tryz.underlying3 hn k i v (wf_small (by omega) (by omega)) (wf_small (by omega) (by omega)) (wf_small (by omega) (by omega))

def LabAt (m : Option Nat) (lab : Nat → Nat → Bool) (W : World) : Prop := match m with
 | none => lab = lab0
 | some b => ∃ n f, PM b n f W ∧ ∀ k i : Nat, lab k i = (f (k : Int) (i : Int)).isSome
theorem LabAt.look {m : Option Nat} {lab : Nat → Nat → Bool} {W : World} (h : LabAt m lab W) (k i : Nat) (hk : k ≤ 100000) (hi : i ≤ 100000) :
  ∃ n : Nat, (Instr.lookup 69 (.map m) (.agg #[.int .i64 (k : Int), .int .i64 (i : Int)]) true).run Tryz.prog W = .ok (.tuple #[.int .i64 (n : Int), .bool (lab k i)]) W := by
 cases m with
 | none =>
  have h : lab = lab0 := h
  subst h
  exact ⟨0, nil_look_ok W k i hk hi⟩
 | some b =>
  obtain ⟨n, f, h1, h2⟩ := h
  rw [h2]
  exact ⟨_, pm_look_ok h1 k i hk hi⟩
theorem LabAt.keep {O : Nat → Prop} {m : Option Nat} {lab : Nat → Nat → Bool} {W W' : World} (h : LabAt m lab W) (hk : Keep O W W') (hm : ∀ b, m = some b → ¬ O b) : LabAt m lab W' := by
 cases m with
 | none => exact h
 | some b =>
  obtain ⟨n, f, h1, h2⟩ := h
  exact ⟨n, f, h1.keep hk (hm b rfl), h2⟩

end Go.Proofs.YtgnooffedmeenaaGreatDoor.M.L

namespace Go.Proofs.YtgnooffedmeenaaGreatDoor.M
open Go.RowKit W I

end Go.Proofs.YtgnooffedmeenaaGreatDoor.M

namespace Go.Proofs.YtgnooffedmeenaaGreatDoor.M
open Go

end Go.Proofs.YtgnooffedmeenaaGreatDoor.M

namespace Go.Proofs.YtgnooffedmeenaaGreatDoor.M
open Go.RowKit Go.Shelf W

end Go.Proofs.YtgnooffedmeenaaGreatDoor.M

namespace Go.Proofs.YtgnooffedmeenaaGreatDoor.M
open Go.RowKit Go.Shelf W

section
variable {P : Program} {n : Nat}
end

end Go.Proofs.YtgnooffedmeenaaGreatDoor.M

namespace Go.Proofs.YtgnooffedmeenaaGreatDoor.F
open Go.RowKit W

set_option maxRecDepth 100000 in
set_option maxHeartbeats 8000000 in
theorem equalI_any (A B : Option Addr) (la lb : List C.I3) (n m c d : Nat) (w : World) (ha : Rd w A (C.iis la)) (hb : Rd w B (C.iis lb)) (hn : Hid (la.length = n)) (hm : Hid (lb.length = m))
  (h1 : n ≤ 9223372036854775807) (h2 : m ≤ 9223372036854775807) (R : Bool) (hR : Hid (R = decide (la = lb))) :
  Calls Tryz.prog 131 #[.slice A n c, .slice B m d] w fun e w' => e = .returned (.bool R) ∧ Keep NoB w w' := by
 by_cases hnm : n = m
 ·subst hnm
  go_enter Tryz.func131, Tryz.ntmps131
  go_wp2
  go_loopw [13] (fun i wr => ∃ k : Nat, k ≤ n ∧ i = .int .i64 k ∧ Hid (la.take k = lb.take k) ∧ Keep NoB w wr) (fun i _ => n - (intOf i).toNat)
  case atStart => exact ⟨0, Nat.zero_le _, rfl, rfl, Keep.refl _ _⟩
  case round =>
   obtain ⟨k, hk, rfl, ht, hK⟩ := hrel
   by_cases hlt : k < n
   ·have hka : k < la.length := by rw [hn.out]; exact hlt
    have hkb : k < lb.length := by rw [hm.out]; exact hlt
    obtain ⟨ga, oa, rfl, hca⟩ := C.rdJ_at ha (by omega)
    obtain ⟨gb, ob, rfl, hcb⟩ := C.rdJ_at hb (by omega)
    have ca0 := hK.cell (hca k hka).1 id
    have ca1 := hK.cell (hca k hka).2.1 id
    have ca2 := hK.cell (hca k hka).2.2 id
    have cb0 := hK.cell (hcb k hkb).1 id
    have cb1 := hK.cell (hcb k hkb).2.1 id
    have cb2 := hK.cell (hcb k hkb).2.2 id
    have HT := Lib.hid (show la.take (k + 1) = la.take k ++ [la[k]] from List.take_succ_eq_append_getElem hka)
    have HU := Lib.hid (show lb.take (k + 1) = lb.take k ++ [lb[k]] from List.take_succ_eq_append_getElem hkb)
    clear hca hcb
    by_cases he : la[k] = lb[k]
    ·have HV : Hid (la.take (k + 1) = lb.take (k + 1)) := by show _ = _; rw [HT.out, HU.out, ht.out, he]
     rw [he] at ca0 ca1 ca2
     clear he HT HU ha hb
     generalize lb[k] = y at ca0 ca1 ca2 cb0 cb1 cb2
     obtain ⟨y0, y1, y2⟩ := y
     dsimp only at ca0 ca1 ca2 cb0 cb1 cb2
     go_wp2
     go_quiet (fail)
     go_wp2
     go_roundw
     case rel => exact ⟨k + 1, by omega, by go_num, HV, hK.drewN _⟩
     case measure => simp [intOf]; omega
    ·have hf : R = false := by
      rw [hR.out, decide_eq_false_iff_not]
      intro e
      exact he (by simp [e])
     subst hf
     clear HT HU ha hb
     generalize la[k] = x at ca0 ca1 ca2 he
     generalize lb[k] = y at cb0 cb1 cb2 he
     obtain ⟨x0, x1, x2⟩ := x
     obtain ⟨y0, y1, y2⟩ := y
     dsimp only at ca0 ca1 ca2 cb0 cb1 cb2
     by_cases h0 : x0 = y0
     ·subst h0
      by_cases h3 : x1 = y1
      ·subst h3
       have hne : (x2 == y2) = false := by rw [beq_eq_false_iff_ne]; rintro rfl; exact he rfl
       clear he
       go_wp2
       go_quiet (fail)
       go_wp2
       go_ret
       exact ⟨rfl, hK.drewN _⟩
      ·have hne : (x1 == y1) = false := by rw [beq_eq_false_iff_ne]; exact h3
       clear he h3
       go_wp2
       go_quiet (fail)
       go_wp2
       go_ret
       exact ⟨rfl, hK.drewN _⟩
     ·have hne : (x0 == y0) = false := by rw [beq_eq_false_iff_ne]; exact h0
      clear he h0
      go_wp2
      go_quiet (fail)
      go_wp2
      go_ret
      exact ⟨rfl, hK.drewN _⟩
   ·have hf : R = true := by
     rw [hR.out, decide_eq_true_iff]
     have e1 := ht.out
     rwa [List.take_of_length_le (by rw [hn.out]; omega), List.take_of_length_le (by rw [hm.out]; omega)] at e1
    subst hf
    go_wp2
    go_ret
    exact ⟨rfl, hK⟩
 ·have hf : R = false := by
   rw [hR.out, decide_eq_false_iff_not]
   intro e
   exact hnm (by rw [← hn.out, ← hm.out, e])
  subst hf
  have hne : ((n : Int) != (m : Int)) = true := by rw [bne_iff_ne]; omega
  clear hnm
  go_enter Tryz.func131, Tryz.ntmps131
  go_wp2
  go_ret
  exact ⟨rfl, Keep.refl _ _⟩

theorem retB {a b : Bool} (h : a = b) : Ending.returned (.bool a) = .returned (.bool b) := by rw [h]
theorem same_bits (f g : Fu) : sameF f g = (decide (f.nm = g.nm) && (decide (f.ar = g.ar ∧ f.rs = g.rs) && (decide (f.lc = g.lc) && decide (f.bd = g.bd)))) := by
 unfold sameF
 simp only [Bool.decide_and]
theorem name_eq {S T : ByteArray} {s t : List UInt8} (hS : S.data.toList = s) (hT : T.data.toList = t) : (S.toList == T.toList) = decide (s = t) := by
 subst hS hT
 rw [ByteArray.toList_eq, ByteArray.toList_eq]
 by_cases h : S.data.toList = T.data.toList
 ·rw [decide_eq_true h, h]; exact beq_self_eq_true _
 ·rw [decide_eq_false h]; exact beq_eq_false_iff_ne.2 h

set_option maxRecDepth 100000 in
set_option maxHeartbeats 8000000 in
theorem sameF_any (v : FV) (f : Fu) (u : FV) (g : Fu) (w : World) (h : FnAt w v f) (h2 : FnAt w u g) (hs : SmF v) (hs2 : SmF u) :
  Calls Tryz.prog 63 #[v.val, u.val] w fun e w' => e = .returned (.bool (sameF f g)) ∧ Keep NoB w w' := by
 have bx := (Blk.new w 37 v.cells).alloc (.cells u.cells 37)
 have by1 := Blk.new (w.alloc (.cells v.cells 37)) 37 u.cells
 have k0 := ((Keep.refl NoB w).alloc (.cells v.cells 37)).alloc (.cells u.cells 37)
 rw [World.size_alloc] at by1
 have HF := Lib.hid (h.keepN k0)
 have HG := Lib.hid (h2.keepN k0)
 have HX := Lib.hid bx
 have HY := Lib.hid by1
 have HR := Lib.hid (same_bits f g)
 have HN := name_eq h.nm h2.nm
 have HS := Lib.hid (fun w1 hk => S.same_any v.A f.ar v.na v.ca v.B f.rs v.nb v.cb u.A g.ar u.na u.ca u.B g.rs u.nb u.cb w1 (HF.out.keepN hk).ra (HF.out.keepN hk).rb (HG.out.keepN hk).ra (HG.out.keepN hk).rb h.la h.lb h2.la h2.lb (by have := hs.na; omega) (by have := hs.nb; omega) (by have := hs2.na; omega) (by have := hs2.nb; omega) _ rfl)
 have HL := Lib.hid (fun w1 hk => S.equal_any v.L u.L f.lc g.lc v.nl u.nl v.cl u.cl w1 (HF.out.keepN hk).rl (HG.out.keepN hk).rl h.ll h2.ll (by have := hs.nl; omega) (by have := hs2.nl; omega) _ rfl)
 have HD := Lib.hid (fun w1 hk => equalI_any v.D u.D f.bd g.bd v.nd u.nd v.cd u.cd w1 (HF.out.keepN hk).rd (HG.out.keepN hk).rd h.ld h2.ld (by have := hs.nd; omega) (by have := hs2.nd; omega) _ rfl)
 generalize sameF f g = R at HR ⊢
 generalize decide (f.nm = g.nm) = b0 at HR HN
 generalize decide (f.ar = g.ar ∧ f.rs = g.rs) = b1 at HR HS
 generalize decide (f.lc = g.lc) = b2 at HR HL
 generalize decide (f.bd = g.bd) = b3 at HR HD
 obtain ⟨s0, A, na, ca, B, nb, cb, L, nl, cl, D, nd, cd⟩ := v
 obtain ⟨s1, A1, na1, ca1, B1, nb1, cb1, L1, nl1, cl1, D1, nd1, cd1⟩ := u
 unfold FV.val FV.cells at *
 dsimp only at HN HS HL HD
 clear h h2 hs hs2 bx by1 HF HG
 cases b0
 ·go_enter Tryz.func63, Tryz.ntmps63
  obtain ⟨c0, c1, c2, c3, c4⟩ := blk5 (v := ⟨s0, A, na, ca, B, nb, cb, L, nl, cl, D, nd, cd⟩) HX.out
  obtain ⟨d0, d1, d2, d3, d4⟩ := blk5 (v := ⟨s1, A1, na1, ca1, B1, nb1, cb1, L1, nl1, cl1, D1, nd1, cd1⟩) HY.out
  dsimp only at c0 c1 c2 c3 c4 d0 d1 d2 d3 d4
  go_wp2
  go_ret
  exact ⟨retB HR.out.symm, k0⟩
 ·cases b1
  ·go_enter Tryz.func63, Tryz.ntmps63
   obtain ⟨c0, c1, c2, c3, c4⟩ := blk5 (v := ⟨s0, A, na, ca, B, nb, cb, L, nl, cl, D, nd, cd⟩) HX.out
   obtain ⟨d0, d1, d2, d3, d4⟩ := blk5 (v := ⟨s1, A1, na1, ca1, B1, nb1, cb1, L1, nl1, cl1, D1, nd1, cd1⟩) HY.out
   dsimp only at c0 c1 c2 c3 c4 d0 d1 d2 d3 d4
   go_wp2_with fail
   refine (HS.out _ (Keep.refl _ _)).mono ?_
   rintro e w1 ⟨rfl, k1⟩
   go_wp2
   go_ret
   exact ⟨retB HR.out.symm, keepN k0 k1⟩
  ·cases b2
   ·go_enter Tryz.func63, Tryz.ntmps63
    obtain ⟨c0, c1, c2, c3, c4⟩ := blk5 (v := ⟨s0, A, na, ca, B, nb, cb, L, nl, cl, D, nd, cd⟩) HX.out
    obtain ⟨d0, d1, d2, d3, d4⟩ := blk5 (v := ⟨s1, A1, na1, ca1, B1, nb1, cb1, L1, nl1, cl1, D1, nd1, cd1⟩) HY.out
    dsimp only at c0 c1 c2 c3 c4 d0 d1 d2 d3 d4
    go_wp2_with fail
    refine (HS.out _ (Keep.refl _ _)).mono ?_
    rintro e w1 ⟨rfl, k1⟩
    clear c0 c1 c2 c3 c4 d0 d1 d2 d3 d4
    obtain ⟨c0, c1, c2, c3, c4⟩ := blk5 (v := ⟨s0, A, na, ca, B, nb, cb, L, nl, cl, D, nd, cd⟩) (HX.out.keep k1 id)
    obtain ⟨d0, d1, d2, d3, d4⟩ := blk5 (v := ⟨s1, A1, na1, ca1, B1, nb1, cb1, L1, nl1, cl1, D1, nd1, cd1⟩) (HY.out.keep k1 id)
    dsimp only at c0 c1 c2 c3 c4 d0 d1 d2 d3 d4
    go_wp2_with fail
    refine (HL.out _ k1).mono ?_
    rintro e w2 ⟨rfl, k2⟩
    replace k2 := keepN k1 k2
    go_wp2
    go_ret
    exact ⟨retB HR.out.symm, keepN k0 k2⟩
   ·cases b3
    ·go_enter Tryz.func63, Tryz.ntmps63
     obtain ⟨c0, c1, c2, c3, c4⟩ := blk5 (v := ⟨s0, A, na, ca, B, nb, cb, L, nl, cl, D, nd, cd⟩) HX.out
     obtain ⟨d0, d1, d2, d3, d4⟩ := blk5 (v := ⟨s1, A1, na1, ca1, B1, nb1, cb1, L1, nl1, cl1, D1, nd1, cd1⟩) HY.out
     dsimp only at c0 c1 c2 c3 c4 d0 d1 d2 d3 d4
     go_wp2_with fail
     refine (HS.out _ (Keep.refl _ _)).mono ?_
     rintro e w1 ⟨rfl, k1⟩
     clear c0 c1 c2 c3 c4 d0 d1 d2 d3 d4
     obtain ⟨c0, c1, c2, c3, c4⟩ := blk5 (v := ⟨s0, A, na, ca, B, nb, cb, L, nl, cl, D, nd, cd⟩) (HX.out.keep k1 id)
     obtain ⟨d0, d1, d2, d3, d4⟩ := blk5 (v := ⟨s1, A1, na1, ca1, B1, nb1, cb1, L1, nl1, cl1, D1, nd1, cd1⟩) (HY.out.keep k1 id)
     dsimp only at c0 c1 c2 c3 c4 d0 d1 d2 d3 d4
     go_wp2_with fail
     refine (HL.out _ k1).mono ?_
     rintro e w2 ⟨rfl, k2⟩
     replace k2 := keepN k1 k2
     clear c0 c1 c2 c3 c4 d0 d1 d2 d3 d4
     obtain ⟨c0, c1, c2, c3, c4⟩ := blk5 (v := ⟨s0, A, na, ca, B, nb, cb, L, nl, cl, D, nd, cd⟩) (HX.out.keep k2 id)
     obtain ⟨d0, d1, d2, d3, d4⟩ := blk5 (v := ⟨s1, A1, na1, ca1, B1, nb1, cb1, L1, nl1, cl1, D1, nd1, cd1⟩) (HY.out.keep k2 id)
     dsimp only at c0 c1 c2 c3 c4 d0 d1 d2 d3 d4
     go_wp2_with fail
     refine (HD.out _ k2).mono ?_
     rintro e w3 ⟨rfl, k3⟩
     replace k3 := keepN k2 k3
     go_wp2
     go_ret
     exact ⟨retB HR.out.symm, keepN k0 k3⟩
    ·go_enter Tryz.func63, Tryz.ntmps63
     obtain ⟨c0, c1, c2, c3, c4⟩ := blk5 (v := ⟨s0, A, na, ca, B, nb, cb, L, nl, cl, D, nd, cd⟩) HX.out
     obtain ⟨d0, d1, d2, d3, d4⟩ := blk5 (v := ⟨s1, A1, na1, ca1, B1, nb1, cb1, L1, nl1, cl1, D1, nd1, cd1⟩) HY.out
     dsimp only at c0 c1 c2 c3 c4 d0 d1 d2 d3 d4
     go_wp2_with fail
     refine (HS.out _ (Keep.refl _ _)).mono ?_
     rintro e w1 ⟨rfl, k1⟩
     clear c0 c1 c2 c3 c4 d0 d1 d2 d3 d4
     obtain ⟨c0, c1, c2, c3, c4⟩ := blk5 (v := ⟨s0, A, na, ca, B, nb, cb, L, nl, cl, D, nd, cd⟩) (HX.out.keep k1 id)
     obtain ⟨d0, d1, d2, d3, d4⟩ := blk5 (v := ⟨s1, A1, na1, ca1, B1, nb1, cb1, L1, nl1, cl1, D1, nd1, cd1⟩) (HY.out.keep k1 id)
     dsimp only at c0 c1 c2 c3 c4 d0 d1 d2 d3 d4
     go_wp2_with fail
     refine (HL.out _ k1).mono ?_
     rintro e w2 ⟨rfl, k2⟩
     replace k2 := keepN k1 k2
     clear c0 c1 c2 c3 c4 d0 d1 d2 d3 d4
     obtain ⟨c0, c1, c2, c3, c4⟩ := blk5 (v := ⟨s0, A, na, ca, B, nb, cb, L, nl, cl, D, nd, cd⟩) (HX.out.keep k2 id)
     obtain ⟨d0, d1, d2, d3, d4⟩ := blk5 (v := ⟨s1, A1, na1, ca1, B1, nb1, cb1, L1, nl1, cl1, D1, nd1, cd1⟩) (HY.out.keep k2 id)
     dsimp only at c0 c1 c2 c3 c4 d0 d1 d2 d3 d4
     go_wp2_with fail
     refine (HD.out _ k2).mono ?_
     rintro e w3 ⟨rfl, k3⟩
     replace k3 := keepN k2 k3
     go_wp2
     go_ret
     exact ⟨retB HR.out.symm, keepN k0 k3⟩

end Go.Proofs.YtgnooffedmeenaaGreatDoor.F

namespace Go.Proofs.YtgnooffedmeenaaGreatDoor.I
open Go.RowKit W

theorem map_take_step {α β : Type} {f : α → β} {pa pb : List α} {j : Nat} (h : (pa.map f).take j = (pb.map f).take j) (ha : j < pa.length) (hb : j < pb.length) (he : f pa[j] = f pb[j]) : (pa.map f).take (j + 1) = (pb.map f).take (j + 1) := by
 rw [List.take_succ_eq_append_getElem (by simpa using ha), List.take_succ_eq_append_getElem (by simpa using hb), h]; simp [he]
theorem map_ne {α β : Type} {f : α → β} {pa pb : List α} {j : Nat} (ha : j < pa.length) (hb : j < pb.length) (he : f pa[j] ≠ f pb[j]) : pa.map f ≠ pb.map f := by
 intro h
 have : (pa.map f)[j]? = (pb.map f)[j]? := by rw [h]
 rw [List.getElem?_map, List.getElem?_map, List.getElem?_eq_getElem ha, List.getElem?_eq_getElem hb] at this
 exact he (Option.some.inj this)
theorem map_all {α β : Type} {f : α → β} {pa pb : List α} {j : Nat} (h : (pa.map f).take j = (pb.map f).take j) (ha : pa.length = j) (hb : pb.length = j) : pa.map f = pb.map f := by
 rwa [List.take_of_length_le (by simp [ha]), List.take_of_length_le (by simp [hb])] at h

set_option maxRecDepth 100000 in
set_option maxHeartbeats 2000000 in
theorem equalSh_any (A B : Option Addr) (la lb : List Int) (n m c d : Nat) (w : World) (ha : Rd w A (ivs la)) (hb : Rd w B (ivs lb)) (hn : Hid (la.length = n)) (hm : Hid (lb.length = m))
  (h1 : n ≤ 9223372036854775807) (h2 : m ≤ 9223372036854775807) (R : Bool) (hR : Hid (R = decide (la = lb))) :
  Calls Tryz.prog 61 #[.slice A n c, .slice B m d] w fun e w' => e = .returned (.bool R) ∧ Keep NoB w w' := by
 by_cases hnm : n = m
 ·subst hnm
  go_enter Tryz.func61, Tryz.ntmps61
  go_wp2
  go_loopw [13] (fun i wr => ∃ k : Nat, k ≤ n ∧ i = .int .i64 k ∧ Hid (la.take k = lb.take k) ∧ Keep NoB w wr) (fun i _ => n - (intOf i).toNat)
  case atStart => exact ⟨0, Nat.zero_le _, rfl, rfl, Keep.refl _ _⟩
  case round =>
   obtain ⟨k, hk, rfl, ht, hK⟩ := hrel
   by_cases hlt : k < n
   ·have hka : k < la.length := by rw [hn.out]; exact hlt
    have hkb : k < lb.length := by rw [hm.out]; exact hlt
    obtain ⟨ga, oa, rfl, hca⟩ := rdI_at ha (by omega)
    obtain ⟨gb, ob, rfl, hcb⟩ := rdI_at hb (by omega)
    have ca := hK.cell (hca k hka) id
    have cb := hK.cell (hcb k hkb) id
    have HT := Lib.hid (show la.take (k + 1) = la.take k ++ [la[k]] from List.take_succ_eq_append_getElem hka)
    have HU := Lib.hid (show lb.take (k + 1) = lb.take k ++ [lb[k]] from List.take_succ_eq_append_getElem hkb)
    clear hca hcb
    by_cases he : la[k] = lb[k]
    ·have HV : Hid (la.take (k + 1) = lb.take (k + 1)) := by show _ = _; rw [HT.out, HU.out, ht.out, he]
     rw [he] at ca
     clear he HT HU ha hb
     generalize lb[k] = y at ca cb
     go_wp2
     go_quiet (fail)
     go_wp2
     go_roundw
     case rel => exact ⟨k + 1, by omega, by go_num, HV, hK.drewN _⟩
     case measure => simp [intOf]; omega
    ·have hf : R = false := by
      rw [hR.out, decide_eq_false_iff_not]
      intro e
      exact he (by simp [e])
     subst hf
     clear HT HU ha hb
     generalize la[k] = x at ca he
     generalize lb[k] = y at cb he
     have hne : (x != y) = true := by rw [bne_iff_ne]; exact he
     clear he
     go_wp2
     go_quiet (fail)
     go_wp2
     go_ret
     exact ⟨rfl, hK.drewN _⟩
   ·have hf : R = true := by
     rw [hR.out, decide_eq_true_iff]
     have e1 := ht.out
     rwa [List.take_of_length_le (by rw [hn.out]; omega), List.take_of_length_le (by rw [hm.out]; omega)] at e1
    subst hf
    go_wp2
    go_ret
    exact ⟨rfl, hK⟩
 ·have hf : R = false := by
   rw [hR.out, decide_eq_false_iff_not]
   intro e
   exact hnm (by rw [← hn.out, ← hm.out, e])
  subst hf
  have hne : ((n : Int) != (m : Int)) = true := by rw [bne_iff_ne]; omega
  clear hnm
  go_enter Tryz.func61, Tryz.ntmps61
  go_wp2
  go_ret
  exact ⟨rfl, Keep.refl _ _⟩

set_option maxRecDepth 100000 in
set_option maxHeartbeats 4000000 in
theorem eqfnS_any (A B : Option Addr) (pa pb : List SE) (n m c d k : Nat) (w : World) (hcf : ∀ args w, (callFunc k args).run Tryz.prog w = .ok (.enter k args) w) (hra : Hid (∀ W, Keep NoB w W → Rd W A (svs pa))) (hrb : Hid (∀ W, Keep NoB w W → Rd W B (svs pb)))
  (hn : Hid (pa.length = n)) (hm : Hid (pb.length = m)) (hn1 : n ≤ 140737488355328) (hm1 : m ≤ 140737488355328)
  (hq : Hid (∀ i (h : i < pa.length) (h' : i < pb.length) W, Keep NoB w W → Calls Tryz.prog k #[pa[i].1.val, pb[i].1.val] W fun e W' => e = .returned (.bool (decide (pa[i].2 = pb[i].2))) ∧ Keep NoB W W')) (R : Bool) (hR : Hid (R = decide ((pa.map fun e => e.2) = pb.map fun e => e.2))) :
  Calls Tryz.prog 60 #[.slice A n c, .slice B m d, .func (.func k) #[] #[]] w fun e w' => e = .returned (.bool R) ∧ Keep NoB w w' := by
 by_cases hnm : n = m
 ·subst hnm
  go_enter Tryz.func60, Tryz.ntmps60
  go_wp2
  go_loopw [17] (fun i wr => ∃ j : Nat, j ≤ n ∧ i = .int .i64 j ∧ Hid ((pa.map fun e => e.2).take j = (pb.map fun e => e.2).take j) ∧ Keep NoB w wr) (fun i _ => n - (intOf i).toNat)
  case atStart => exact ⟨0, Nat.zero_le _, rfl, rfl, Keep.refl _ _⟩
  case round =>
   obtain ⟨j, hj, rfl, ht, hK⟩ := hrel
   by_cases hlt : j < n
   ·have hja : j < pa.length := by rw [hn.out]; exact hlt
    have hjb : j < pb.length := by rw [hm.out]; exact hlt
    obtain ⟨ga, oa, rfl, c0⟩ := shape_at (hra.out _ hK) hja
    obtain ⟨gb, ob, rfl, d0⟩ := shape_at (hrb.out _ hK) hjb
    have HQ := Lib.hid (fun W hk => hq.out j hja hjb W (keepN hK hk))
    have HY := Lib.hid (fun he => map_take_step ht.out hja hjb he)
    have HN := Lib.hid (fun he => map_ne (f := fun e : SE => e.2) hja hjb he)
    clear ht
    generalize pa[j] = ea at c0 HQ HY HN
    generalize pb[j] = eb at d0 HQ HY HN
    obtain ⟨⟨A1, n1, e1⟩, l1⟩ := ea
    obtain ⟨⟨A2, n2, e2⟩, l2⟩ := eb
    dsimp only [SV.val] at c0 d0 HQ HY HN
    by_cases he : l1 = l2
    ·have HV := Lib.hid (HY.out he)
     rw [decide_eq_true he] at HQ
     clear HY HN he
     go_wp2_with fail
     refine (HQ.out _ (Keep.refl _ _)).mono ?_
     rintro e w1 ⟨rfl, k1⟩
     have hK1 := keepN hK (keepN (Keep.refl _ _) k1)
     go_wp2
     go_roundw
     case rel => exact ⟨j + 1, by omega, by go_num, HV, hK1⟩
     case measure => simp [intOf]; omega
    ·obtain rfl : R = false := by rw [hR.out, decide_eq_false_iff_not]; exact HN.out he
     rw [decide_eq_false he] at HQ
     clear HY HN he hR
     go_wp2_with fail
     refine (HQ.out _ (Keep.refl _ _)).mono ?_
     rintro e w1 ⟨rfl, k1⟩
     have hK1 := keepN hK (keepN (Keep.refl _ _) k1)
     go_wp2
     go_ret
     exact ⟨rfl, hK1⟩
   ·obtain rfl : j = n := by omega
    obtain rfl : R = true := by rw [hR.out, decide_eq_true_iff]; exact map_all ht.out hn.out hm.out
    clear hR
    go_wp2
    go_ret
    exact ⟨rfl, hK⟩
 ·obtain rfl : R = false := by
   rw [hR.out, decide_eq_false_iff_not]
   intro e
   have := congrArg List.length e
   rw [List.length_map, List.length_map, hn.out, hm.out] at this
   exact hnm this
  have hne : ((n : Int) != (m : Int)) = true := by rw [bne_iff_ne]; omega
  clear hnm hR
  go_enter Tryz.func60, Tryz.ntmps60
  go_wp2
  go_ret
  exact ⟨rfl, Keep.refl _ _⟩

set_option maxRecDepth 100000 in
set_option maxHeartbeats 4000000 in
theorem eqfnF_any (A B : Option Addr) (pa pb : List FE) (n m c d k : Nat) (w : World) (hcf : ∀ args w, (callFunc k args).run Tryz.prog w = .ok (.enter k args) w) (hra : Hid (∀ W, Keep NoB w W → Rd W A (fvs pa))) (hrb : Hid (∀ W, Keep NoB w W → Rd W B (fvs pb)))
  (hn : Hid (pa.length = n)) (hm : Hid (pb.length = m)) (hn1 : n ≤ 140737488355328) (hm1 : m ≤ 140737488355328)
  (hq : Hid (∀ i (h : i < pa.length) (h' : i < pb.length) W, Keep NoB w W → Calls Tryz.prog k #[pa[i].1.val, pb[i].1.val] W fun e W' => e = .returned (.bool (decide (pa[i].2 = pb[i].2))) ∧ Keep NoB W W')) (R : Bool) (hR : Hid (R = decide ((pa.map fun e => e.2) = pb.map fun e => e.2))) :
  Calls Tryz.prog 62 #[.slice A n c, .slice B m d, .func (.func k) #[] #[]] w fun e w' => e = .returned (.bool R) ∧ Keep NoB w w' := by
 by_cases hnm : n = m
 ·subst hnm
  go_enter Tryz.func62, Tryz.ntmps62
  go_wp2
  go_loopw [17] (fun i wr => ∃ j : Nat, j ≤ n ∧ i = .int .i64 j ∧ Hid ((pa.map fun e => e.2).take j = (pb.map fun e => e.2).take j) ∧ Keep NoB w wr) (fun i _ => n - (intOf i).toNat)
  case atStart => exact ⟨0, Nat.zero_le _, rfl, rfl, Keep.refl _ _⟩
  case round =>
   obtain ⟨j, hj, rfl, ht, hK⟩ := hrel
   by_cases hlt : j < n
   ·have hja : j < pa.length := by rw [hn.out]; exact hlt
    have hjb : j < pb.length := by rw [hm.out]; exact hlt
    obtain ⟨ga, oa, rfl, c0, c1, c2, c3, c4⟩ := fun_at (hra.out _ hK) hja
    obtain ⟨gb, ob, rfl, d0, d1, d2, d3, d4⟩ := fun_at (hrb.out _ hK) hjb
    have HQ := Lib.hid (fun W hk => hq.out j hja hjb W (keepN hK hk))
    have HY := Lib.hid (fun he => map_take_step ht.out hja hjb he)
    have HN := Lib.hid (fun he => map_ne (f := fun e : FE => e.2) hja hjb he)
    clear ht
    generalize pa[j] = ea at c0 c1 c2 c3 c4 HQ HY HN
    generalize pb[j] = eb at d0 d1 d2 d3 d4 HQ HY HN
    obtain ⟨⟨S1, A1, na1, ca1, B1, nb1, cb1, L1, nl1, cl1, D1, nd1, cd1⟩, l1⟩ := ea
    obtain ⟨⟨S2, A2, na2, ca2, B2, nb2, cb2, L2, nl2, cl2, D2, nd2, cd2⟩, l2⟩ := eb
    dsimp only [F.FV.val, F.FV.cells] at c0 c1 c2 c3 c4 d0 d1 d2 d3 d4 HQ HY HN
    have kA := (Keep.refl NoB wr).alloc (.cells #[.string S1, .slice A1 na1 ca1, .slice B1 nb1 cb1, .slice L1 nl1 cl1, .slice D1 nd1 cd1] 37)
    have kB := kA.alloc (.cells #[.string S2, .slice A2 na2 ca2, .slice B2 nb2 cb2, .slice L2 nl2 cl2, .slice D2 nd2 cd2] 37)
    have f0 := kA.cell d0 id
    have f1 := kA.cell d1 id
    have f2 := kA.cell d2 id
    have f3 := kA.cell d3 id
    have f4 := kA.cell d4 id
    obtain ⟨g0, g1, g2, g3, g4⟩ := F.blk5 (v := ⟨S1, A1, na1, ca1, B1, nb1, cb1, L1, nl1, cl1, D1, nd1, cd1⟩) ((Blk.new wr 37 #[.string S1, .slice A1 na1 ca1, .slice B1 nb1 cb1, .slice L1 nl1 cl1, .slice D1 nd1 cd1]).alloc (.cells #[.string S2, .slice A2 na2 ca2, .slice B2 nb2 cb2, .slice L2 nl2 cl2, .slice D2 nd2 cd2] 37))
    dsimp only at g0 g1 g2 g3 g4
    by_cases he : l1 = l2
    ·have HV := Lib.hid (HY.out he)
     rw [decide_eq_true he] at HQ
     clear HY HN he
     go_wp2_with fail
     refine (HQ.out _ kB).mono ?_
     rintro e w1 ⟨rfl, k1⟩
     have hK1 := keepN hK (keepN kB k1)
     go_wp2
     go_roundw
     case rel => exact ⟨j + 1, by omega, by go_num, HV, hK1⟩
     case measure => simp [intOf]; omega
    ·obtain rfl : R = false := by rw [hR.out, decide_eq_false_iff_not]; exact HN.out he
     rw [decide_eq_false he] at HQ
     clear HY HN he hR
     go_wp2_with fail
     refine (HQ.out _ kB).mono ?_
     rintro e w1 ⟨rfl, k1⟩
     have hK1 := keepN hK (keepN kB k1)
     go_wp2
     go_ret
     exact ⟨rfl, hK1⟩
   ·obtain rfl : j = n := by omega
    obtain rfl : R = true := by rw [hR.out, decide_eq_true_iff]; exact map_all ht.out hn.out hm.out
    clear hR
    go_wp2
    go_ret
    exact ⟨rfl, hK⟩
 ·obtain rfl : R = false := by
   rw [hR.out, decide_eq_false_iff_not]
   intro e
   have := congrArg List.length e
   rw [List.length_map, List.length_map, hn.out, hm.out] at this
   exact hnm this
  have hne : ((n : Int) != (m : Int)) = true := by rw [bne_iff_ne]; omega
  clear hnm hR
  go_enter Tryz.func62, Tryz.ntmps62
  go_wp2
  go_ret
  exact ⟨rfl, Keep.refl _ _⟩

theorem sameI_of (es gs : List SE) (fs hs : List FE) : sameI (imOf es fs) (imOf gs hs) = (decide ((es.map fun e => e.2) = gs.map fun e => e.2) && decide ((fs.map fun e => e.2) = hs.map fun e => e.2)) := by
 unfold sameI imOf; dsimp only; rw [Bool.decide_and]
theorem ImAt.shp {w : World} {v : IV} {es : List SE} {fs : List FE} (h : ImAt w v es fs) {i : Nat} (hi : i < es.length) : Rd w es[i].1.A (ivs es[i].2) ∧ es[i].2.length = es[i].1.n := h.hs _ (List.getElem_mem hi)
theorem ImAt.fun_ {w : World} {v : IV} {es : List SE} {fs : List FE} (h : ImAt w v es fs) {i : Nat} (hi : i < fs.length) : F.FnAt w fs[i].1 fs[i].2 := h.hf _ (List.getElem_mem hi)
theorem sme {es : List SE} {fs : List FE} (h : SmI es fs) {i : Nat} (hi : i < es.length) : es[i].1.n ≤ 100 := h.sh _ (List.getElem_mem hi)
theorem smf {es : List SE} {fs : List FE} (h : SmI es fs) {i : Nat} (hi : i < fs.length) : F.SmF fs[i].1 := h.fn _ (List.getElem_mem hi)

set_option maxRecDepth 100000 in
set_option maxHeartbeats 4000000 in
theorem same_any (v u : IV) (es gs : List SE) (fs hs : List FE) (w : World) (h : ImAt w v es fs) (h2 : ImAt w u gs hs) (hs1 : SmI es fs) (hs2 : SmI gs hs) :
  Calls Tryz.prog 32 #[v.val, u.val] w fun e w' => e = .returned (.bool (sameI (imOf es fs) (imOf gs hs))) ∧ Keep NoB w w' := by
 have bx := (Blk.new w 25 v.cells).alloc (.cells u.cells 25)
 have by0 := Blk.new (w.alloc (.cells v.cells 25)) 25 u.cells
 have k0 := ((Keep.refl NoB w).alloc (.cells v.cells 25)).alloc (.cells u.cells 25)
 rw [World.size_alloc] at by0
 have hl := h.lx
 have hl2 := h.ly
 have hl3 := h2.lx
 have hl4 := h2.ly
 have n1 := hs1.ns
 have n2 := hs1.nf
 have n3 := hs2.ns
 have n4 := hs2.nf
 have HS := Lib.hid (fun W (hk : Keep NoB w W) => eqfnS_any v.X u.X es gs v.nx u.nx v.cx u.cx 61 W (enters_of Tryz.func61 (by kernel_rfl) rfl) (fun W' hk' => (h.keepN (keepN hk hk')).rx) (fun W' hk' => (h2.keepN (keepN hk hk')).rx) hl hl3 (by omega) (by omega)
  (fun i hi hi' W' hk' => equalSh_any es[i].1.A gs[i].1.A es[i].2 gs[i].2 es[i].1.n gs[i].1.n es[i].1.c gs[i].1.c W' ((h.keepN (keepN hk hk')).shp hi).1 ((h2.keepN (keepN hk hk')).shp hi').1 (h.shp hi).2 (h2.shp hi').2 (by have := sme hs1 hi; omega) (by have := sme hs2 hi'; omega) _ rfl) _ rfl)
 have HF := Lib.hid (fun W (hk : Keep NoB w W) => eqfnF_any v.Y u.Y fs hs v.ny u.ny v.cy u.cy 63 W (enters_of Tryz.func63 (by kernel_rfl) rfl) (fun W' hk' => (h.keepN (keepN hk hk')).ry) (fun W' hk' => (h2.keepN (keepN hk hk')).ry) hl2 hl4 (by omega) (by omega)
  (fun i hi hi' W' hk' => by
   have e : F.sameF fs[i].2 hs[i].2 = decide (fs[i].2 = hs[i].2) := by rw [Bool.eq_iff_iff, F.sameF_iff, decide_eq_true_iff]
   rw [← e]
   exact F.sameF_any fs[i].1 fs[i].2 hs[i].1 hs[i].2 W' ((h.keepN (keepN hk hk')).fun_ hi) ((h2.keepN (keepN hk hk')).fun_ hi') (smf hs1 hi) (smf hs2 hi')) _ rfl)
 rw [sameI_of]
 obtain ⟨x0, x1⟩ := blk2 bx
 obtain ⟨y0, y1⟩ := blk2 by0
 have HX := Lib.hid bx
 have HY := Lib.hid by0
 generalize decide ((es.map fun e => e.2) = gs.map fun e => e.2) = r1 at *
 generalize decide ((fs.map fun e => e.2) = hs.map fun e => e.2) = r2 at *
 clear h h2 hs1 hs2 hl hl2 hl3 hl4 n1 n2 n3 n4 bx by0
 obtain ⟨X, nx, cx, Y, ny, cy⟩ := v
 obtain ⟨X2, nx2, cx2, Y2, ny2, cy2⟩ := u
 dsimp only [IV.val, IV.cells] at *
 go_enter Tryz.func32, Tryz.ntmps32
 go_wp2_with fail
 refine (HS.out _ k0).mono ?_
 rintro e w1 ⟨rfl, k1⟩
 cases r1
 ·go_wp2
  go_ret
  exact ⟨rfl, keepN k0 k1⟩
 ·have hx := k1.cell x1 id
  have hy := k1.cell y1 id
  go_wp2_with fail
  refine (HF.out _ (keepN k0 k1)).mono ?_
  rintro e w2 ⟨rfl, k2⟩
  go_wp2
  go_ret
  exact ⟨by simp, keepN k0 (keepN k1 k2)⟩

end Go.Proofs.YtgnooffedmeenaaGreatDoor.I

namespace Go.Proofs.YtgnooffedmeenaaGreatDoor.W
open Go.RowKit

/-! ### guess, Read -/

theorem parse_any (S : ByteArray) (s : List UInt8) (w : World) (hs : S.data.toList = s) (hl : S.size ≤ 281474976710656) (h : Laid w) :
  Calls Tryz.prog 307 #[.string S, .int .i64 10, .int .i64 64] w fun e w' => ∃ er, e = .returned (.tuple #[.int .i64 (pI s), er]) ∧ Keep NoB w w' := by
 have e64 : Lib.parseIntB 64 S.data.toList = Lib.atoiAll s := by rw [Lib.parseIntB_64, hs]
 unfold pI
 rcases ha : Lib.atoiAll s with v | _ | _
 ·rw [ha] at e64
  refine (Tryz.strconv_ParseInt_10_at64_ok S (by omega) v e64 w).mono ?_
  rintro e w' ⟨rfl, hw⟩
  refine ⟨_, rfl, ?_⟩
  rcases hw with rfl | ⟨t, rfl⟩
  ·exact Keep.refl _ _
  ·exact Keep.of_below (Lib.bytesWorld_below _ _ _)
 ·rw [ha] at e64
  obtain ⟨tp, p, hv⟩ := h.syn
  refine (Tryz.strconv_ParseInt_10_at64_syntax_var S hl e64 tp p w hv).mono ?_
  rintro e w' ⟨N, rfl, _, _, hb⟩
  exact ⟨_, rfl, Keep.of_below hb⟩
 ·rw [ha] at e64
  obtain ⟨tp, p, hv⟩ := h.rng
  refine (Tryz.strconv_ParseInt_10_at64_range_var S hl e64 tp p w hv).mono ?_
  rintro e w' ⟨N, rfl, _, _, hb⟩
  rw [Lib.intSat_64, hs]
  exact ⟨_, rfl, Keep.of_below hb⟩

end Go.Proofs.YtgnooffedmeenaaGreatDoor.W

namespace Go.Proofs.YtgnooffedmeenaaGreatDoor.O
open Go.RowKit

def CutAt (w : World) : Prop := ∃ m, w.cell? ⟨0, 0, none⟩ = some (.int .i64 m)
theorem CutAt.keep {w w' : World} (h : CutAt w) (hk : Keep NoB w w') : CutAt w' := by
 obtain ⟨m, hm⟩ := h
 exact ⟨m, hk.cell hm id⟩
theorem cut_any (S : ByteArray) (s : List UInt8) (w : World) (hs : S.data.toList = s) (hl : S.size ≤ 200000) (h : CutAt w) :
  Calls Tryz.prog 295 #[.string S, .string ⟨#[32]⟩] w fun e w' => ∃ b, e = .returned (.tuple #[.string (str (Lib.cut s [32]).1), .string (str (Lib.cut s [32]).2.1), .bool b]) ∧ Keep NoB w w' := by
 obtain ⟨m, hm⟩ := h
 refine (Tryz.strings_Cut S ⟨#[32]⟩ m w (by omega) hm).mono ?_
 rintro e w' ⟨rfl, n, rfl⟩
 rw [hs]
 exact ⟨_, rfl, (Keep.refl NoB w).drewN n⟩
theorem str_list (s : List UInt8) : (str s).data.toList = s := by simp
theorem str_size (s : List UInt8) : (str s).size = s.length := _root_.Go.Proofs.YtgnooffedmeenaaGreatDoor.W.size_of (str_list s)

set_option maxHeartbeats 1000000 in
theorem guess_dig (k : Int) (S : ByteArray) (s : List UInt8) (w : World) (hk : digK k = true) (hs : S.data.toList = s) (hl : S.size ≤ 200000) (h : LaidO w) :
  Calls Tryz.prog 306 #[.string S] w fun e w' => e = .returned (.int .i64 (gK k s)) ∧ Keep NoB w w' := by
 have HX : Hid (gK k s = W.pI s) := by show _ = _; unfold gK; rw [if_pos hk]
 have HF := Lib.hid (W.parse_any S s w hs (by omega) h.lib)
 clear h hk hs hl
 go_enter Tryz.func306, Tryz.ntmps306
 go_wp2_with fail
 refine HF.out.mono ?_
 rintro e w1 ⟨er, rfl, k1⟩
 go_wp2
 go_ret
 exact ⟨by rw [HX.out]; rfl, k1⟩

theorem own_first {w1 w : World} {B : Option Addr} {d : Nat} {x : Int} (h : Own w1 3 1 (Fresh w) (.slice B 1 d) 1 (ivs [x])) : ∃ g, B = some ⟨g, 0, none⟩ ∧ w1.cell? ⟨g, 0, none⟩ = some (.int .i64 x) := by
 obtain ⟨A, c, e, _, _, hr, ha⟩ := h.form
 injection e with e1 _ e2
 subst e1
 obtain ⟨g, off, e3, hc⟩ := hr (by simp)
 have h0 := (ha _ e3).2
 injection h0 with _ h0 _
 subst h0
 exact ⟨g, e3, hc 0 _ (by simp)⟩
def letE (s : List UInt8) : Int := if W.tE s = 0 ∧ W.tN s = 1 then 0 else 40
theorem tE_tN (s : List UInt8) : W.tE s = 0 ∨ (W.tE s = 20 ∧ W.tN s = 0) := by
 unfold W.tE W.tN
 split
 ·exact .inl rfl
 ·exact .inr ⟨rfl, rfl⟩
set_option maxHeartbeats 1000000 in
theorem lettered_any (S : ByteArray) (s : List UInt8) (w : World) (hs : S.data.toList = s) (hl : S.size ≤ 200000) (h : LaidO w) :
  Calls Tryz.prog 272 #[.string S] w fun e w' => e = .returned (.tuple #[.int .i64 (ltrI s), .int .i64 (letE s)]) ∧ Keep NoB w w' := by
 have HF := Lib.hid (W.types_any S s w h.lets hs (by omega))
 have hlen := W.tL_length s
 clear h hs hl
 by_cases h0 : W.tE s = 0
 ·by_cases h1 : W.tN s = 1
  ·have HX : Hid (ltrI s = (W.tL s).getD 0 0 ∧ letE s = 0) := ⟨by unfold ltrI; rw [if_pos ⟨h0, h1⟩], by unfold letE; rw [if_pos ⟨h0, h1⟩]⟩
   obtain ⟨x, hx⟩ : ∃ x, W.tL s = [x] := by
    rw [h1] at hlen
    exact List.length_eq_one_iff.1 hlen
   rw [hx] at HX
   unfold W.TypesR at HF
   rw [h0, h1, hx] at HF
   clear h0 h1 hx hlen
   go_enter Tryz.func272, Tryz.ntmps272
   go_wp2_with fail
   refine HF.out.mono ?_
   rintro e w1 ⟨B, d, rfl, hO, k1⟩
   obtain ⟨ad, rfl, hc⟩ : ∃ ad, B = some ad ∧ w1.cell? ad = some (.int .i64 x) := by
    obtain ⟨g, rfl, hcell⟩ := own_first hO
    exact ⟨_, rfl, hcell⟩
   go_wp2
   go_ret2
   rw [HX.out.1, HX.out.2]
   exact ⟨rfl, k1⟩
  ·have HX : Hid (ltrI s = 0 ∧ letE s = 40) := ⟨by unfold ltrI; rw [if_neg (fun h => h1 h.2)], by unfold letE; rw [if_neg (fun h => h1 h.2)]⟩
   unfold W.TypesR at HF
   rw [h0] at HF
   clear h0 hlen
   have hq : ((W.tN s : Int) != 1) = true := by rw [bne_iff_ne]; omega
   generalize W.tN s = n at HF hq
   clear h1
   go_enter Tryz.func272, Tryz.ntmps272
   go_wp2_with fail
   refine HF.out.mono ?_
   rintro e w1 ⟨B, d, rfl, hO, k1⟩
   go_wp2
   go_ret2
   rw [HX.out.1, HX.out.2]
   exact ⟨rfl, k1⟩
 ·have HX : Hid (ltrI s = 0 ∧ letE s = 40) := ⟨by unfold ltrI; rw [if_neg (fun h => h0 h.1)], by unfold letE; rw [if_neg (fun h => h0 h.1)]⟩
  obtain ⟨h20, hn0⟩ := (tE_tN s).resolve_left h0
  unfold W.TypesR at HF
  rw [h20, hn0] at HF
  clear h0 h20 hn0 hlen
  go_enter Tryz.func272, Tryz.ntmps272
  go_wp2_with fail
  refine HF.out.mono ?_
  rintro e w1 ⟨B, d, rfl, hO, k1⟩
  go_wp2
  go_ret2
  rw [HX.out.1, HX.out.2]
  exact ⟨rfl, k1⟩

set_option maxHeartbeats 1000000 in
theorem guess_word (k : Int) (S : ByteArray) (s : List UInt8) (c : Nat) (w : World) (hk : wordK k = true) (hs : S.data.toList = s) (hl : S.size ≤ 200000) (h : LaidO w) (hc : w.cell? ⟨c, 0, none⟩ = some (fnV (readF k))) :
  Calls Tryz.prog 309 #[.string S, .pointer (some ⟨c, 0, none⟩)] w fun e w' => e = .returned (.int .i64 (gK k s)) ∧ Keep NoB w w' := by
 have hk := of_decide_eq_true hk
 have hkc : k = 8 ∨ k = 9 ∨ (k = 2 ∨ k = 3) := by omega
 clear hk
 rcases hkc with rfl | rfl | hk
 ·have HF := Lib.hid (A.binOf_all S s w h.names hs)
  have HX : Hid (gK 8 s = A.ofI A.binNs s) := rfl
  have hc' : w.cell? ⟨c, 0, none⟩ = some (fnV 274) := hc
  clear h hs hl hc
  go_enter Tryz.func309, Tryz.ntmps309
  go_wp2_with fail
  refine HF.out.mono ?_
  rintro e w1 ⟨rfl, k1⟩
  go_wp2
  go_ret
  exact ⟨by rw [HX.out]; rfl, k1⟩
 ·have HF := Lib.hid (A.unOf_all S s w h.names hs)
  have HX : Hid (gK 9 s = A.ofI A.unNs s) := rfl
  have hc' : w.cell? ⟨c, 0, none⟩ = some (fnV 276) := hc
  clear h hs hl hc
  go_enter Tryz.func309, Tryz.ntmps309
  go_wp2_with fail
  refine HF.out.mono ?_
  rintro e w1 ⟨rfl, k1⟩
  go_wp2
  go_ret
  exact ⟨by rw [HX.out]; rfl, k1⟩
 ·have HF := Lib.hid (lettered_any S s w hs hl h)
  have HX : Hid (gK k s = ltrI s) := by rcases hk with rfl | rfl <;> rfl
  have hc' : w.cell? ⟨c, 0, none⟩ = some (fnV 272) := by rw [hc]; rcases hk with rfl | rfl <;> rfl
  clear h hs hl hc hk
  go_enter Tryz.func309, Tryz.ntmps309
  go_wp2_with fail
  refine HF.out.mono ?_
  rintro e w1 ⟨rfl, k1⟩
  go_wp2
  go_ret
  exact ⟨by rw [HX.out]; rfl, k1⟩

theorem kb_cases (op : Int) : (rowAt op).kb = 0 ∨ (rowAt op).kb = 3 := by
 have := rowAt_all (p := fun r => decide (r.kb = 0 ∨ r.kb = 3)) (by decide) (by decide) op
 simpa using this

theorem run_field_gu (k l m : Int) (sh gu : Value) (w : World) : (Instr.field 256 (.agg #[.int .i64 k, .int .i64 l, .int .i64 m, sh, gu]) 4).run Tryz.prog w = .ok gu w := by kernel_rfl

/-! ### guess -/
theorem dig_word {k : Int} (h : wordK k = true) : ¬ digK k = true := by
 have h := of_decide_eq_true h
 intro h2
 have h2 := of_decide_eq_true h2
 omega
theorem word_dig_no {k : Int} (h : wordK k = true) : ¬ digK k = true := dig_word h

set_option maxRecDepth 100000 in
set_option maxHeartbeats 4000000 in
theorem guess_00 (op ka kb A B : Int) (S : ByteArray) (s : List UInt8) (w : World) (hs : Hid (S.data.toList = s)) (hl : Hid (S.size ≤ 200000)) (_hL : Hid (LaidO w)) (hC : Hid (CutAt w)) (HKn : Hid (∀ w, Calls Tryz.prog 78 #[.int .i64 op] w fun e w' => e = .returned (.tuple #[.int .i64 ka, .int .i64 kb]) ∧ Keep NoB w w'))
  (hA : Hid (A = 0)) (hB : Hid (B = 0)) (h0 : ka = 0) (h1 : kb = 0) :
  Calls Tryz.prog 297 #[.int .i64 op, .string S] w fun e w' => e = .returned (instV op A B) ∧ Keep NoB w w' := by
 have HCt := Lib.hid (fun w hw => cut_any S s w hs.out hl.out hw)
 have hcl := Lib.hid (cut_len s)
 have hsz : Hid (S.size = s.length) := Lib.hid (_root_.Go.Proofs.YtgnooffedmeenaaGreatDoor.W.size_of hs.out)
 subst h0
 subst h1
 have gK := ((Keep.refl NoB w).alloc (.cells #[.int .i64 0, .int .i64 0, .int .i64 0] 55)).alloc (.cells #[.int .i64 op, .int .i64 0, .int .i64 0] 55)
 have bo := (Blk.new w 55 #[.int .i64 0, .int .i64 0, .int .i64 0]).alloc (.cells #[.int .i64 op, .int .i64 0, .int .i64 0] 55)
 have bx := Blk.new (w.alloc (.cells #[.int .i64 0, .int .i64 0, .int .i64 0] 55)) 55 #[.int .i64 op, .int .i64 0, .int .i64 0]
 rw [World.size_alloc] at bx
 generalize (Lib.cut s [32]).1 = s1 at *
 generalize (Lib.cut s [32]).2.1 = s2 at *
 go_enter Tryz.func297, Tryz.ntmps297
 go_wp2_with fail
 refine (HCt.out _ (hC.out.keep gK)).mono ?_
 rintro e w1 ⟨bb, rfl, k1⟩
 replace bo := bo.keep k1 id
 replace bx := bx.keep k1 id
 replace gK := keepN gK k1
 clear k1
 go_wp2_with fail
 refine (HKn.out _).mono ?_
 rintro e w2 ⟨rfl, k1⟩
 replace bo := bo.keep k1 id
 replace bx := bx.keep k1 id
 replace gK := keepN gK k1
 clear k1
 have hz := bx.lt
 have hzo := bo.lt
 have fx := fun i => bx.frozen i
 have fo := fun i => bo.frozen i
 obtain ⟨c0, c1, c2⟩ := blk_inst bx
 obtain ⟨o0, o1, o2⟩ := blk_inst bo
 go_wp2
 refine bodyPost_ret (v := instV op 0 0) (by simp [results, Tryz.results297, go_sem, o0, o1, o2]) rfl ⟨by rw [hA.out, hB.out], ?_⟩
 repeat' first | exact gK | refine Keep.setCell ?_ (fun h => absurd h (by simp)) _


set_option maxRecDepth 100000 in
set_option maxHeartbeats 4000000 in
theorem guess_d0 (op ka kb A B : Int) (S : ByteArray) (s : List UInt8) (w : World) (hs : Hid (S.data.toList = s)) (hl : Hid (S.size ≤ 200000)) (hL : Hid (LaidO w)) (hC : Hid (CutAt w)) (HKn : Hid (∀ w, Calls Tryz.prog 78 #[.int .i64 op] w fun e w' => e = .returned (.tuple #[.int .i64 ka, .int .i64 kb]) ∧ Keep NoB w w'))
  (hA : Hid (A = gK ka (Lib.cut s [32]).1)) (hB : Hid (B = 0)) (h0 : ka ≠ 0) (h1 : kb = 0) (hk0 : Hid (digK ka = true ∧ 0 ≤ ka ∧ ka ≤ 10)) :
  Calls Tryz.prog 297 #[.int .i64 op, .string S] w fun e w' => e = .returned (instV op A B) ∧ Keep NoB w w' := by
 have HCt := Lib.hid (fun w hw => cut_any S s w hs.out hl.out hw)
 have hcl := Lib.hid (cut_len s)
 have hsz : Hid (S.size = s.length) := Lib.hid (_root_.Go.Proofs.YtgnooffedmeenaaGreatDoor.W.size_of hs.out)
 have q0 : (ka != 0) = true := by rw [bne_iff_ne]; exact h0
 subst h1
 have gK := ((Keep.refl NoB w).alloc (.cells #[.int .i64 0, .int .i64 0, .int .i64 0] 55)).alloc (.cells #[.int .i64 op, .int .i64 0, .int .i64 0] 55)
 have bo := (Blk.new w 55 #[.int .i64 0, .int .i64 0, .int .i64 0]).alloc (.cells #[.int .i64 op, .int .i64 0, .int .i64 0] 55)
 have bx := Blk.new (w.alloc (.cells #[.int .i64 0, .int .i64 0, .int .i64 0] 55)) 55 #[.int .i64 op, .int .i64 0, .int .i64 0]
 rw [World.size_alloc] at bx
 generalize (Lib.cut s [32]).1 = s1 at *
 generalize (Lib.cut s [32]).2.1 = s2 at *
 go_enter Tryz.func297, Tryz.ntmps297
 go_wp2_with fail
 refine (HCt.out _ (hC.out.keep gK)).mono ?_
 rintro e w1 ⟨bb, rfl, k1⟩
 replace bo := bo.keep k1 id
 replace bx := bx.keep k1 id
 replace gK := keepN gK k1
 clear k1
 go_wp2_with fail
 refine (HKn.out _).mono ?_
 rintro e w2 ⟨rfl, k1⟩
 replace bo := bo.keep k1 id
 replace bx := bx.keep k1 id
 replace gK := keepN gK k1
 clear k1
 have HO := Lib.hid (fun w => operandOf_any ka ⟨hk0.out.2.1, hk0.out.2.2⟩ w)
 go_wp2_with fail
 refine (HO.out _).mono ?_
 rintro e w3 ⟨sh, gu, rfl, hF, k1⟩
 replace bo := bo.keep k1 id
 replace bx := bx.keep k1 id
 replace gK := keepN gK k1
 clear k1
 obtain ⟨rfl, rfl⟩ : sh = fnV 304 ∧ gu = fnV 306 := by
  rcases hF with ⟨h, _⟩ | ⟨_, h⟩ | ⟨h, _⟩
  ·exact absurd h h0
  ·exact h
  ·exact absurd hk0.out.1 (dig_word h)
 clear hF
 dsimp only [opV]
 have hfd := fun w => run_field_gu ka (lo ka) (hi ka) (fnV 304) (fnV 306) w
 go_wp2_with fail
 refine (guess_dig ka (str s1) s1 _ hk0.out.1 (str_list _) (by rw [str_size]; have := hcl.out; have := hsz.out; have := hl.out; omega) (hL.out.keep gK)).mono ?_
 rintro e w4 ⟨rfl, k1⟩
 replace bo := bo.keep k1 id
 replace bx := bx.keep k1 id
 replace gK := keepN gK k1
 clear k1
 clear hfd
 rw [← hA.out]
 have hz := bx.lt
 have hzo := bo.lt
 have fx := fun i => bx.frozen i
 have fo := fun i => bo.frozen i
 obtain ⟨c0, c1, c2⟩ := blk_inst bx
 obtain ⟨o0, o1, o2⟩ := blk_inst bo
 go_wp2
 refine bodyPost_ret (v := instV op A 0) (by simp [results, Tryz.results297, go_sem, o0, o1, o2]) rfl ⟨by rw [hB.out], ?_⟩
 repeat' first | exact gK | refine Keep.setCell ?_ (fun h => absurd h (by simp)) _


set_option maxRecDepth 100000 in
set_option maxHeartbeats 4000000 in
theorem guess_w0 (op ka kb A B : Int) (S : ByteArray) (s : List UInt8) (w : World) (hs : Hid (S.data.toList = s)) (hl : Hid (S.size ≤ 200000)) (hL : Hid (LaidO w)) (hC : Hid (CutAt w)) (HKn : Hid (∀ w, Calls Tryz.prog 78 #[.int .i64 op] w fun e w' => e = .returned (.tuple #[.int .i64 ka, .int .i64 kb]) ∧ Keep NoB w w'))
  (hA : Hid (A = gK ka (Lib.cut s [32]).1)) (hB : Hid (B = 0)) (h0 : ka ≠ 0) (h1 : kb = 0) (hk0 : Hid (wordK ka = true ∧ 0 ≤ ka ∧ ka ≤ 10)) :
  Calls Tryz.prog 297 #[.int .i64 op, .string S] w fun e w' => e = .returned (instV op A B) ∧ Keep NoB w w' := by
 have HCt := Lib.hid (fun w hw => cut_any S s w hs.out hl.out hw)
 have hcl := Lib.hid (cut_len s)
 have hsz : Hid (S.size = s.length) := Lib.hid (_root_.Go.Proofs.YtgnooffedmeenaaGreatDoor.W.size_of hs.out)
 have q0 : (ka != 0) = true := by rw [bne_iff_ne]; exact h0
 subst h1
 have gK := ((Keep.refl NoB w).alloc (.cells #[.int .i64 0, .int .i64 0, .int .i64 0] 55)).alloc (.cells #[.int .i64 op, .int .i64 0, .int .i64 0] 55)
 have bo := (Blk.new w 55 #[.int .i64 0, .int .i64 0, .int .i64 0]).alloc (.cells #[.int .i64 op, .int .i64 0, .int .i64 0] 55)
 have bx := Blk.new (w.alloc (.cells #[.int .i64 0, .int .i64 0, .int .i64 0] 55)) 55 #[.int .i64 op, .int .i64 0, .int .i64 0]
 rw [World.size_alloc] at bx
 generalize (Lib.cut s [32]).1 = s1 at *
 generalize (Lib.cut s [32]).2.1 = s2 at *
 go_enter Tryz.func297, Tryz.ntmps297
 go_wp2_with fail
 refine (HCt.out _ (hC.out.keep gK)).mono ?_
 rintro e w1 ⟨bb, rfl, k1⟩
 replace bo := bo.keep k1 id
 replace bx := bx.keep k1 id
 replace gK := keepN gK k1
 clear k1
 go_wp2_with fail
 refine (HKn.out _).mono ?_
 rintro e w2 ⟨rfl, k1⟩
 replace bo := bo.keep k1 id
 replace bx := bx.keep k1 id
 replace gK := keepN gK k1
 clear k1
 have HO := Lib.hid (fun w => operandOf_any ka ⟨hk0.out.2.1, hk0.out.2.2⟩ w)
 go_wp2_with fail
 refine (HO.out _).mono ?_
 rintro e w3 ⟨sh, gu, rfl, hF, k1⟩
 replace bo := bo.keep k1 id
 replace bx := bx.keep k1 id
 replace gK := keepN gK k1
 clear k1
 obtain ⟨bb, cc, rfl, rfl, hcc⟩ : ∃ b c, sh = boxV 308 b ∧ gu = boxV 309 c ∧ w3.cell? ⟨c, 0, none⟩ = some (fnV (readF ka)) := by
  rcases hF with ⟨h, _⟩ | ⟨h, _⟩ | ⟨_, b, c, h1, h2, _, h4⟩
  ·exact absurd h h0
  ·exact absurd h (word_dig_no hk0.out.1)
  ·exact ⟨b, c, h1, h2, h4⟩
 have hcc := Lib.hid hcc
 clear hF
 dsimp only [opV]
 have hfd := fun w => run_field_gu ka (lo ka) (hi ka) (boxV 308 bb) (boxV 309 cc) w
 go_wp2_with fail
 refine (guess_word ka (str s1) s1 cc _ hk0.out.1 (str_list _) (by rw [str_size]; have := hcl.out; have := hsz.out; have := hl.out; omega) (hL.out.keep gK) hcc.out).mono ?_
 rintro e w4 ⟨rfl, k1⟩
 replace bo := bo.keep k1 id
 replace bx := bx.keep k1 id
 replace gK := keepN gK k1
 clear k1
 clear hfd
 rw [← hA.out]
 have hz := bx.lt
 have hzo := bo.lt
 have fx := fun i => bx.frozen i
 have fo := fun i => bo.frozen i
 obtain ⟨c0, c1, c2⟩ := blk_inst bx
 obtain ⟨o0, o1, o2⟩ := blk_inst bo
 go_wp2
 refine bodyPost_ret (v := instV op A 0) (by simp [results, Tryz.results297, go_sem, o0, o1, o2]) rfl ⟨by rw [hB.out], ?_⟩
 repeat' first | exact gK | refine Keep.setCell ?_ (fun h => absurd h (by simp)) _


set_option maxRecDepth 100000 in
set_option maxHeartbeats 4000000 in
theorem guess_dw (op ka kb A B : Int) (S : ByteArray) (s : List UInt8) (w : World) (hs : Hid (S.data.toList = s)) (hl : Hid (S.size ≤ 200000)) (hL : Hid (LaidO w)) (hC : Hid (CutAt w)) (HKn : Hid (∀ w, Calls Tryz.prog 78 #[.int .i64 op] w fun e w' => e = .returned (.tuple #[.int .i64 ka, .int .i64 kb]) ∧ Keep NoB w w'))
  (hA : Hid (A = gK ka (Lib.cut s [32]).1)) (hB : Hid (B = gK kb (Lib.cut s [32]).2.1)) (h0 : ka ≠ 0) (h1 : kb ≠ 0) (hk0 : Hid (digK ka = true ∧ 0 ≤ ka ∧ ka ≤ 10)) (hk1 : Hid (wordK kb = true ∧ 0 ≤ kb ∧ kb ≤ 10)) :
  Calls Tryz.prog 297 #[.int .i64 op, .string S] w fun e w' => e = .returned (instV op A B) ∧ Keep NoB w w' := by
 have HCt := Lib.hid (fun w hw => cut_any S s w hs.out hl.out hw)
 have hcl := Lib.hid (cut_len s)
 have hsz : Hid (S.size = s.length) := Lib.hid (_root_.Go.Proofs.YtgnooffedmeenaaGreatDoor.W.size_of hs.out)
 have q0 : (ka != 0) = true := by rw [bne_iff_ne]; exact h0
 have q1 : (kb != 0) = true := by rw [bne_iff_ne]; exact h1
 have gK := ((Keep.refl NoB w).alloc (.cells #[.int .i64 0, .int .i64 0, .int .i64 0] 55)).alloc (.cells #[.int .i64 op, .int .i64 0, .int .i64 0] 55)
 have bo := (Blk.new w 55 #[.int .i64 0, .int .i64 0, .int .i64 0]).alloc (.cells #[.int .i64 op, .int .i64 0, .int .i64 0] 55)
 have bx := Blk.new (w.alloc (.cells #[.int .i64 0, .int .i64 0, .int .i64 0] 55)) 55 #[.int .i64 op, .int .i64 0, .int .i64 0]
 rw [World.size_alloc] at bx
 generalize (Lib.cut s [32]).1 = s1 at *
 generalize (Lib.cut s [32]).2.1 = s2 at *
 go_enter Tryz.func297, Tryz.ntmps297
 go_wp2_with fail
 refine (HCt.out _ (hC.out.keep gK)).mono ?_
 rintro e w1 ⟨bb, rfl, k1⟩
 replace bo := bo.keep k1 id
 replace bx := bx.keep k1 id
 replace gK := keepN gK k1
 clear k1
 go_wp2_with fail
 refine (HKn.out _).mono ?_
 rintro e w2 ⟨rfl, k1⟩
 replace bo := bo.keep k1 id
 replace bx := bx.keep k1 id
 replace gK := keepN gK k1
 clear k1
 have HO := Lib.hid (fun w => operandOf_any ka ⟨hk0.out.2.1, hk0.out.2.2⟩ w)
 go_wp2_with fail
 refine (HO.out _).mono ?_
 rintro e w3 ⟨sh, gu, rfl, hF, k1⟩
 replace bo := bo.keep k1 id
 replace bx := bx.keep k1 id
 replace gK := keepN gK k1
 clear k1
 obtain ⟨rfl, rfl⟩ : sh = fnV 304 ∧ gu = fnV 306 := by
  rcases hF with ⟨h, _⟩ | ⟨_, h⟩ | ⟨h, _⟩
  ·exact absurd h h0
  ·exact h
  ·exact absurd hk0.out.1 (dig_word h)
 clear hF
 dsimp only [opV]
 have hfd := fun w => run_field_gu ka (lo ka) (hi ka) (fnV 304) (fnV 306) w
 go_wp2_with fail
 refine (guess_dig ka (str s1) s1 _ hk0.out.1 (str_list _) (by rw [str_size]; have := hcl.out; have := hsz.out; have := hl.out; omega) (hL.out.keep gK)).mono ?_
 rintro e w4 ⟨rfl, k1⟩
 replace bo := bo.keep k1 id
 replace bx := bx.keep k1 id
 replace gK := keepN gK k1
 clear k1
 clear hfd
 rw [← hA.out]
 have bo2 := bo
 have hz := bx.lt
 have fx := fun i => bx.frozen i
 have c0 := bx.cell 0
 have c1 := bx.cell 1
 have c2 := bx.cell 2
 have bx2 := bx.put 1 (.int .i64 A)
 have bo3 := bo.far (p := ⟨w.heap.size + 1, 1, none⟩) (by simp) (.int .i64 A)
 have gK2 : Keep NoB w (w4.setCell ⟨w.heap.size + 1, 1, none⟩ (.int .i64 A)) := gK.setCell (fun h => by have : w.heap.size + 1 < w.heap.size := h; omega) _
 have HO := Lib.hid (fun w => operandOf_any kb ⟨hk1.out.2.1, hk1.out.2.2⟩ w)
 go_wp2_with fail
 refine (HO.out _).mono ?_
 rintro e w5 ⟨sh, gu, rfl, hF, k1⟩
 clear bx bo gK hz fx c0 c1 c2 bo2
 have bx := bx2.keep k1 id
 have bo := bo3.keep k1 id
 have gK := keepN gK2 k1
 clear k1 bx2 bo3 gK2
 obtain ⟨bb, cc, rfl, rfl, hcc⟩ : ∃ b c, sh = boxV 308 b ∧ gu = boxV 309 c ∧ w5.cell? ⟨c, 0, none⟩ = some (fnV (readF kb)) := by
  rcases hF with ⟨h, _⟩ | ⟨h, _⟩ | ⟨_, b, c, h1, h2, _, h4⟩
  ·exact absurd h h1
  ·exact absurd h (word_dig_no hk1.out.1)
  ·exact ⟨b, c, h1, h2, h4⟩
 have hcc := Lib.hid hcc
 clear hF
 dsimp only [opV]
 have hfd := fun w => run_field_gu kb (lo kb) (hi kb) (boxV 308 bb) (boxV 309 cc) w
 go_wp2_with fail
 refine (guess_word kb (str s2) s2 cc _ hk1.out.1 (str_list _) (by rw [str_size]; have := hcl.out; have := hsz.out; have := hl.out; omega) (hL.out.keep gK) hcc.out).mono ?_
 rintro e w6 ⟨rfl, k1⟩
 replace bo := bo.keep k1 id
 replace bx := bx.keep k1 id
 replace gK := keepN gK k1
 clear k1
 rw [← hB.out]
 have hz := bx.lt
 have hzo := bo.lt
 have fx := fun i => bx.frozen i
 have fo := fun i => bo.frozen i
 obtain ⟨c0, c1, c2⟩ := blk_inst bx
 obtain ⟨o0, o1, o2⟩ := blk_inst bo
 go_wp2
 refine bodyPost_ret (v := instV op A B) (by simp [results, Tryz.results297, go_sem, o0, o1, o2]) rfl ⟨rfl, ?_⟩
 repeat' first | exact gK | refine Keep.setCell ?_ (fun h => absurd h (by simp)) _

end Go.Proofs.YtgnooffedmeenaaGreatDoor.O

namespace Go.Proofs.YtgnooffedmeenaaGreatDoor.M
open Go.RowKit W

def NormT (T : World → Prop) : Prop := ∀ (S : ByteArray) (s : Bs) (W : World), T W → Hid (S.data.toList = s) → S.size ≤ 140000 →
 Calls Tryz.prog 33 #[.string S] W fun e w' => e = .returned (.string (str (normL s))) ∧ Keep NoB W w'
def ParseR (R : I.Im × Nat × Int) (w : World) (e : Ending) (w' : World) : Prop :=
 ∃ (v : I.IV) (es : List I.SE) (fs : List I.FE), e = .returned (.tuple #[v.val, .int .i64 ((R.2.1 : Nat) : Int), .int .i64 R.2.2]) ∧ I.OwnIm w' (Fresh w) v es fs ∧ I.SmI es fs ∧ I.imOf es fs = R.1 ∧ Keep NoB w w'
def ParseT (T : World → Prop) : Prop := ∀ (S : ByteArray) (s : Bs) (W : World), T W → Hid (S.data.toList = s) → S.size ≤ 140000 →
 Calls Tryz.prog 31 #[.string S] W (ParseR (parseL s) W)
end Go.Proofs.YtgnooffedmeenaaGreatDoor.M

namespace Go.Proofs.YtgnooffedmeenaaGreatDoor.M
open Go.RowKit Go.Shelf W

end Go.Proofs.YtgnooffedmeenaaGreatDoor.M
