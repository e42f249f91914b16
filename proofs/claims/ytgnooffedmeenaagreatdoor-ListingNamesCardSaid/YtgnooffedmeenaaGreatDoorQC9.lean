/-
  Part 9 of the proofs of LNamesRow, LOneRow: what is laid, and what the functions that the law runs answer. Conditions: each theorem names its own.
-/
import Derived.Lib.Fields
import Derived.Shelf.Small.Strs
import Derived.Test.YtgnooffedmeenaaGreatDoorQC8
namespace Go.Proofs.YtgnooffedmeenaaGreatDoor.F
open Go.RowKit W

structure LgF (v : FV) : Prop where
 sz : v.S.size ≤ 140737488355328
 na : v.na ≤ 140737488355328
 nb : v.nb ≤ 140737488355328
 nl : v.nl ≤ 140737488355328
 nd : v.nd ≤ 140737488355328
set_option maxRecDepth 100000 in
set_option maxHeartbeats 2000000 in
theorem fewL_any (v : FV) (w : World) (h : LgF v) (R : Int) (hR : Hid ((if v.na + v.nb + v.nl ≤ 64 then (0 : Int) else 70) = R)) :
  Calls Tryz.prog 98 #[v.val] w fun e w' => e = .returned (.int .i64 R) ∧ Keep NoB w w' := by
 obtain ⟨S, A, na, ca, B, nb, cb, L, nl, cl, D, nd, cd⟩ := v
 obtain ⟨_, q1, q2, q3, _⟩ := h
 dsimp only at q1 q2 q3 hR
 have bx := Blk.new w 37 (FV.cells ⟨S, A, na, ca, B, nb, cb, L, nl, cl, D, nd, cd⟩)
 have k0 := (Keep.refl NoB w).alloc (.cells (FV.cells ⟨S, A, na, ca, B, nb, cb, L, nl, cl, D, nd, cd⟩) 37)
 dsimp only [FV.val, FV.cells] at bx k0 ⊢
 by_cases h1 : na + nb + nl ≤ 64
 ·obtain rfl : 0 = R := by rw [← hR.out, if_pos h1]
  clear hR
  go_enter Tryz.func98, Tryz.ntmps98
  go_wp2
  go_ret
  exact ⟨rfl, k0⟩
 ·obtain rfl : 70 = R := by rw [← hR.out, if_neg h1]
  have h2 : (64 : Int) < (na : Int) + (nb : Int) + (nl : Int) := by omega
  clear hR h1
  go_enter Tryz.func98, Tryz.ntmps98
  go_wp2
  go_ret
  exact ⟨rfl, k0⟩

set_option maxRecDepth 100000 in
set_option maxHeartbeats 4000000 in
theorem checksL_any (v : FV) (f : Fu) (w : World) (h : FnAt w v f) (hs : LgF v) (g : Nat) (u0 u1 u2 u3 u4 : Value) (hb : Blk w g 57 #[u0, u1, u2, u3, u4])
  (a0 : AskV 155 88 37 (fnV 98) (v.cells) u0 w)
  (a1 : AskV 156 159 9 (fnV 100) (#[.string v.S]) u1 w)
  (a2 : AskV 159 161 34 (fnV 102) (#[.slice v.A v.na v.ca, .slice v.B v.nb v.cb]) u2 w)
  (a3 : AskV 159 161 34 (fnV 102) (#[.slice v.L v.nl v.cl, .slice none 0 0]) u3 w)
  (a4 : AskV 163 164 35 (fnV 105) (#[.slice v.D v.nd v.cd]) u4 w) :
  Calls Tryz.prog 96 #[.slice (some ⟨g, 0, none⟩) 5 5] w fun e w' => e = .returned (.bool (okF f)) ∧ Keep NoB w w' := by
 obtain ⟨c0, p0, rfl, a0, b0⟩ := a0
 obtain ⟨c1, p1, rfl, a1, b1⟩ := a1
 obtain ⟨c2, p2, rfl, a2, b2⟩ := a2
 obtain ⟨c3, p3, rfl, a3, b3⟩ := a3
 obtain ⟨c4, p4, rfl, a4, b4⟩ := a4
 refine (every_any (some ⟨g, 0, none⟩) [(155, #[.pointer (some ⟨c0, 0, none⟩), .pointer (some ⟨p0, 0, none⟩)]), (156, #[.pointer (some ⟨c1, 0, none⟩), .pointer (some ⟨p1, 0, none⟩)]), (159, #[.pointer (some ⟨c2, 0, none⟩), .pointer (some ⟨p2, 0, none⟩)]), (159, #[.pointer (some ⟨c3, 0, none⟩), .pointer (some ⟨p3, 0, none⟩)]), (163, #[.pointer (some ⟨c4, 0, none⟩), .pointer (some ⟨p4, 0, none⟩)])] 5 5 w rfl (by decide) (bsF v f) (fun _ W => Keep NoB w W) (fun W => Keep NoB w W) ?hcf ?hr ?hq (Keep.refl _ _)).mono ?_
 case hcf =>
  intro q hq
  simp only [List.mem_cons, List.not_mem_nil, or_false] at hq
  rcases hq with rfl | rfl | rfl | rfl | rfl
  ·exact enters_of Tryz.func155 (by kernel_rfl) rfl
  ·exact enters_of Tryz.func156 (by kernel_rfl) rfl
  ·exact enters_of Tryz.func159 (by kernel_rfl) rfl
  ·exact enters_of Tryz.func159 (by kernel_rfl) rfl
  ·exact enters_of Tryz.func163 (by kernel_rfl) rfl
 case hr =>
  intro i W hK _
  refine ⟨g, 0, rfl, fun j u hu => ?_⟩
  rw [Nat.zero_add, (hb.keep hK id).cell j]
  simpa using hu
 case hq =>
  intro i hi W hK
  have hf := h.keepN hK
  have hi : i = 0 ∨ i = 1 ∨ i = 2 ∨ i = 3 ∨ i = 4 := by simp at hi; omega
  rcases hi with rfl | rfl | rfl | rfl | rfl
  ·refine (askedFun_any 98 (enters_of Tryz.func98 (by kernel_rfl) rfl) v c0 p0 W (a0.keep hK id) (b0.keep hK id) _ (bsF v f 0) (few_eq v f) (fewL_any v W hs _ rfl)).mono ?_
   rintro e W' ⟨rfl, hk⟩
   exact ⟨rfl, fun _ => keepN hK hk, fun _ => keepN hK hk⟩
  ·refine (askedStr_any 100 (enters_of Tryz.func100 (by kernel_rfl) rfl) v.S c1 p1 W (a1.keep hK id) (b1.keep hK id) (chkN f.nm) (bsF v f 1) (chkN_eq _) ?_).mono ?_
   ·refine (named_any v.S f.nm W hf.nm (by have := hs.sz; omega) _ rfl).mono ?_
    rintro e W' ⟨rfl, rfl⟩
    exact ⟨rfl, Keep.refl _ _⟩
   rintro e W' ⟨rfl, hk⟩
   exact ⟨rfl, fun _ => keepN hK hk, fun _ => keepN hK hk⟩
  ·refine (askedSig_any 102 (enters_of Tryz.func102 (by kernel_rfl) rfl) _ _ c2 p2 W (a2.keep hK id) (b2.keep hK id) (S.chkG f.ar f.rs) (bsF v f 2) (chkG_eq _ _) (S.chkG_any v.A f.ar v.na v.ca v.B f.rs v.nb v.cb W hf.ra hf.rb hf.la hf.lb (by have := hs.na; omega) (by have := hs.nb; omega) _ rfl)).mono ?_
   rintro e W' ⟨rfl, hk⟩
   exact ⟨rfl, fun _ => keepN hK hk, fun _ => keepN hK hk⟩
  ·refine (askedSig_any 102 (enters_of Tryz.func102 (by kernel_rfl) rfl) _ _ c3 p3 W (a3.keep hK id) (b3.keep hK id) (S.chkG f.lc []) (bsF v f 3) (chkG_eq _ _) (S.chkG_any v.L f.lc v.nl v.cl none [] 0 0 W hf.rl (Rd.none_ _ _) hf.ll rfl (by have := hs.nl; omega) (by omega) _ rfl)).mono ?_
   rintro e W' ⟨rfl, hk⟩
   exact ⟨rfl, fun _ => keepN hK hk, fun _ => keepN hK hk⟩
  ·refine (askedBod_any 105 (enters_of Tryz.func105 (by kernel_rfl) rfl) v.D v.nd v.cd c4 p4 W (a4.keep hK id) (b4.keep hK id) (C.chkB f.bd) (bsF v f 4) (chkB_eq _) (C.cchk_any v.D f.bd v.nd v.cd W hf.rd hf.ld (by have := hs.nd; omega) _ rfl)).mono ?_
   rintro e W' ⟨rfl, hk⟩
   exact ⟨rfl, fun _ => keepN hK hk, fun _ => keepN hK hk⟩
 rintro e w' (⟨rfl, hb, hk⟩ | ⟨rfl, hb, hk⟩)
 ·exact ⟨by rw [bsF_all h hb], hk⟩
 ·exact ⟨by rw [bsF_not h hb], hk⟩

set_option maxRecDepth 100000 in
set_option maxHeartbeats 8000000 in
theorem checkL_any (v : FV) (f : Fu) (w : World) (h : FnAt w v f) (hs : LgF v) (R : Int) (hR : Hid (chkF f = R)) :
  Calls Tryz.prog 47 #[v.val] w fun e w' => e = .returned (.int .i64 R) ∧ Keep NoB w w' := by
 have bx := Blk.new w 37 v.cells
 have k0 := (Keep.refl NoB w).alloc (.cells v.cells 37)
 have HF := Lib.hid (h.keepN k0)
 obtain ⟨S, A, na, ca, B, nb, cb, L, nl, cl, D, nd, cd⟩ := v
 have HE := Lib.hid (fun W hf g u0 u1 u2 u3 u4 hb a0 a1 a2 a3 a4 => checksL_any _ f W hf hs g u0 u1 u2 u3 u4 hb a0 a1 a2 a3 a4)
 obtain ⟨q0, q1, q2, q3, q4⟩ := blk5 bx
 dsimp only [FV.val, FV.cells] at bx k0 HF q0 q1 q2 q3 q4 ⊢
 have HX := Lib.hid bx
 clear h hs bx
 generalize hw1 : w.alloc (.cells #[.string S, .slice A na ca, .slice B nb cb, .slice L nl cl, .slice D nd cd] 37) = w1 at k0 HF q0 q1 q2 q3 q4 HX
 go_enter Tryz.func47, Tryz.ntmps47
 go_wp2_with fail
 clear hw1
 refine wp_region_props2 3 99 (NoB) (by kernel_rfl) (by kernel_rfl) (SC ⟨S, A, na, ca, B, nb, cb, L, nl, cl, D, nd, cd⟩ f w.heap.size) (fun i u x y _ h hk => SC_stable _ _ _ i u x y h hk) (of_decide_eq_true rfl) ?step ?spec ?fin
 case step =>
  intro i o a w' ho hic hF hK hA
  have hi : i < 18 := by simpa using (Array.getElem?_eq_some_iff.1 ho).1
  by_cases h0 : i = 0
  ·subst h0
   simp only [List.getElem?_toArray, List.getElem?_cons_zero, Option.some.injEq] at ho
   subst ho
   have e1 : a.tmps.getD 1 undef = .pointer (some ⟨w.heap.size, 0, none⟩) := hF.2.2 1 (.inl (by decide))
   have c0 := Keep.cell hK q0 id
   have c1 := Keep.cell hK q1 id
   have c2 := Keep.cell hK q2 id
   have c3 := Keep.cell hK q3 id
   have c4 := Keep.cell hK q4 id
   refine Does.plain rfl ?_
   unfold yieldsK
   go_simp
   exact ⟨rfl, Keep.refl _ _⟩
  by_cases h1 : i = 1
  ·subst h1
   simp only [List.getElem?_toArray, List.getElem?_cons_zero, List.getElem?_cons_succ, Option.some.injEq] at ho
   subst ho
   have e3 : a.tmps.getD 3 undef = .agg #[.string S, .slice A na ca, .slice B nb cb, .slice L nl cl, .slice D nd cd] := hA ⟨0, .data⟩ (by simp) rfl
   refine Does.plain rfl ?_
   unfold yieldsK
   go_simp
   refine (passesFun_any 98 ⟨S, A, na, ca, B, nb, cb, L, nl, cl, D, nd, cd⟩ w').mono ?_
   rintro e w2 ⟨u, rfl, h1, h2⟩
   exact ⟨_, rfl, h1, h2⟩
  by_cases h2 : i = 2
  ·subst h2
   simp only [List.getElem?_toArray, List.getElem?_cons_zero, List.getElem?_cons_succ, Option.some.injEq] at ho
   subst ho
   have e1 : a.tmps.getD 1 undef = .pointer (some ⟨w.heap.size, 0, none⟩) := hF.2.2 1 (.inl (by decide))
   refine Does.plain rfl ?_
   unfold yieldsK
   go_simp
   exact ⟨rfl, Keep.refl _ _⟩
  by_cases h3 : i = 3
  ·subst h3
   simp only [List.getElem?_toArray, List.getElem?_cons_zero, List.getElem?_cons_succ, Option.some.injEq] at ho
   subst ho
   have e5 : a.tmps.getD 5 undef = .pointer (some ⟨w.heap.size, 0, none⟩) := hA ⟨2, .data⟩ (by simp) rfl
   have c0 := Keep.cell hK q0 id
   refine Does.plain rfl ?_
   unfold yieldsK
   go_simp
   exact ⟨rfl, Keep.refl _ _⟩
  by_cases h4 : i = 4
  ·subst h4
   simp only [List.getElem?_toArray, List.getElem?_cons_zero, List.getElem?_cons_succ, Option.some.injEq] at ho
   subst ho
   have e6 : a.tmps.getD 6 undef = .string S := hA ⟨3, .data⟩ (by simp) rfl
   refine Does.plain rfl ?_
   unfold yieldsK
   go_simp
   refine (passesStr_any 100 S w').mono ?_
   rintro e w2 ⟨u, rfl, h1, h2⟩
   exact ⟨_, rfl, h1, h2⟩
  by_cases h5 : i = 5
  ·subst h5
   simp only [List.getElem?_toArray, List.getElem?_cons_zero, List.getElem?_cons_succ, Option.some.injEq] at ho
   subst ho
   have e1 : a.tmps.getD 1 undef = .pointer (some ⟨w.heap.size, 0, none⟩) := hF.2.2 1 (.inl (by decide))
   refine Does.plain rfl ?_
   unfold yieldsK
   go_simp
   exact ⟨rfl, Keep.refl _ _⟩
  by_cases h6 : i = 6
  ·subst h6
   simp only [List.getElem?_toArray, List.getElem?_cons_zero, List.getElem?_cons_succ, Option.some.injEq] at ho
   subst ho
   have e8 : a.tmps.getD 8 undef = .pointer (some ⟨w.heap.size, 1, none⟩) := hA ⟨5, .data⟩ (by simp) rfl
   have c1 := Keep.cell hK q1 id
   have c2 := Keep.cell hK q2 id
   refine Does.plain rfl ?_
   unfold yieldsK
   go_simp
   exact ⟨rfl, Keep.refl _ _⟩
  by_cases h7 : i = 7
  ·subst h7
   simp only [List.getElem?_toArray, List.getElem?_cons_zero, List.getElem?_cons_succ, Option.some.injEq] at ho
   subst ho
   have e9 : a.tmps.getD 9 undef = .agg #[.slice A na ca, .slice B nb cb] := hA ⟨6, .data⟩ (by simp) rfl
   refine Does.plain rfl ?_
   unfold yieldsK
   go_simp
   refine (passesSig_any 102 (.slice A na ca) (.slice B nb cb) w').mono ?_
   rintro e w2 ⟨u, rfl, h1, h2⟩
   exact ⟨_, rfl, h1, h2⟩
  by_cases h8 : i = 8
  ·subst h8
   simp only [List.getElem?_toArray, List.getElem?_cons_zero, List.getElem?_cons_succ, Option.some.injEq] at ho
   subst ho
   have e1 : a.tmps.getD 1 undef = .pointer (some ⟨w.heap.size, 0, none⟩) := hF.2.2 1 (.inl (by decide))
   refine Does.plain rfl ?_
   unfold yieldsK
   go_simp
   exact ⟨rfl, Keep.refl _ _⟩
  by_cases h9 : i = 9
  ·subst h9
   simp only [List.getElem?_toArray, List.getElem?_cons_zero, List.getElem?_cons_succ, Option.some.injEq] at ho
   subst ho
   have e11 : a.tmps.getD 11 undef = .pointer (some ⟨w.heap.size, 3, none⟩) := hA ⟨8, .data⟩ (by simp) rfl
   have c3 := Keep.cell hK q3 id
   refine Does.plain rfl ?_
   unfold yieldsK
   go_simp
   exact ⟨rfl, Keep.refl _ _⟩
  by_cases h10 : i = 10
  ·subst h10
   simp only [List.getElem?_toArray, List.getElem?_cons_zero, List.getElem?_cons_succ, Option.some.injEq] at ho
   subst ho
   have e12 : a.tmps.getD 12 undef = .slice L nl cl := hA ⟨9, .data⟩ (by simp) rfl
   refine Does.plain rfl ?_
   unfold yieldsK
   go_simp
   refine (taking_any L nl cl w').mono ?_
   rintro e w2 ⟨rfl, h2⟩
   exact ⟨_, rfl, rfl, h2⟩
  by_cases h11 : i = 11
  ·subst h11
   simp only [List.getElem?_toArray, List.getElem?_cons_zero, List.getElem?_cons_succ, Option.some.injEq] at ho
   subst ho
   have e13 : a.tmps.getD 13 undef = .agg #[.slice L nl cl, .slice none 0 0] := hA ⟨10, .data⟩ (by simp) rfl
   refine Does.plain rfl ?_
   unfold yieldsK
   go_simp
   refine (passesSig_any 102 (.slice L nl cl) (.slice none 0 0) w').mono ?_
   rintro e w2 ⟨u, rfl, h1, h2⟩
   exact ⟨_, rfl, h1, h2⟩
  by_cases h12 : i = 12
  ·subst h12
   simp only [List.getElem?_toArray, List.getElem?_cons_zero, List.getElem?_cons_succ, Option.some.injEq] at ho
   subst ho
   have e1 : a.tmps.getD 1 undef = .pointer (some ⟨w.heap.size, 0, none⟩) := hF.2.2 1 (.inl (by decide))
   refine Does.plain rfl ?_
   unfold yieldsK
   go_simp
   exact ⟨rfl, Keep.refl _ _⟩
  by_cases h13 : i = 13
  ·subst h13
   simp only [List.getElem?_toArray, List.getElem?_cons_zero, List.getElem?_cons_succ, Option.some.injEq] at ho
   subst ho
   have e15 : a.tmps.getD 15 undef = .pointer (some ⟨w.heap.size, 4, none⟩) := hA ⟨12, .data⟩ (by simp) rfl
   have c4 := Keep.cell hK q4 id
   refine Does.plain rfl ?_
   unfold yieldsK
   go_simp
   exact ⟨rfl, Keep.refl _ _⟩
  by_cases h14 : i = 14
  ·subst h14
   simp only [List.getElem?_toArray, List.getElem?_cons_zero, List.getElem?_cons_succ, Option.some.injEq] at ho
   subst ho
   have e16 : a.tmps.getD 16 undef = .slice D nd cd := hA ⟨13, .data⟩ (by simp) rfl
   refine Does.plain rfl ?_
   unfold yieldsK
   go_simp
   refine (passesBod_any 105 D nd cd w').mono ?_
   rintro e w2 ⟨u, rfl, h1, h2⟩
   exact ⟨_, rfl, h1, h2⟩
  by_cases h15 : i = 15
  ·subst h15
   simp only [List.getElem?_toArray, List.getElem?_cons_zero, List.getElem?_cons_succ, Option.some.injEq] at ho
   subst ho
   obtain ⟨c0, p0, e4, a0, b0⟩ := hA ⟨1, .data⟩ (by simp) rfl
   have e4 : a.tmps.getD 4 undef = askV 155 #[.pointer (some ⟨c0, 0, none⟩), .pointer (some ⟨p0, 0, none⟩)] := e4
   obtain ⟨c1, p1, e7, a1, b1⟩ := hA ⟨4, .data⟩ (by simp) rfl
   have e7 : a.tmps.getD 7 undef = askV 156 #[.pointer (some ⟨c1, 0, none⟩), .pointer (some ⟨p1, 0, none⟩)] := e7
   obtain ⟨c2, p2, e10, a2, b2⟩ := hA ⟨7, .data⟩ (by simp) rfl
   have e10 : a.tmps.getD 10 undef = askV 159 #[.pointer (some ⟨c2, 0, none⟩), .pointer (some ⟨p2, 0, none⟩)] := e10
   obtain ⟨c3, p3, e14, a3, b3⟩ := hA ⟨11, .data⟩ (by simp) rfl
   have e14 : a.tmps.getD 14 undef = askV 159 #[.pointer (some ⟨c3, 0, none⟩), .pointer (some ⟨p3, 0, none⟩)] := e14
   obtain ⟨c4, p4, e17, a4, b4⟩ := hA ⟨14, .data⟩ (by simp) rfl
   have e17 : a.tmps.getD 17 undef = askV 163 #[.pointer (some ⟨c4, 0, none⟩), .pointer (some ⟨p4, 0, none⟩)] := e17
   refine Does.plain rfl ?_
   unfold yieldsK
   unfold askV at *
   simp only [Array.getD_eq_getD_getElem?] at e4 e7 e10 e14 e17
   go_simp
   refine ⟨⟨w'.heap.size, _, _, _, _, _, rfl, Blk.new _ _ _, ⟨c0, p0, rfl, a0.alloc _, b0.alloc _⟩, ⟨c1, p1, rfl, a1.alloc _, b1.alloc _⟩, ⟨c2, p2, rfl, a2.alloc _, b2.alloc _⟩, ⟨c3, p3, rfl, a3.alloc _, b3.alloc _⟩, ⟨c4, p4, rfl, a4.alloc _, b4.alloc _⟩⟩, (Keep.refl _ _).alloc _⟩
  by_cases h16 : i = 16
  ·subst h16
   simp only [List.getElem?_toArray, List.getElem?_cons_zero, List.getElem?_cons_succ, Option.some.injEq] at ho
   subst ho
   obtain ⟨g, u0, u1, u2, u3, u4, e18, hb, a0, a1, a2, a3, a4⟩ := hA ⟨15, .data⟩ (by simp) rfl
   have e18 : a.tmps.getD 18 undef = .slice (some ⟨g, 0, none⟩) 5 5 := e18
   refine Does.plain rfl ?_
   unfold yieldsK
   go_simp
   refine (HE.out w' (HF.out.keepN hK) g u0 u1 u2 u3 u4 hb a0 a1 a2 a3 a4).mono ?_
   rintro e w2 ⟨rfl, h2⟩
   exact ⟨_, rfl, rfl, h2⟩
  by_cases h17 : i = 17
  ·subst h17
   simp only [List.getElem?_toArray, List.getElem?_cons_zero, List.getElem?_cons_succ, Option.some.injEq] at ho
   subst ho
   have e19 : a.tmps.getD 19 undef = .bool (okF f) := hA ⟨16, .data⟩ (by simp) rfl
   refine Does.plain rfl ?_
   unfold yieldsK
   go_simp
   exact ⟨rfl, Keep.refl _ _⟩
  omega
 case spec =>
  intro o a w' ho
  simp at ho
 case fin =>
  intro a w' hF gK hA
  have e20 : a.tmps.getD (3 + 17) undef = .bool (!okF f) := hA 17 (by decide)
  have ha := frame_fill (n := 18) hF (of_decide_eq_true rfl)
  rw [ha]
  rw [show List.range 18 = [0, 1, 2, 3, 4, 5, 6, 7, 8, 9, 10, 11, 12, 13, 14, 15, 16, 17] from rfl]
  simp only [List.map_cons, List.map_nil, e20]
  generalize a.tmps.getD (3 + 0) undef = u0
  generalize a.tmps.getD (3 + 1) undef = u1
  generalize a.tmps.getD (3 + 2) undef = u2
  generalize a.tmps.getD (3 + 3) undef = u3
  generalize a.tmps.getD (3 + 4) undef = u4
  generalize a.tmps.getD (3 + 5) undef = u5
  generalize a.tmps.getD (3 + 6) undef = u6
  generalize a.tmps.getD (3 + 7) undef = u7
  generalize a.tmps.getD (3 + 8) undef = u8
  generalize a.tmps.getD (3 + 9) undef = u9
  generalize a.tmps.getD (3 + 10) undef = u10
  generalize a.tmps.getD (3 + 11) undef = u11
  generalize a.tmps.getD (3 + 12) undef = u12
  generalize a.tmps.getD (3 + 13) undef = u13
  generalize a.tmps.getD (3 + 14) undef = u14
  generalize a.tmps.getD (3 + 15) undef = u15
  generalize a.tmps.getD (3 + 16) undef = u16
  simp only [fillT, List.setIfInBounds_toArray, List.set_cons_zero, List.set_cons_succ]
  have HR := Lib.hid (keepN k0 gK)
  clear gK k0 hA hF ha e20 HE HF HX q0 q1 q2 q3 q4
  cases ho : okF f
  ·obtain rfl : 70 = R := by rw [← hR.out]; exact (chkF_no ho).symm
   clear hR ho
   go_wp2
   go_ret
   exact ⟨rfl, HR.out⟩
  ·obtain rfl : 0 = R := by rw [← hR.out]; exact (chkF_ok ho).symm
   clear hR ho
   go_wp2
   go_ret
   exact ⟨rfl, HR.out⟩

end Go.Proofs.YtgnooffedmeenaaGreatDoor.F

namespace Go.Proofs.YtgnooffedmeenaaGreatDoor.I
open Go.RowKit W

def ndS (fs : List FE) : Nat := (fs.map fun e => e.1.nd).sum
theorem ndS_take {fs : List FE} {k : Nat} (h : k < fs.length) : ndS (fs.take (k + 1)) = ndS (fs.take k) + fs[k].1.nd := by
 unfold ndS; rw [List.take_succ_eq_append_getElem h, List.map_append, List.sum_append]; rfl
theorem blk2 {w : World} {g : Nat} {v : IV} (h : Blk w g 25 v.cells) : w.cell? ⟨g, 0, none⟩ = some (.slice v.X v.nx v.cx) ∧ w.cell? ⟨g, 1, none⟩ = some (.slice v.Y v.ny v.cy) := ⟨h.cell 0, h.cell 1⟩
structure LgI (v : IV) (es : List SE) (fs : List FE) : Prop where
 nx : v.nx ≤ 140737488355328
 ny : v.ny ≤ 140737488355328
 sh : ∀ e ∈ es, e.1.n ≤ 140737488355328
 fn : ∀ e ∈ fs, F.LgF e.1

set_option maxRecDepth 100000 in
set_option maxHeartbeats 4000000 in
theorem great_any (v : IV) (es : List SE) (fs : List FE) (w : World) (h : ImAt w v es fs) (hl : LgI v es fs) :
  Calls Tryz.prog 9 #[v.val] w fun e w' => ((e = .returned (.int .i64 0) ∧ SmI es fs ∧ ndS fs ≤ 5000) ∨ e = .returned (.int .i64 1)) ∧ Keep NoB w w' := by
 have bx := Blk.new w 25 v.cells
 have k0 := (Keep.refl NoB w).alloc (.cells v.cells 25)
 have HI := Lib.hid (h.keepN k0)
 obtain ⟨q0, q1⟩ := blk2 bx
 have hlx := h.lx
 have hly := h.ly
 have hx := hl.nx
 have hy := hl.ny
 have HS := Lib.hid hl.sh
 have HF := Lib.hid hl.fn
 have HB := Lib.hid bx
 obtain ⟨X, nx, cx, Y, ny, cy⟩ := v
 dsimp only [IV.val, IV.cells] at *
 clear h hl bx
 by_cases hg : nx ≤ 70
 ·by_cases hg2 : ny ≤ 70
  ·go_enter Tryz.func9, Tryz.ntmps9
   go_wp2
   go_loop [3] (fun i => ∃ k : Nat, k ≤ nx ∧ i = .int .i64 k ∧ Hid (∀ e ∈ es.take k, e.1.n ≤ 100)) (fun i => nx - (intOf i).toNat)
   case atStart => exact ⟨0, Nat.zero_le _, rfl, fun e h => by simp at h⟩
   case round =>
    obtain ⟨k, hk, rfl, hT⟩ := hrel
    by_cases hlt : k < nx
    ·have hke : k < es.length := by omega
     obtain ⟨g, off, rfl, c0⟩ := shape_at HI.out.rx hke
     have hL := HS.out _ (List.getElem_mem hke)
     have HT : Hid (es[k].1.n ≤ 100 → ∀ e ∈ es.take (k + 1), e.1.n ≤ 100) := fun h e he => by
      rw [List.take_succ_eq_append_getElem hke] at he
      rcases List.mem_append.1 he with he | he
      ·exact hT.out e he
      ·rw [List.mem_singleton.1 he]; exact h
     clear hT
     generalize es[k] = e at c0 hL HT
     obtain ⟨⟨A1, n1, d1⟩, l⟩ := e
     dsimp only [SV.val] at c0 hL HT
     by_cases h1 : n1 ≤ 100
     ·have HV := Lib.hid (HT.out h1)
      clear HT
      go_wp2
      go_round
      case rel => exact ⟨k + 1, by omega, by go_num, HV⟩
      case measure => simp [intOf]; omega
     ·clear HT
      go_wp2
      go_ret
      exact ⟨.inr rfl, k0⟩
    ·obtain rfl : k = nx := by omega
     have HV : Hid (∀ e ∈ es, e.1.n ≤ 100) := by show ∀ e ∈ es, e.1.n ≤ 100; rw [← List.take_of_length_le (l := es) (i := k) (by omega)]; exact hT.out
     clear hT hlt
     have hF := fun e he => HF.out e he
     go_wp2
     go_loopw [4, 5] (fun s i wr => ∃ j : Nat, j ≤ ny ∧ i = .int .i64 j ∧ s = .int .i64 (ndS (fs.take j) : Nat) ∧ ndS (fs.take j) ≤ 5000 ∧ Hid (∀ e ∈ fs.take j, F.SmF e.1) ∧ Keep NoB (w.alloc (.cells #[.slice X k cx, .slice Y ny cy] 25)) wr) (fun _ i _ => ny - (intOf i).toNat)
     case atStart => exact ⟨0, Nat.zero_le _, rfl, rfl, Nat.zero_le _, fun e h => by simp at h, Keep.refl _ _⟩
     case round =>
      obtain ⟨j, hj, rfl, rfl, hs5, hT, hK⟩ := hrel
      replace q1 := hK.cell q1 id
      by_cases hlt : j < ny
      ·have hje : j < fs.length := by omega
       obtain ⟨g, off, rfl, c0, c1, c2, c3, c4⟩ := fun_at (HI.out.keepN hK).ry hje
       have hL := hF _ (List.getElem_mem hje)
       have hnd := ndS_take hje
       have HT : Hid (F.SmF fs[j].1 → ∀ e ∈ fs.take (j + 1), F.SmF e.1) := fun h e he => by
        rw [List.take_succ_eq_append_getElem hje] at he
        rcases List.mem_append.1 he with he | he
        ·exact hT.out e he
        ·rw [List.mem_singleton.1 he]; exact h
       clear hT
       generalize fs[j] = e at c0 c1 c2 c3 c4 hL HT hnd
       obtain ⟨fv, f⟩ := e
       dsimp only at c0 c1 c2 c3 c4 hL HT hnd
       have hL4 := hL.nd
       clear hF HF HS hL
       generalize ndS (fs.take j) = N at *
       by_cases h1 : F.SmF fv
       ·have HG := Lib.hid (fun w => F.great_no fv w h1)
        have HV := Lib.hid (HT.out h1)
        clear HT h1
        obtain ⟨S1, A1, na1, ca1, B1, nb1, cb1, L1, nl1, cl1, D1, nd1, cd1⟩ := fv
        dsimp only [F.FV.val, F.FV.cells] at *
        by_cases h5 : N + nd1 ≤ 5000
        ·go_wp2_with fail
         refine (HG.out _).mono ?_
         rintro e w1 ⟨rfl, k1⟩
         have hK1 := keepN hK k1
         go_wp2
         go_roundw
         case rel => exact ⟨j + 1, by omega, by go_num, by rw [hnd]; go_num, by omega, HV, hK1⟩
         case measure => simp [intOf]; omega
        ·have h6 : (5000 : Int) < (N : Int) + (nd1 : Int) := by omega
         go_wp2_with fail
         refine (HG.out _).mono ?_
         rintro e w1 ⟨rfl, k1⟩
         have hK1 := keepN hK k1
         go_wp2
         go_ret
         exact ⟨.inr rfl, keepN k0 hK1⟩
       ·have HG := Lib.hid (fun w => F.great_yes fv w h1)
        clear HT h1
        obtain ⟨S1, A1, na1, ca1, B1, nb1, cb1, L1, nl1, cl1, D1, nd1, cd1⟩ := fv
        dsimp only [F.FV.val, F.FV.cells] at *
        go_wp2_with fail
        refine (HG.out _).mono ?_
        rintro e w1 ⟨rfl, k1⟩
        have hK1 := keepN hK k1
        go_wp2
        go_ret
        exact ⟨.inr rfl, keepN k0 hK1⟩
      ·obtain rfl : j = ny := by omega
       have hall : fs.take j = fs := List.take_of_length_le (by omega)
       rw [hall] at hs5 hT
       have HR : Hid (SmI es fs ∧ ndS fs ≤ 5000) := ⟨⟨by omega, by omega, HV.out, hT.out⟩, hs5⟩
       clear hF HF HS HV hT hs5
       go_wp2
       go_ret
       exact ⟨.inl ⟨rfl, HR.out.1, HR.out.2⟩, keepN k0 hK⟩
  ·have hd : decide ((70 : Int) < (ny : Int)) = true := by rw [decide_eq_true_iff]; omega
   go_enter Tryz.func9, Tryz.ntmps9
   go_wp2
   go_ret
   exact ⟨.inr rfl, k0⟩
 ·have hd : decide ((70 : Int) < (nx : Int)) = true := by rw [decide_eq_true_iff]; omega
  go_enter Tryz.func9, Tryz.ntmps9
  go_wp2
  go_ret
  exact ⟨.inr rfl, k0⟩

end Go.Proofs.YtgnooffedmeenaaGreatDoor.I

namespace Go.Proofs.YtgnooffedmeenaaGreatDoor.M.L
open Go.RowKit W

structure SH where
 v : I.IV
 m : Option Nat
 og : Nat
 ob : Array Value
 bg : Nat
 bb : Array Value
def SH.cells (s : SH) : Array Value := #[.slice s.v.X s.v.nx s.v.cx, .slice s.v.Y s.v.ny s.v.cy, .map s.m, .func (.func s.og) #[] s.ob, .func (.func s.bg) #[] s.bb]
def SH.val (s : SH) : Value := .agg s.cells
def lnC (l : Ln4) : Array Value := #[.int .i64 (l.1 : Int), .int .i64 (l.2.1 : Int), .int .i64 (l.2.2.1 : Int), .int .i64 (l.2.2.2 : Int)]
def lbN (p : I.Im) (k i : Nat) : Option Nat := (p.fn[k]?).bind fun f => (tgs f.bd).findIdx? fun j => decide (j = i)
def labF (p : I.Im) (x y : Int) : Option Nat := if 0 ≤ x ∧ 0 ≤ y then lbN p x.toNat y.toNat else none
theorem lb_lbN (p : I.Im) (k i : Nat) : LBp p k i = (lbN p k i).map fun n => lbl ((n : Nat) : Int) := by
 unfold LBp lbN labA
 cases p.fn[k]? <;> rfl
theorem labF_nat (p : I.Im) (k i : Nat) : labF p (k : Int) (i : Int) = lbN p k i := by unfold labF; rw [if_pos (by omega)]; simp
theorem labB_lbN (p : I.Im) (k i : Nat) : labB p k i = (lbN p k i).isSome := by unfold labB; rw [lb_lbN]; cases lbN p k i <;> rfl
theorem lbN_lt {p : I.Im} {k i n : Nat} (h : lbN p k i = some n) : ∃ f, p.fn[k]? = some f ∧ n < (tgs f.bd).length ∧ (tgs f.bd)[n]? = some i := by
 unfold lbN at h
 cases hf : p.fn[k]? with
 | none => rw [hf] at h; cases h
 | some f =>
  rw [hf] at h
  have h : (tgs f.bd).findIdx? (fun j => decide (j = i)) = some n := h
  rw [List.findIdx?_eq_some_iff_getElem] at h
  obtain ⟨hn, h1, _⟩ := h
  exact ⟨f, rfl, hn, by rw [List.getElem?_eq_getElem hn, of_decide_eq_true h1]⟩

/-! ### Keys of labels -/

theorem spot_row : (82 : TypeId) < Tryz.prog.types.size := of_decide_eq_true (by kernel_rfl)
theorem spot_wide : (match Tryz.prog.underlying 82 with | some (.array _ _) | some (.struct _) => true | _ => false) = true := by kernel_rfl
theorem spot_laid : laidOutB Tryz.prog = true := by kernel_rfl
set_option maxRecDepth 100000 in
theorem spot_deep : Tryz.prog.keyTypeAt 3 82 = true := by kernel_rfl
set_option maxRecDepth 100000 in
theorem spot_law : WideMaps.KeyLaw Tryz.prog 82 := deep_law_laid spot_laid (m := 3) (by omega) spot_row spot_deep spot_wide
theorem spot_keyed : Maps.Keyed Tryz.prog 82 := Maps.Keyed.of_law spot_law
theorem spot_size : ∃ m, Tryz.prog.types.size = m + 1 := by
 have h1 := spot_row
 cases h : Tryz.prog.types.size with
 | zero => rw [h] at h1; exact absurd h1 (Nat.not_lt_zero _)
 | succ m => exact ⟨m, rfl⟩
theorem spot_type : Tryz.prog.keyType 82 = true := by kernel_rfl
theorem spot_formed (x y : Int) : (pairV x y).formed Tryz.prog 82 = true := by
 unfold pairV
 have h : Tryz.prog.cellsOf 82 = 2 := by kernel_rfl
 have h2 : ∃ fs, Tryz.prog.underlying 82 = some (.struct fs) := ⟨_, Tryz.underlying82⟩
 obtain ⟨fs, h2⟩ := h2
 simp [Value.formed, h2, h]
theorem spot_lits (x y : Int) (hx : (Lit.int .i64 x).wf = true) (hy : (Lit.int .i64 y).wf = true) : ∃ ls, Tryz.prog.keyLits (Tryz.prog.types.size + 1) 82 [.int .i64 x, .int .i64 y] = some ls := by
 obtain ⟨m, hm⟩ := spot_size
 rw [hm]
 refine ⟨[.int .i64 x, .int .i64 y], ?_⟩
 have hc : Tryz.prog.cellsOf 82 = 2 := by kernel_rfl
 have hi : Tryz.prog.cellsOf 3 = 1 := by kernel_rfl
 unfold Program.keyLits
 simp only [Tryz.underlying82]
 rw [if_pos (by refine ⟨by rw [hc]; rfl, by kernel_rfl⟩)]
 simp [Program.keyLits, Tryz.underlying3, hi, hx, hy]
theorem spot_key : PairKey Tryz.prog 82 := pairKey_of spot_keyed fun x y hx hy => by
 obtain ⟨ls, hls⟩ := spot_lits x y hx hy
 refine ⟨.string (keyBytes ls), ?_⟩
 have hf := spot_formed x y
 unfold keyOf
 simp only [Tryz.underlying82]
 rw [if_pos (by rw [spot_type, hf]; rfl)]
 show Option.map _ (Tryz.prog.keyLits (Tryz.prog.types.size + 1) 82 [.int .i64 x, .int .i64 y]) = _
 rw [hls]
 rfl
theorem int_zero (w : World) : (zeroValue 3).run Tryz.prog w = .ok (.int .i64 0) w := by kernel_rfl
theorem wf_small {h : Int} (h0 : 0 ≤ h) (h1 : h ≤ 100000) : (Lit.int .i64 h).wf = true := WalkArith.wf_i64 (by omega)
abbrev PM (b n : Nat) (f : Int → Int → Option Nat) (w : World) : Prop := PMap Tryz.prog 82 3 b n f w
theorem pm_look {b n : Nat} {f : Int → Int → Option Nat} {w : World} (h : PM b n f w) (k i : Nat) (hk : k ≤ 100000) (hi : i ≤ 100000) :
  (Instr.lookup 69 (.map (some b)) (.agg #[.int .i64 (k : Int), .int .i64 (i : Int)]) false).run Tryz.prog w = .ok (.int .i64 (((f k i).getD 0 : Nat) : Int)) w :=
 h.look spot_key Tryz.underlying69 Tryz.underlying3 (int_zero w) k i (wf_small (by omega) (by omega)) (wf_small (by omega) (by omega))
theorem pm_look_ok {b n : Nat} {f : Int → Int → Option Nat} {w : World} (h : PM b n f w) (k i : Nat) (hk : k ≤ 100000) (hi : i ≤ 100000) :
  (Instr.lookup 69 (.map (some b)) (.agg #[.int .i64 (k : Int), .int .i64 (i : Int)]) true).run Tryz.prog w = .ok (.tuple #[.int .i64 (((f k i).getD 0 : Nat) : Int), .bool (f k i).isSome]) w :=
 h.look_ok spot_key Tryz.underlying69 Tryz.underlying3 (int_zero w) k i (wf_small (by omega) (by omega)) (wf_small (by omega) (by omega))
theorem nil_look_ok (w : World) (k i : Nat) (hk : k ≤ 100000) (hi : i ≤ 100000) :
  (Instr.lookup 69 (.map none) (.agg #[.int .i64 (k : Int), .int .i64 (i : Int)]) true).run Tryz.prog w = .ok (.tuple #[.int .i64 0, .bool false]) w :=
 pair_nil spot_key Tryz.underlying69 (int_zero w) k i (wf_small (by omega) (by omega)) (wf_small (by omega) (by omega))
theorem pm_put {b n : Nat} {f : Int → Int → Option Nat} {w : World} (h : PM b n f w) (hn : n < maxLen) (k i v : Nat) (hk : k ≤ 100000) (hi : i ≤ 100000) (hv : v ≤ 100000) :
  ∃ w', (Instr.mapUpdate 69 (.map (some b)) (.agg #[.int .i64 (k : Int), .int .i64 (i : Int)]) (.int .i64 (v : Int))).run Tryz.prog w = .ok () w' ∧ PM b (n + 1) (setP f k i v) w' ∧ w.grownBy w' (some b) :=
 h.update spot_key Tryz.underlying69 Tryz.underlying3 hn k i v (wf_small (by omega) (by omega)) (wf_small (by omega) (by omega)) (wf_small (by omega) (by omega))

def LabAt (m : Option Nat) (lab : Nat → Nat → Bool) (W : World) : Prop := match m with
 | none => lab = lab0
 | some b => ∃ n f, PM b n f W ∧ ∀ k i : Nat, lab k i = (f (k : Int) (i : Int)).isSome
theorem LabAt.look {m : Option Nat} {lab : Nat → Nat → Bool} {W : World} (h : LabAt m lab W) (k i : Nat) (hk : k ≤ 100000) (hi : i ≤ 100000) :
  ∃ n : Nat, (Instr.lookup 69 (.map m) (.agg #[.int .i64 (k : Int), .int .i64 (i : Int)]) true).run Tryz.prog W = .ok (.tuple #[.int .i64 (n : Int), .bool (lab k i)]) W := by
 cases m with
 | none =>
  have h : lab = lab0 := h
  subst h
  exact ⟨0, nil_look_ok W k i hk hi⟩
 | some b =>
  obtain ⟨n, f, h1, h2⟩ := h
  rw [h2]
  exact ⟨_, pm_look_ok h1 k i hk hi⟩
theorem LabAt.keep {O : Nat → Prop} {m : Option Nat} {lab : Nat → Nat → Bool} {W W' : World} (h : LabAt m lab W) (hk : Keep O W W') (hm : ∀ b, m = some b → ¬ O b) : LabAt m lab W' := by
 cases m with
 | none => exact h
 | some b =>
  obtain ⟨n, f, h1, h2⟩ := h
  exact ⟨n, f, h1.keep hk (hm b rfl), h2⟩

end Go.Proofs.YtgnooffedmeenaaGreatDoor.M.L

namespace Go.Proofs.YtgnooffedmeenaaGreatDoor.M
open Go.RowKit W I

end Go.Proofs.YtgnooffedmeenaaGreatDoor.M

namespace Go.Proofs.YtgnooffedmeenaaGreatDoor.M
open Go

end Go.Proofs.YtgnooffedmeenaaGreatDoor.M

namespace Go.Proofs.YtgnooffedmeenaaGreatDoor.M
open Go.RowKit Go.Shelf W

end Go.Proofs.YtgnooffedmeenaaGreatDoor.M

namespace Go.Proofs.YtgnooffedmeenaaGreatDoor.M
open Go.RowKit Go.Shelf W

section
variable {P : Program} {n : Nat}
end

end Go.Proofs.YtgnooffedmeenaaGreatDoor.M

namespace Go.Proofs.YtgnooffedmeenaaGreatDoor.F
open Go.RowKit W

end Go.Proofs.YtgnooffedmeenaaGreatDoor.F

namespace Go.Proofs.YtgnooffedmeenaaGreatDoor.I
open Go.RowKit W

end Go.Proofs.YtgnooffedmeenaaGreatDoor.I

namespace Go.Proofs.YtgnooffedmeenaaGreatDoor.W
open Go.RowKit

/-! ### guess, Read -/

end Go.Proofs.YtgnooffedmeenaaGreatDoor.W

namespace Go.Proofs.YtgnooffedmeenaaGreatDoor.O
open Go.RowKit

def CutAt (w : World) : Prop := ∃ m, w.cell? ⟨0, 0, none⟩ = some (.int .i64 m)
theorem CutAt.keep {w w' : World} (h : CutAt w) (hk : Keep NoB w w') : CutAt w' := by
 obtain ⟨m, hm⟩ := h
 exact ⟨m, hk.cell hm id⟩
/-! ### guess -/
end Go.Proofs.YtgnooffedmeenaaGreatDoor.O

namespace Go.Proofs.YtgnooffedmeenaaGreatDoor.M
open Go.RowKit W

end Go.Proofs.YtgnooffedmeenaaGreatDoor.M

namespace Go.Proofs.YtgnooffedmeenaaGreatDoor.M
open Go.RowKit Go.Shelf W

end Go.Proofs.YtgnooffedmeenaaGreatDoor.M

namespace Go.Proofs.YtgnooffedmeenaaGreatDoor.M
open Go.RowKit Go.Shelf W
attribute [local go_sem] Oper.semAt_some

end Go.Proofs.YtgnooffedmeenaaGreatDoor.M

namespace Go.Proofs.YtgnooffedmeenaaGreatDoor
open Go.RowKit
section
variable {P : Program} {md : Region.Mode} {ops : Array Oper}

def lateG (md : Region.Mode) (ops : Array Oper) (c : Nat) (late : Nat → Bool) : Bool := (List.range ops.size).all fun i => match ops[i]? with
 | none => false
 | some o => !late i || (i == c || o.after.any fun e => Region.binds md e && (e.on == c || late e.on))
theorem lateG_at {c : Nat} {late : Nat → Bool} (h : lateG md ops c late = true) {i : Nat} {o : Oper} (ho : ops[i]? = some o) (hl : late i = true) (hc : i ≠ c) : ∃ e ∈ o.after, Region.binds md e = true ∧ (e.on = c ∨ late e.on = true) := by
 have hi := (Array.getElem?_eq_some_iff.1 ho).1
 have h1 := List.all_eq_true.1 h i (List.mem_range.2 hi)
 simp only [ho, hl, Bool.not_true, Bool.false_or, Bool.or_eq_true, beq_iff_eq] at h1
 rcases h1 with h1 | h1
 ·exact absurd h1 hc
 ·obtain ⟨j, hj, h2⟩ := Array.any_eq_true.1 h1
  simp only [Bool.and_eq_true, Bool.or_eq_true, beq_iff_eq] at h2
  exact ⟨o.after[j], Array.getElem_mem hj, h2.1, h2.2⟩

end
end Go.Proofs.YtgnooffedmeenaaGreatDoor

namespace Go.Proofs.YtgnooffedmeenaaGreatDoor
open Go.RowKit
section
variable {P : Program} {md : Region.Mode} {ops : Array Oper}

def FrameD (a0 : Act) (ds : Nat → Nat) (n : Nat) (a : Act) : Prop := a.defers = a0.defers ∧ a.tmps.size = a0.tmps.size ∧ ∀ s, (∀ i, i < n → s ≠ ds i) → a.tmps.getD s undef = a0.tmps.getD s undef
def fitsD (ops : Array Oper) (ds : Nat → Nat) (n : Nat) : Bool := (List.range ops.size).all fun i => ((ops[i]?).bind (·.dst)).isNone || decide (ds i < n)
theorem fitsD_at {ds : Nat → Nat} {n : Nat} (h : fitsD ops ds n = true) {i : Nat} {o : Oper} (ho : ops[i]? = some o) {d : Nat} (hd : o.dst = some d) : ds i < n := by
 have hi := (Array.getElem?_eq_some_iff.1 ho).1
 have h1 := List.all_eq_true.1 h i (List.mem_range.2 hi)
 simpa [ho, hd] using h1
def fillD (t : Array Value) : List (Nat × Value) → Array Value
 | [] => t
 | x :: vs => fillD (t.setIfInBounds x.1 x.2) vs
theorem fillD_size : ∀ (vs : List (Nat × Value)) (t : Array Value), (fillD t vs).size = t.size
 | [], _ => rfl
 | x :: vs, t => by rw [fillD, fillD_size vs]; simp
theorem fillD_get : ∀ (vs : List (Nat × Value)) (t u : Array Value) (s : Nat), t.size = u.size → (∀ x ∈ vs, x.2 = u.getD x.1 undef) → ((∃ x ∈ vs, x.1 = s) ∨ t.getD s undef = u.getD s undef) → (fillD t vs).getD s undef = u.getD s undef
 | [], _, _, _, _, _, h => by
  rcases h with ⟨x, hx, _⟩ | h
  ·cases hx
  ·exact h
 | x :: vs, t, u, s, hz, hv, h => by
  rw [fillD]
  refine fillD_get vs _ u s (by simpa using hz) (fun y hy => hv y (List.mem_cons_of_mem _ hy)) ?_
  by_cases e : x.1 = s
  ·refine .inr ?_
   have h1 := hv x List.mem_cons_self
   by_cases hs : s < t.size
   ·rw [h1, e]
    have hs2 : s < u.size := by omega
    simp [hs]
   ·have hs2 : ¬ s < u.size := by omega
    simp [hs, hs2]
  ·rcases h with ⟨y, hy, hye⟩ | h
   ·rcases List.mem_cons.1 hy with rfl | hy
    ·exact absurd hye e
    ·exact .inl ⟨y, hy, hye⟩
   ·refine .inr ?_
    simp only [Array.getD_eq_getD_getElem?, Array.getElem?_setIfInBounds] at h ⊢
    rw [if_neg e]; exact h
theorem frameD_fill {a0 a : Act} {ds : Nat → Nat} {n : Nat} (h : FrameD a0 ds n a) : a = { tmps := fillD a0.tmps ((List.range n).map fun i => (ds i, a.tmps.getD (ds i) undef)), defers := a0.defers } := by
 obtain ⟨h1, h2, h3⟩ := h
 have e : a.tmps = fillD a0.tmps ((List.range n).map fun i => (ds i, a.tmps.getD (ds i) undef)) := by
  apply Array.ext
  ·rw [fillD_size, h2]
  ·intro s hs1 hs2
   have := fillD_get ((List.range n).map fun i => (ds i, a.tmps.getD (ds i) undef)) a0.tmps a.tmps s h2.symm (fun x hx => by
    obtain ⟨i, _, rfl⟩ := List.mem_map.1 hx; rfl) (by
    by_cases hc : ∃ i, i < n ∧ ds i = s
    ·obtain ⟨i, hi, hie⟩ := hc
     exact .inl ⟨_, List.mem_map.2 ⟨i, List.mem_range.2 hi, rfl⟩, hie⟩
    ·exact .inr (h3 s (fun i hi e => hc ⟨i, hi, e.symm⟩)).symm)
   rw [Array.getD_eq_getD_getElem?, Array.getD_eq_getD_getElem?, Array.getElem?_eq_getElem hs2, Array.getElem?_eq_getElem hs1] at this
   simpa using this.symm
 cases a
 simp only at h1 e
 rw [h1, ← e]

theorem frameD_list {a0 a : Act} {l : List Nat} {n : Nat} (hn : n = l.length) (h : FrameD a0 (fun i => l.getD i 0) n a) : a = { tmps := fillD a0.tmps (l.map fun d => (d, a.tmps.getD d undef)), defers := a0.defers } := by
 subst hn
 have h1 := frameD_fill h
 have e : ((List.range l.length).map fun i => (l.getD i 0, a.tmps.getD (l.getD i 0) undef)) = l.map fun d => (d, a.tmps.getD d undef) := by
  apply List.ext_getElem?
  intro i
  by_cases hi : i < l.length
  ·rw [List.getElem?_map, List.getElem?_range hi, List.getElem?_map, List.getElem?_eq_getElem hi]
   simp [List.getD, List.getElem?_eq_getElem hi]
  ·rw [List.getElem?_eq_none (by simp; omega), List.getElem?_eq_none (by simp; omega)]
 rw [e] at h1
 exact h1

end
end Go.Proofs.YtgnooffedmeenaaGreatDoor

namespace Go.Proofs.YtgnooffedmeenaaGreatDoor
open Go.RowKit
section
variable {P : Program} {md : Region.Mode} {ops : Array Oper}

def allBehind (md : Region.Mode) (ops : Array Oper) (j : Nat) : Bool := (List.range j).all fun i => (List.range (j + 1)).any fun k => decide (i < k) && match ops[k]? with
 | none => false
 | some o => o.after.any fun e => Region.binds md e && e.on == i
def tailG (md : Region.Mode) (ops : Array Oper) (m : Nat) : Bool := (List.range ops.size).all fun j => decide (j < m) || allBehind md ops j
def headG (ops : Array Oper) (ds : Nat → Nat) (m : Nat) : Bool := (List.range m).all fun i => match ops[i]? with
 | none => false
 | some o => o.dst == some (ds i) && ((o.after.all fun e => decide (e.on < i)) && (List.range m).all fun j => i == j || !(ds i == ds j))
def onlyB (ops : Array Oper) : Bool := (List.range ops.size).all fun i => match ops[i]? with
 | none => false
 | some o => o.after.all fun e => decide (e.on < i)
theorem onlyB_at (h : onlyB ops = true) {i : Nat} {o : Oper} (ho : ops[i]? = some o) : ∀ e ∈ o.after, e.on < i := by
 have hi := (Array.getElem?_eq_some_iff.1 ho).1
 have h1 := List.all_eq_true.1 h i (List.mem_range.2 hi)
 simp only [ho] at h1
 intro e he
 have := Array.all_eq_true_iff_forall_mem.1 h1 e he
 simpa using this
theorem headG_at {ds : Nat → Nat} {m : Nat} (h : headG ops ds m = true) {i : Nat} (hi : i < m) {o : Oper} (ho : ops[i]? = some o) : o.dst = some (ds i) ∧ ∀ j, j < m → j ≠ i → ds j ≠ ds i := by
 have h1 := List.all_eq_true.1 h i (List.mem_range.2 hi)
 simp only [ho, Bool.and_eq_true] at h1
 obtain ⟨h1, _, h4⟩ := h1
 refine ⟨by simpa using h1, fun j hj hne e => ?_⟩
 have h5 := List.all_eq_true.1 h4 j (List.mem_range.2 hj)
 rw [e] at h5
 simp at h5
 exact hne h5.symm
def Closed (md : Region.Mode) (ops : Array Oper) (listed : Array Bool) : Prop := ∀ k o, ops[k]? = some o → listed.getD k true = true → ∀ e ∈ o.after, Region.binds md e = true → listed.getD e.on true = true
theorem behind_all {j : Nat} (h : allBehind md ops j = true) {listed : Array Bool} (hC : Closed md ops listed) {o : Oper} (ho : ops[j]? = some o) (hr : ∀ e ∈ o.after, Region.binds md e = true → listed.getD e.on true = true) : ∀ i, i < j → listed.getD i true = true := by
 have key : ∀ d i, i + d = j → 0 < d → listed.getD i true = true := by
  intro d
  induction d using Nat.strongRecOn with
  | ind d ih =>
   intro i hd h0
   have h1 := List.all_eq_true.1 h i (List.mem_range.2 (by omega))
   obtain ⟨k, hk, h2⟩ := List.any_eq_true.1 h1
   have hk' := List.mem_range.1 hk
   simp only [Bool.and_eq_true, decide_eq_true_eq] at h2
   obtain ⟨hik, h3⟩ := h2
   cases hok : ops[k]? with
   | none => rw [hok] at h3; cases h3
   | some q =>
    rw [hok] at h3
    obtain ⟨x, hx, h4⟩ := Array.any_eq_true.1 h3
    simp only [Bool.and_eq_true, beq_iff_eq] at h4
    obtain ⟨hb, hon⟩ := h4
    by_cases e : k = j
    ·subst e
     rw [ho] at hok
     injection hok with hok
     subst hok
     have := hr _ (Array.getElem_mem hx) hb
     rw [hon] at this; exact this
    ·have hk2 := ih (j - k) (by omega) k (by omega) (by omega)
     have := hC k q hok hk2 _ (Array.getElem_mem hx) hb
     rw [hon] at this; exact this
 intro i hi
 exact key (j - i) i (by omega) (by omega)
theorem getD_set_self {listed : Array Bool} {i : Nat} (h : i < listed.size) : (listed.setIfInBounds i true).getD i true = true := by simp [h]
theorem getD_set_up {listed : Array Bool} {i n : Nat} (h : listed.getD n true = true) : (listed.setIfInBounds i true).getD n true = true := by
 by_cases e : i = n
 ·subst e
  by_cases h5 : i < listed.size
  ·simp [h5]
  ·simp [h5]
 ·rw [getD_set_ne true e]; exact h
theorem closed_set {listed : Array Bool} (hC : Closed md ops listed) {i : Nat} {o : Oper} (ho : ops[i]? = some o) (hr : ∀ e ∈ o.after, Region.binds md e = true → listed.getD e.on true = true) : Closed md ops (listed.setIfInBounds i true) := by
 intro k q hq hl e he hb
 by_cases ek : k = i
 ·subst ek
  rw [ho] at hq
  injection hq with hq
  subst hq
  exact getD_set_up (hr e he hb)
 ·rw [getD_set_ne true (Ne.symm ek)] at hl
  exact getD_set_up (hC k q hq hl e he hb)
theorem ready_getD {listed : Array Bool} (hB : onlyB ops = true) (hs : listed.size = ops.size) {i : Nat} {o : Oper} (ho : ops[i]? = some o) (hall : ∀ e ∈ o.after, Region.binds md e = true → listed.getD e.on false = true) : ∀ e ∈ o.after, Region.binds md e = true → listed.getD e.on true = true := by
 intro e he hb
 have h2 := hall e he hb
 have h3 := onlyB_at hB ho e he
 have h5 := (Array.getElem?_eq_some_iff.1 ho).1
 have h4 : e.on < listed.size := by omega
 simpa [h4] using h2

theorem wpAny_chain {Q : Exit → Act → World → Prop} {m : Nat} (hB : onlyB ops = true) (hT : tailG md ops m = true) : ∀ (fuel j : Nat) (listed : Array Bool) (a : Act) (w : World), m ≤ j → listed.size = ops.size → ops.size ≤ j + fuel → Closed md ops listed →
  (∀ i, i < j → listed.getD i true = true) → (∀ i, j ≤ i → i < ops.size → listed.getD i true = false) → wpList P ops Q (ops.toList.drop j) a w → wpAny P md ops Q fuel listed a w := by
 intro fuel
 induction fuel with
 | zero =>
  intro j listed a w hm hs hf hC h1 h2 h
  rw [List.drop_eq_nil_of_le (by simpa using hf)] at h
  refine ⟨?_, h⟩
  rw [List.eq_nil_iff_forall_not_mem]
  intro i hi
  obtain ⟨hl, o, ho, _⟩ := mem_ready.1 hi
  rw [h1 i (by have := (Array.getElem?_eq_some_iff.1 ho).1; omega)] at hl; cases hl
 | succ fuel ih =>
  intro j listed a w hm hs hf hC h1 h2 h
  refine ⟨fun h0 => ?_, fun i hi => ?_⟩
  ·by_cases hj : j < ops.size
   ·have ho : ops[j]? = some ops[j] := Array.getElem?_eq_getElem hj
    have : j ∈ Region.ready md ops listed := mem_ready.2 ⟨h2 j (Nat.le_refl _) hj, ops[j], ho, fun e he _ => by
     have h3 := onlyB_at hB ho e he
     have h4 := h1 e.on h3
     have h5 : e.on < listed.size := by omega
     simpa [h5] using h4⟩
    rw [h0] at this; cases this
   ·rw [List.drop_eq_nil_of_le (by simpa using hj)] at h
    exact h
  ·obtain ⟨hl, o, ho, hall⟩ := mem_ready.1 hi
   have hi' := (Array.getElem?_eq_some_iff.1 ho).1
   have hr := ready_getD (listed := listed) hB hs ho (fun e he hb => hall e he hb)
   have hji : j ≤ i := by
    rcases Nat.lt_or_ge i j with h5 | h5
    ·rw [h1 i h5] at hl; cases hl
    ·exact h5
   have hb := List.all_eq_true.1 hT i (List.mem_range.2 hi')
   simp only [Bool.or_eq_true, decide_eq_true_eq] at hb
   have hb : allBehind md ops i = true := hb.resolve_left (by omega)
   have hlt := behind_all hb hC ho hr
   obtain rfl : i = j := by
    rcases Nat.lt_or_eq_of_le hji with h5 | h5
    ·have := hlt j h5
     rw [h2 j (Nat.le_refl _) (by omega)] at this; cases this
    ·exact h5.symm
   have hd : ops.toList.drop i = o :: ops.toList.drop (i + 1) := by
    have hi2 : i < ops.toList.length := by simpa using hi'
    rw [List.drop_eq_getElem_cons hi2]
    congr 1
    have := (Array.getElem?_eq_some_iff.1 ho).2
    simpa using this
   rw [hd] at h
   have hK : ∀ (a' : Act) (w' : World), wpList P ops Q (ops.toList.drop (i + 1)) a' w' → wpAny P md ops Q fuel (listed.setIfInBounds i true) a' w' := fun a' w' h' =>
    ih (i + 1) _ a' w' (by omega) (by simpa using hs) (by omega) (closed_set hC ho hr) (fun k hk => by
     rcases Nat.lt_succ_iff_lt_or_eq.1 hk with h5 | rfl
     ·exact getD_set_up (h1 k h5)
     ·exact getD_set_self (by omega)) (fun k hk1 hk2 => by rw [getD_set_ne true (by omega)]; exact h2 k (by omega) hk2) h'
   unfold wpOp
   simp only [ho]
   unfold wpList at h
   split
   ·rename_i hw
    rw [if_pos hw] at h
    rcases h with h | h
    ·exact .inl (Oper.wp_mono hK h)
    ·exact .inr h
   ·rename_i hw
    rw [if_neg hw] at h
    exact hK _ _ h

theorem wpAny_tail {Q : Exit → Act → World → Prop} (ds : Nat → Nat) (m : Nat) (hm : m ≤ ops.size) (hO : onlyB ops = true) (hB : headG ops ds m = true) (hT : tailG md ops m = true) (S : Nat → Value → World → Prop) (hS : ∀ i v w w', S i v w → Keep NoB w w' → S i v w') (w0 : World) (a0 : Act) (hsz : fitsD ops ds a0.tmps.size = true)
  (hstep : ∀ i o (a : Act) (w : World), ops[i]? = some o → i < m → FrameD a0 ds m a → Keep NoB w0 w → (∀ e ∈ o.after, Region.binds md e = true → S e.on (a.tmps.getD (ds e.on) undef) w) → Does P ops o a w fun u w' => S i u w' ∧ Keep NoB w w')
  (hend : ∀ (a : Act) (w : World), FrameD a0 ds m a → Keep NoB w0 w → (∀ i, i < m → S i (a.tmps.getD (ds i) undef) w) → wpList P ops Q (ops.toList.drop m) a w) :
  ∀ (fuel : Nat) (listed : Array Bool) (a : Act) (w : World), listed.size = ops.size → (∃ L : List Nat, L.length + (ops.size - m) ≤ fuel ∧ ∀ i, i < m → listed.getD i true = false → i ∈ L) → Closed md ops listed → (∀ i, m ≤ i → i < ops.size → listed.getD i true = false) → FrameD a0 ds m a → Keep NoB w0 w →
   (∀ i, i < m → listed.getD i true = true → S i (a.tmps.getD (ds i) undef) w) → wpAny P md ops Q fuel listed a w := by
 intro fuel
 induction fuel with
 | zero =>
  intro listed a w hs ⟨L, hL, hin⟩ hC hN hF hK hA
  have hall : ∀ i, i < m → listed.getD i true = true := fun i hi => by
   cases h : listed.getD i true
   ·have := hin i hi h
    rw [List.length_eq_zero_iff.1 (by omega : L.length = 0)] at this; cases this
   ·rfl
  exact wpAny_chain hO hT 0 m listed a w (Nat.le_refl _) hs (by omega) hC hall hN (hend a w hF hK fun i hi => hA i hi (hall i hi))
 | succ fuel ih =>
  intro listed a w hs ⟨L, hL, hin⟩ hC hN hF hK hA
  by_cases hdone : ∀ i, i < m → listed.getD i true = true
  ·exact wpAny_chain hO hT (fuel + 1) m listed a w (Nat.le_refl _) hs (by omega) hC hdone hN (hend a w hF hK fun i hi => hA i hi (hdone i hi))
  refine ⟨fun h0 => ?_, fun i hi => ?_⟩
  ·refine absurd (fun i => ?_) hdone
   induction i using Nat.strongRecOn with
   | ind i ih2 =>
    intro hi
    cases hl : listed.getD i true
    ·have hio : i < ops.size := by omega
     have ho : ops[i]? = some ops[i] := Array.getElem?_eq_getElem hio
     have : i ∈ Region.ready md ops listed := mem_ready.2 ⟨hl, ops[i], ho, fun e he _ => by
      have h3 := onlyB_at hO ho e he
      have h4 := ih2 e.on h3 (by omega)
      have h5 : e.on < listed.size := by omega
      simpa [h5] using h4⟩
     rw [h0] at this; cases this
    ·rfl
  ·obtain ⟨h1, o, ho, hall⟩ := mem_ready.1 hi
   have hi' := (Array.getElem?_eq_some_iff.1 ho).1
   have hr := ready_getD (listed := listed) hO hs ho (fun e he hb => hall e he hb)
   have him : i < m := by
    rcases Nat.lt_or_ge i m with h5 | h5
    ·exact h5
    ·have hb := List.all_eq_true.1 hT i (List.mem_range.2 hi')
     simp only [Bool.or_eq_true, decide_eq_true_eq] at hb
     have hb : allBehind md ops i = true := hb.resolve_left (by omega)
     exact absurd (fun k hk => behind_all hb hC ho hr k (by omega)) hdone
   obtain ⟨hd, hdis⟩ := headG_at hB him ho
   have hdoes := hstep i o a w ho him hF hK fun e he hb => hA e.on (by have := onlyB_at hO ho e he; omega) (hr e he hb)
   have hnext : ∀ u w', S i u w' → Keep NoB w w' → wpAny P md ops Q fuel (listed.setIfInBounds i true) (a.put o.dst u) w' := by
    intro u w' hSu hk
    rw [hd]
    have hds : ds i < a.tmps.size := by rw [hF.2.1]; exact fitsD_at hsz ho hd
    have hget : ∀ s, (a.put (some (ds i)) u).tmps.getD s undef = if s = ds i then u else a.tmps.getD s undef := fun s => by
     unfold Act.put
     by_cases e : s = ds i
     ·subst e; simp [hds]
     ·rw [if_neg e]
      simp only [Array.getD_eq_getD_getElem?, Array.getElem?_setIfInBounds]
      rw [if_neg (fun h => e h.symm)]
    refine ih (listed.setIfInBounds i true) _ w' (by simpa using hs) ⟨L.erase i, ?_, fun k hk' hl => ?_⟩ (closed_set hC ho hr) (fun k hk1 hk2 => by rw [getD_set_ne true (by omega)]; exact hN k hk1 hk2) ⟨hF.1, by unfold Act.put; simpa using hF.2.1, fun s hs' => by rw [hget, if_neg (hs' i him)]; exact hF.2.2 s hs'⟩ (keepN hK hk) fun k hk' hl => ?_
    ·have hmem := hin i him h1
     have hpos := List.length_pos_of_mem hmem
     rw [List.length_erase_of_mem hmem]; omega
    ·have hki : k ≠ i := by
      rintro rfl
      rw [getD_set_self (by omega)] at hl; cases hl
     rw [getD_set_ne true (Ne.symm hki)] at hl
     exact (List.mem_erase_of_ne hki).2 (hin k hk' hl)
    ·by_cases e : k = i
     ·subst e
      rw [hget, if_pos rfl]; exact hSu
     ·rw [hget, if_neg (hdis k hk' e)]
      exact hS k _ _ _ (hA k hk' (by rw [getD_set_ne true (Ne.symm e)] at hl; exact hl)) hk
   unfold wpOp
   simp only [ho]
   rcases hdoes with ⟨hw, hy⟩ | ⟨hw, h2, h3⟩
   ·rw [if_pos hw]
    exact .inl (Oper.wp_of_yields hy fun u w' ⟨h2, h3⟩ => hnext u w' h2 h3)
   ·rw [if_neg (by rw [hw]; decide)]
    exact hnext undef w h2 h3
theorem wp_region_tail {id : Nat} {Q : Exit → Act → World → Prop} {a0 : Act} {w : World} (ds : Nat → Nat) (m : Nat) (hf : P.follows .mixedOrders = true) (hm : decide (m ≤ ops.size) = true) (hO : onlyB ops = true) (hB : headG ops ds m = true) (hT : tailG .any ops m = true) (S : Nat → Value → World → Prop) (hS : ∀ i v w1 w', S i v w1 → Keep NoB w1 w' → S i v w') (hsz : fitsD ops ds a0.tmps.size = true)
  (hstep : ∀ i o (a : Act) (w' : World), ops[i]? = some o → i < m → FrameD a0 ds m a → Keep NoB w w' → (∀ e ∈ o.after, Region.binds .any e = true → S e.on (a.tmps.getD (ds e.on) undef) w') → Does P ops o a w' fun u w'' => S i u w'' ∧ Keep NoB w' w'')
  (hend : ∀ (a : Act) (w' : World), FrameD a0 ds m a → Keep NoB w w' → (∀ i, i < m → S i (a.tmps.getD (ds i) undef) w') → wpList P ops Q (ops.toList.drop m) a w') : (Code.region id ops true).wp P Q a0 w :=
 have hm := of_decide_eq_true hm
 wp_region_any hf (wpAny_tail ds m hm hO hB hT S hS w a0 hsz hstep hend _ _ a0 w.drew (by simp) ⟨List.range m, by simp; omega, fun i hi _ => List.mem_range.2 hi⟩ (fun k o hk hl => by
  have := (Array.getElem?_eq_some_iff.1 hk).1
  simp [this] at hl) (fun i _ hi => by simp [hi]) ⟨rfl, rfl, fun _ _ => rfl⟩ (Keep.refl NoB w).drew fun i hi hl => by
  have : i < ops.size := by omega
  simp [this] at hl)
end
end Go.Proofs.YtgnooffedmeenaaGreatDoor

namespace Go.Proofs.YtgnooffedmeenaaGreatDoor.M
open Go.RowKit W I

/-! ### How long it is -/

/-! ### The walk -/

end Go.Proofs.YtgnooffedmeenaaGreatDoor.M

namespace Go.Proofs.YtgnooffedmeenaaGreatDoor.M
open Go.RowKit W I

/-! ### What is written -/

end Go.Proofs.YtgnooffedmeenaaGreatDoor.M

namespace Go.Proofs.YtgnooffedmeenaaGreatDoor.M
open Go.RowKit W I

theorem itoa_any (n : Int) (w : World) (h0 : -9223372036854775808 ≤ n) (h1 : n ≤ 9223372036854775807) (h : W.Laid w) :
  Calls Tryz.prog 92 #[.int .i64 n] w fun e w' => e = .returned (.string (str (Lib.itoa n))) ∧ Keep NoB w w' := by
 refine (Tryz.strconv_Itoa n h0 h1 w h.pow).mono ?_
 rintro e w' ⟨rfl, k, os, rfl⟩
 exact ⟨rfl, Keep.of_below (Go.Lib.below_grow _ w (Nat.le_refl _) k os)⟩
end Go.Proofs.YtgnooffedmeenaaGreatDoor.M

namespace Go.Proofs.YtgnooffedmeenaaGreatDoor.M.L
open Go.RowKit W

theorem str_app (a b : Bs) : str a ++ str b = str (a ++ b) := by
 apply ByteArray.ext
 simp [ByteArray.data_append]
theorem lit_app (a : Array UInt8) (b : Bs) : (⟨a⟩ : ByteArray) ++ str b = str (a.toList ++ b) := by
 apply ByteArray.ext
 simp [ByteArray.data_append]
theorem app_lit (a : Bs) (b : Array UInt8) : str a ++ (⟨b⟩ : ByteArray) = str (a ++ b.toList) := by
 apply ByteArray.ext
 simp [ByteArray.data_append]
theorem str_size (a : Bs) : (str a).size = a.length := size_of (by simp)

set_option maxHeartbeats 1000000 in
theorem label_any (n : Nat) (w : World) (hn : n ≤ 100000) (h : W.Laid w) :
  Calls Tryz.prog 79 #[.int .i64 (n : Int)] w fun e w' => e = .returned (.string (str (lbl ((n : Nat) : Int)))) ∧ Keep NoB w w' := by
 have HI := Lib.hid (fun W (hk : Keep NoB w W) => itoa_any (n : Int) W (by omega) (by omega) (h.keep hk))
 have hl := Lib.itoa_length_le (n : Int) (by omega) (by omega)
 have hz := str_size (Lib.itoa (n : Int))
 have HX : Hid ((⟨#[76]⟩ : ByteArray) ++ str (Lib.itoa (n : Int)) = str (lbl ((n : Nat) : Int))) := lit_app #[76] _
 clear h
 rw [← HX.out]
 generalize str (Lib.itoa (n : Int)) = S at *
 have hb : S.size ≤ 21 := by omega
 clear hl hz
 go_enter Tryz.func79, Tryz.ntmps79
 go_wp2_with (go_at_call 92; refine (HI.out _ (Keep.refl _ _)).mono ?_; rintro e w1 ⟨rfl, k1⟩)
 go_ret
 exact ⟨rfl, k1⟩
theorem plain1_any (k op a b : Int) (w : World) : Calls Tryz.prog 89 #[.int .i64 k, O.instV op a b] w fun e w' => e = .returned (.tuple #[.string ⟨#[]⟩, .bool false]) ∧ Keep NoB w w' := by
 go_enter Tryz.func89, Tryz.ntmps89
 go_wp2
 go_ret2
 exact ⟨rfl, (Keep.refl NoB w).alloc _⟩
theorem plain2_any (k : Int) (w : World) : Calls Tryz.prog 90 #[.int .i64 k] w fun e w' => e = .returned (.string ⟨#[]⟩) ∧ Keep NoB w w' := by
 go_enter Tryz.func90, Tryz.ntmps90
 go_wp2
 go_ret
 exact ⟨rfl, Keep.refl NoB w⟩
set_option maxHeartbeats 1000000 in
theorem numbered1_any (n : Nat) (w : World) (hn : n ≤ 100000) (h : W.Laid w) :
  Calls Tryz.prog 91 #[.int .i64 (n : Int)] w fun e w' => e = .returned (.string (str (noteB n))) ∧ Keep NoB w w' := by
 have HI := Lib.hid (fun W (hk : Keep NoB w W) => itoa_any (n : Int) W (by omega) (by omega) (h.keep hk))
 have hl := Lib.itoa_length_le (n : Int) (by omega) (by omega)
 have hz := str_size (Lib.itoa (n : Int))
 have HX : Hid ((⟨#[32, 59, 32]⟩ : ByteArray) ++ str (Lib.itoa (n : Int)) = str (noteB n)) := lit_app #[32, 59, 32] _
 clear h
 rw [← HX.out]
 generalize str (Lib.itoa (n : Int)) = S at *
 have hb : S.size ≤ 21 := by omega
 clear hl hz
 go_enter Tryz.func91, Tryz.ntmps91
 go_wp2_with (go_at_call 92; refine (HI.out _ (Keep.refl _ _)).mono ?_; rintro e w1 ⟨rfl, k1⟩)
 go_ret
 exact ⟨rfl, k1⟩

end Go.Proofs.YtgnooffedmeenaaGreatDoor.M.L

namespace Go.Proofs.YtgnooffedmeenaaGreatDoor.I
open Go.RowKit W

set_option maxRecDepth 100000 in
set_option maxHeartbeats 4000000 in
theorem indexS_any (A : Option Addr) (es : List SE) (n c k b : Nat) (w : World) (hcf : ∀ args w, (callFunc k args).run Tryz.prog w = .ok (.enter k args) w) (hr : Hid (∀ W, Keep NoB w W → Rd W A (svs es))) (hn : Hid (es.length = n)) (hm : n ≤ 1000) (bs : Nat → Bool)
  (hq : Hid (∀ i (h : i < es.length) W, Keep NoB w W → Calls Tryz.prog k #[es[i].1.val, .pointer (some ⟨b, 0, none⟩)] W fun e W' => e = .returned (.bool (bs i)) ∧ Keep NoB W W')) :
  Calls Tryz.prog 173 #[.slice A n c, .func (.func k) #[] #[.pointer (some ⟨b, 0, none⟩)]] w fun e w' => ∃ R : Int, e = .returned (.int .i64 R) ∧ ((0 ≤ R ∧ ∃ i, i < n ∧ bs i = true) ∨ (R = -1 ∧ ∀ i, i < n → bs i = false)) ∧ Keep NoB w w' := by
 go_enter Tryz.func173, Tryz.ntmps173
 go_wp2
 go_loopw [8] (fun i wr => ∃ j : Nat, j ≤ n ∧ i = .int .i64 j ∧ Hid (∀ t, t < j → bs t = false) ∧ Keep NoB w wr) (fun i _ => n - (intOf i).toNat)
 case atStart => exact ⟨0, Nat.zero_le _, rfl, fun t h => absurd h (by omega), Keep.refl _ _⟩
 case round =>
  obtain ⟨j, hj, rfl, hB, hK⟩ := hrel
  by_cases hlt : j < n
  ·have hje : j < es.length := by rw [hn.out]; exact hlt
   obtain ⟨g, off, rfl, c0⟩ := shape_at (hr.out _ hK) hje
   have HQ := Lib.hid (hq.out j hje _ hK)
   generalize es[j] = e at c0 HQ
   obtain ⟨⟨A1, n1, d1⟩, l⟩ := e
   dsimp only [SV.val] at c0 HQ
   obtain ⟨bj, hbj⟩ : ∃ x, bs j = x := ⟨_, rfl⟩
   rw [hbj] at HQ
   have HBJ := Lib.hid hbj
   clear hbj
   go_wp2_with fail
   refine HQ.out.mono ?_
   rintro e w1 ⟨rfl, k1⟩
   replace hK := keepN hK k1
   cases bj
   ·go_wp2
    go_roundw
    case rel => exact ⟨j + 1, by omega, by go_num, fun t ht => (by
     rcases Nat.lt_succ_iff_lt_or_eq.1 ht with h | rfl
     ·exact hB.out t h
     ·exact HBJ.out), hK⟩
    case measure => simp [intOf]; omega
   ·go_wp2
    go_ret
    exact ⟨_, rfl, .inl ⟨by omega, j, hlt, HBJ.out⟩, hK⟩
  ·obtain rfl : j = n := by omega
   go_wp2
   go_ret
   exact ⟨_, rfl, .inr ⟨rfl, hB.out⟩, hK⟩

set_option maxRecDepth 100000 in
set_option maxHeartbeats 2000000 in
theorem containsS_any (A : Option Addr) (es : List SE) (n c k b : Nat) (w : World) (hcf : ∀ args w, (callFunc k args).run Tryz.prog w = .ok (.enter k args) w) (hr : Hid (∀ W, Keep NoB w W → Rd W A (svs es))) (hn : Hid (es.length = n)) (hm : n ≤ 1000) (bs : Nat → Bool)
  (hq : Hid (∀ i (h : i < es.length) W, Keep NoB w W → Calls Tryz.prog k #[es[i].1.val, .pointer (some ⟨b, 0, none⟩)] W fun e W' => e = .returned (.bool (bs i)) ∧ Keep NoB W W'))
  (B : Bool) (h1 : Hid ((∃ i, i < n ∧ bs i = true) → B = true)) (h0 : Hid ((∀ i, i < n → bs i = false) → B = false)) :
  Calls Tryz.prog 115 #[.slice A n c, .func (.func k) #[] #[.pointer (some ⟨b, 0, none⟩)]] w fun e w' => e = .returned (.bool B) ∧ Keep NoB w w' := by
 have HI := Lib.hid (indexS_any A es n c k b w hcf hr hn hm bs hq)
 clear hq hr hcf
 go_enter Tryz.func115, Tryz.ntmps115
 go_wp2_with fail
 refine HI.out.mono ?_
 rintro e w1 ⟨R, rfl, hR, k1⟩
 rcases hR with ⟨h2, h3⟩ | ⟨rfl, h3⟩
 ·obtain rfl : B = true := h1.out h3
  have hd : decide ((0 : Int) ≤ R) = true := decide_eq_true h2
  clear h3 h1 h0
  go_wp2
  go_ret
  exact ⟨rfl, k1⟩
 ·obtain rfl : B = false := h0.out h3
  clear h3 h1 h0
  go_wp2
  go_ret
  exact ⟨rfl, k1⟩

set_option maxRecDepth 100000 in
set_option maxHeartbeats 2000000 in
theorem asksS_any (k : Nat) (hcf : ∀ args w, (callFunc k args).run Tryz.prog w = .ok (.enter k args) w) (v : SV) (b : Nat) (w : World) (u0 u1 u3 u4 u5 : Value) (hb : Blk w b 100 #[u0, u1, F.fnV k, u3, u4, u5]) (R : Int) (B : Bool) (hB : (R != 0) = B)
  (HG : Hid (∀ W, Keep NoB w W → Calls Tryz.prog k #[v.val] W fun e w' => e = .returned (.int .i64 R) ∧ Keep NoB W w')) :
  Calls Tryz.prog 116 #[v.val, .pointer (some ⟨b, 0, none⟩)] w fun e w' => e = .returned (.bool B) ∧ Keep NoB w w' := by
 have c2 := hb.cell 2
 unfold F.fnV at c2
 simp only [List.getElem?_toArray, List.getElem?_cons_zero, List.getElem?_cons_succ] at c2
 clear hb
 dsimp only [SV.val] at HG ⊢
 go_enter Tryz.func116, Tryz.ntmps116
 go_wp2_with fail
 refine (HG.out _ (Keep.refl _ _)).mono ?_
 rintro e w1 ⟨rfl, k1⟩
 go_wp2
 go_ret
 exact ⟨rfl, k1⟩

def partS : Value := .agg #[.int .i64 0, .int .i64 64, F.fnV 117, F.fnV 118, F.fnV 119, F.fnV 120]
theorem partS_size : (Tryz.prog.info? 100).map (·.size) = some 6 := by kernel_rfl
set_option maxRecDepth 100000 in
set_option maxHeartbeats 2000000 in
theorem partsS_any (w : World) : Calls Tryz.prog 55 #[] w fun e w' => e = .returned partS ∧ Keep NoB w w' := by
 have bz := Blk.new w 100 #[.int .i64 0, .int .i64 64, F.fnV 117, F.fnV 118, F.fnV 119, F.fnV 120]
 have k0 := (Keep.refl NoB w).alloc (.cells #[.int .i64 0, .int .i64 64, F.fnV 117, F.fnV 118, F.fnV 119, F.fnV 120] 100)
 have HB := Lib.hid bz
 have HK := Lib.hid k0
 unfold partS F.fnV at *
 clear bz k0
 go_enter Tryz.func55, Tryz.ntmps55
 go_wp2
 refine bodyPost_ret (results_cell_row rfl _ _ w.heap.size 100 _ (0, 0) _ rfl HB.out Tryz.underlying100 rfl partS_size) rfl ?_
 exact ⟨rfl, HK.out⟩

def mayS (l : List SE) : Bool := decide (0 ≤ l.length ∧ l.length ≤ 64) && l.all fun e => S.okS e.2
set_option maxRecDepth 100000 in
set_option maxHeartbeats 4000000 in
theorem mayS_any (A : Option Addr) (es : List SE) (n c : Nat) (w : World) (hr : Hid (∀ W, Keep NoB w W → Rd W A (svs es))) (hn : Hid (es.length = n)) (hm : n ≤ 9223372036854775807) (he : Hid (∀ e ∈ es, ∀ W, Keep NoB w W → Calls Tryz.prog 117 #[e.1.val] W fun r W' => r = .returned (.int .i64 (S.chkS e.2)) ∧ Keep NoB W W')) :
  Calls Tryz.prog 54 #[.slice A n c, partS] w fun r w' => r = .returned (.bool (mayS es)) ∧ Keep NoB w w' := by
 have bz := Blk.new w 100 #[.int .i64 0, .int .i64 64, F.fnV 117, F.fnV 118, F.fnV 119, F.fnV 120]
 have k0 := (Keep.refl NoB w).alloc (.cells #[.int .i64 0, .int .i64 64, F.fnV 117, F.fnV 118, F.fnV 119, F.fnV 120] 100)
 have hmf : ∀ (fn : Go.Fn) (first cap : Array Value) (w : World), (Instr.makeFunc fn first cap).run Tryz.prog w = .ok (.func fn first cap) w := fun _ _ _ _ => rfl
 have q0 := bz.cell 0
 have q1 := bz.cell 1
 simp only [List.getElem?_toArray, List.getElem?_cons_zero, List.getElem?_cons_succ] at q0 q1
 have HZ := Lib.hid bz
 obtain ⟨M, hM⟩ : ∃ M, mayS es = M := ⟨_, rfl⟩
 rw [hM]
 have HM := Lib.hid hM
 clear hM bz
 unfold partS F.fnV at *
 by_cases h64 : n ≤ 64
 ·have HC := Lib.hid (fun W (hk : Keep NoB (w.alloc (.cells #[.int .i64 0, .int .i64 64, F.fnV 117, F.fnV 118, F.fnV 119, F.fnV 120] 100)) W) => containsS_any A es n c 116 w.heap.size W (enters_of Tryz.func116 (by kernel_rfl) rfl) (fun W' hk' => hr.out W' (keepN (keepN k0 hk) hk')) hn (by omega) (fun i => (es[i]?.map fun e => (S.chkS e.2 != 0)).getD false)
   (fun i h W' hk' => asksS_any 117 (enters_of Tryz.func117 (by kernel_rfl) rfl) es[i].1 w.heap.size W' _ _ _ _ _ (HZ.out.keep (keepN hk hk') id) (S.chkS es[i].2) _ (by simp [h]) (fun W2 hk2 => he.out _ (List.getElem_mem h) W2 (keepN (keepN (keepN k0 hk) hk') hk2)))
   (!(es.all fun e => S.okS e.2))
   (by
    rintro ⟨i, hi, hb⟩
    have hi2 : i < es.length := by rw [hn.out]; exact hi
    simp only [List.getElem?_eq_getElem hi2, Option.map_some, Option.getD_some] at hb
    rw [Bool.not_eq_true', ← Bool.not_eq_true]
    intro hall
    have := List.all_eq_true.1 hall _ (List.getElem_mem hi2)
    rw [S.chkS_ok this] at hb
    exact absurd hb (by decide))
   (by
    intro hb
    rw [Bool.not_eq_false']
    refine List.all_eq_true.2 fun e hm => ?_
    obtain ⟨i, hi, rfl⟩ := List.getElem_of_mem hm
    have := hb i (by rw [← hn.out]; exact hi)
    simp only [List.getElem?_eq_getElem hi, Option.map_some, Option.getD_some] at this
    cases ho : S.okS es[i].2
    ·rw [S.chkS_no ho] at this; exact absurd this (by decide)
    ·rfl))
  unfold F.fnV at HC
  obtain ⟨al, hal⟩ : ∃ al, (es.all fun e => S.okS e.2) = al := ⟨_, rfl⟩
  rw [hal] at HC
  have HV : Hid (al = M) := by
   show _ = _
   rw [← HM.out, ← hal]; unfold mayS; rw [hn.out, decide_eq_true (by omega : 0 ≤ n ∧ n ≤ 64)]; rfl
  clear hal HM he hr HZ
  go_enter Tryz.func54, Tryz.ntmps54
  go_wp2_with fail
  refine (HC.out _ (Keep.refl _ _)).mono ?_
  rintro e w1 ⟨rfl, k1⟩
  go_wp2
  go_ret
  exact ⟨by rw [← HV.out]; cases al <;> rfl, keepN k0 k1⟩
 ·have hd : decide ((n : Int) ≤ 64) = false := by rw [decide_eq_false_iff_not]; omega
  obtain rfl : false = M := by
   rw [← HM.out]; unfold mayS; rw [hn.out, decide_eq_false (by omega : ¬ (0 ≤ n ∧ n ≤ 64))]; rfl
  clear HM he hr HZ
  go_enter Tryz.func54, Tryz.ntmps54
  go_wp2
  go_ret
  exact ⟨rfl, k0⟩

set_option maxRecDepth 100000 in
set_option maxHeartbeats 4000000 in
theorem indexF_any (A : Option Addr) (fs : List FE) (n c k b : Nat) (w : World) (hcf : ∀ args w, (callFunc k args).run Tryz.prog w = .ok (.enter k args) w) (hr : Hid (∀ W, Keep NoB w W → Rd W A (fvs fs))) (hn : Hid (fs.length = n)) (hm : n ≤ 1000) (bs : Nat → Bool)
  (hq : Hid (∀ i (h : i < fs.length) W, Keep NoB w W → Calls Tryz.prog k #[fs[i].1.val, .pointer (some ⟨b, 0, none⟩)] W fun e W' => e = .returned (.bool (bs i)) ∧ Keep NoB W W')) :
  Calls Tryz.prog 178 #[.slice A n c, .func (.func k) #[] #[.pointer (some ⟨b, 0, none⟩)]] w fun e w' => ∃ R : Int, e = .returned (.int .i64 R) ∧ ((0 ≤ R ∧ ∃ i, i < n ∧ bs i = true) ∨ (R = -1 ∧ ∀ i, i < n → bs i = false)) ∧ Keep NoB w w' := by
 go_enter Tryz.func178, Tryz.ntmps178
 go_wp2
 go_loopw [8] (fun i wr => ∃ j : Nat, j ≤ n ∧ i = .int .i64 j ∧ Hid (∀ t, t < j → bs t = false) ∧ Keep NoB w wr) (fun i _ => n - (intOf i).toNat)
 case atStart => exact ⟨0, Nat.zero_le _, rfl, fun t h => absurd h (by omega), Keep.refl _ _⟩
 case round =>
  obtain ⟨j, hj, rfl, hB, hK⟩ := hrel
  by_cases hlt : j < n
  ·have hje : j < fs.length := by rw [hn.out]; exact hlt
   obtain ⟨g, off, rfl, c0, c1, c2, c3, c4⟩ := fun_at (hr.out _ hK) hje
   have HQ := Lib.hid (hq.out j hje _ hK)
   generalize fs[j] = e at c0 c1 c2 c3 c4 HQ
   obtain ⟨⟨S1, A1, na1, ca1, B1, nb1, cb1, L1, nl1, cl1, D1, nd1, cd1⟩, l⟩ := e
   dsimp only [F.FV.val, F.FV.cells] at c0 c1 c2 c3 c4 HQ
   obtain ⟨bj, hbj⟩ : ∃ x, bs j = x := ⟨_, rfl⟩
   rw [hbj] at HQ
   have HBJ := Lib.hid hbj
   clear hbj
   go_wp2_with fail
   refine HQ.out.mono ?_
   rintro e w1 ⟨rfl, k1⟩
   replace hK := keepN hK k1
   cases bj
   ·go_wp2
    go_roundw
    case rel => exact ⟨j + 1, by omega, by go_num, fun t ht => (by
     rcases Nat.lt_succ_iff_lt_or_eq.1 ht with h | rfl
     ·exact hB.out t h
     ·exact HBJ.out), hK⟩
    case measure => simp [intOf]; omega
   ·go_wp2
    go_ret
    exact ⟨_, rfl, .inl ⟨by omega, j, hlt, HBJ.out⟩, hK⟩
  ·obtain rfl : j = n := by omega
   go_wp2
   go_ret
   exact ⟨_, rfl, .inr ⟨rfl, hB.out⟩, hK⟩

set_option maxRecDepth 100000 in
set_option maxHeartbeats 2000000 in
theorem containsF_any (A : Option Addr) (fs : List FE) (n c k b : Nat) (w : World) (hcf : ∀ args w, (callFunc k args).run Tryz.prog w = .ok (.enter k args) w) (hr : Hid (∀ W, Keep NoB w W → Rd W A (fvs fs))) (hn : Hid (fs.length = n)) (hm : n ≤ 1000) (bs : Nat → Bool)
  (hq : Hid (∀ i (h : i < fs.length) W, Keep NoB w W → Calls Tryz.prog k #[fs[i].1.val, .pointer (some ⟨b, 0, none⟩)] W fun e W' => e = .returned (.bool (bs i)) ∧ Keep NoB W W'))
  (B : Bool) (h1 : Hid ((∃ i, i < n ∧ bs i = true) → B = true)) (h0 : Hid ((∀ i, i < n → bs i = false) → B = false)) :
  Calls Tryz.prog 121 #[.slice A n c, .func (.func k) #[] #[.pointer (some ⟨b, 0, none⟩)]] w fun e w' => e = .returned (.bool B) ∧ Keep NoB w w' := by
 have HI := Lib.hid (indexF_any A fs n c k b w hcf hr hn hm bs hq)
 clear hq hr hcf
 go_enter Tryz.func121, Tryz.ntmps121
 go_wp2_with fail
 refine HI.out.mono ?_
 rintro e w1 ⟨R, rfl, hR, k1⟩
 rcases hR with ⟨h2, h3⟩ | ⟨rfl, h3⟩
 ·obtain rfl : B = true := h1.out h3
  have hd : decide ((0 : Int) ≤ R) = true := decide_eq_true h2
  clear h3 h1 h0
  go_wp2
  go_ret
  exact ⟨rfl, k1⟩
 ·obtain rfl : B = false := h0.out h3
  clear h3 h1 h0
  go_wp2
  go_ret
  exact ⟨rfl, k1⟩

set_option maxRecDepth 100000 in
set_option maxHeartbeats 2000000 in
theorem asksF_any (k : Nat) (hcf : ∀ args w, (callFunc k args).run Tryz.prog w = .ok (.enter k args) w) (v : F.FV) (b : Nat) (w : World) (u0 u1 u3 u4 u5 : Value) (hb : Blk w b 106 #[u0, u1, F.fnV k, u3, u4, u5]) (R : Int) (B : Bool) (hB : (R != 0) = B)
  (HG : Hid (∀ W, Keep NoB w W → Calls Tryz.prog k #[v.val] W fun e w' => e = .returned (.int .i64 R) ∧ Keep NoB W w')) :
  Calls Tryz.prog 122 #[v.val, .pointer (some ⟨b, 0, none⟩)] w fun e w' => e = .returned (.bool B) ∧ Keep NoB w w' := by
 have k0 := (Keep.refl NoB w).alloc (.cells v.cells 37)
 have bx := Blk.new w 37 v.cells
 replace hb := hb.alloc (.cells v.cells 37)
 have c2 := hb.cell 2
 unfold F.fnV at c2
 simp only [List.getElem?_toArray, List.getElem?_cons_zero, List.getElem?_cons_succ] at c2
 clear hb
 obtain ⟨S1, A1, na1, ca1, B1, nb1, cb1, L1, nl1, cl1, D1, nd1, cd1⟩ := v
 obtain ⟨q0, q1, q2, q3, q4⟩ := F.blk5 bx
 dsimp only [F.FV.val, F.FV.cells] at HG k0 q0 q1 q2 q3 q4 c2 bx ⊢
 clear bx
 go_enter Tryz.func122, Tryz.ntmps122
 go_wp2_with fail
 refine (HG.out _ k0).mono ?_
 rintro e w1 ⟨rfl, k1⟩
 go_wp2
 go_ret
 exact ⟨rfl, keepN k0 k1⟩

def partF : Value := .agg #[.int .i64 1, .int .i64 64, F.fnV 47, F.fnV 123, F.fnV 124, F.fnV 125]
theorem partF_size : (Tryz.prog.info? 106).map (·.size) = some 6 := by kernel_rfl
set_option maxRecDepth 100000 in
set_option maxHeartbeats 2000000 in
theorem partsF_any (w : World) : Calls Tryz.prog 57 #[] w fun e w' => e = .returned partF ∧ Keep NoB w w' := by
 have bz := Blk.new w 106 #[.int .i64 1, .int .i64 64, F.fnV 47, F.fnV 123, F.fnV 124, F.fnV 125]
 have k0 := (Keep.refl NoB w).alloc (.cells #[.int .i64 1, .int .i64 64, F.fnV 47, F.fnV 123, F.fnV 124, F.fnV 125] 106)
 have HB := Lib.hid bz
 have HK := Lib.hid k0
 unfold partF F.fnV at *
 clear bz k0
 go_enter Tryz.func57, Tryz.ntmps57
 go_wp2
 refine bodyPost_ret (results_cell_row rfl _ _ w.heap.size 106 _ (0, 0) _ rfl HB.out Tryz.underlying106 rfl partF_size) rfl ?_
 exact ⟨rfl, HK.out⟩

def mayF (l : List FE) : Bool := decide (1 ≤ l.length ∧ l.length ≤ 64) && l.all fun e => F.okF e.2
set_option maxRecDepth 100000 in
set_option maxHeartbeats 4000000 in
theorem mayF_any (A : Option Addr) (fs : List FE) (n c : Nat) (w : World) (hr : Hid (∀ W, Keep NoB w W → Rd W A (fvs fs))) (hn : Hid (fs.length = n)) (hm : n ≤ 9223372036854775807) (he : Hid (∀ e ∈ fs, ∀ W, Keep NoB w W → Calls Tryz.prog 47 #[e.1.val] W fun r W' => r = .returned (.int .i64 (F.chkF e.2)) ∧ Keep NoB W W')) :
  Calls Tryz.prog 56 #[.slice A n c, partF] w fun r w' => r = .returned (.bool (mayF fs)) ∧ Keep NoB w w' := by
 have bz := Blk.new w 106 #[.int .i64 1, .int .i64 64, F.fnV 47, F.fnV 123, F.fnV 124, F.fnV 125]
 have k0 := (Keep.refl NoB w).alloc (.cells #[.int .i64 1, .int .i64 64, F.fnV 47, F.fnV 123, F.fnV 124, F.fnV 125] 106)
 have hmf : ∀ (fn : Go.Fn) (first cap : Array Value) (w : World), (Instr.makeFunc fn first cap).run Tryz.prog w = .ok (.func fn first cap) w := fun _ _ _ _ => rfl
 have q0 := bz.cell 0
 have q1 := bz.cell 1
 simp only [List.getElem?_toArray, List.getElem?_cons_zero, List.getElem?_cons_succ] at q0 q1
 have HZ := Lib.hid bz
 obtain ⟨M, hM⟩ : ∃ M, mayF fs = M := ⟨_, rfl⟩
 rw [hM]
 have HM := Lib.hid hM
 clear hM bz
 unfold partF F.fnV at *
 by_cases hz : n = 0
 ·subst hz
  obtain rfl : false = M := by
   rw [← HM.out]; unfold mayF; rw [hn.out]; rfl
  clear HM he hr HZ
  go_enter Tryz.func56, Tryz.ntmps56
  go_wp2
  go_ret
  exact ⟨rfl, k0⟩
 have hd1 : decide ((1 : Int) ≤ (n : Int)) = true := by rw [decide_eq_true_iff]; omega
 by_cases h64 : n ≤ 64
 ·have HC := Lib.hid (fun W (hk : Keep NoB (w.alloc (.cells #[.int .i64 1, .int .i64 64, F.fnV 47, F.fnV 123, F.fnV 124, F.fnV 125] 106)) W) => containsF_any A fs n c 122 w.heap.size W (enters_of Tryz.func122 (by kernel_rfl) rfl) (fun W' hk' => hr.out W' (keepN (keepN k0 hk) hk')) hn (by omega) (fun i => (fs[i]?.map fun e => (F.chkF e.2 != 0)).getD false)
   (fun i h W' hk' => asksF_any 47 (enters_of Tryz.func47 (by kernel_rfl) rfl) fs[i].1 w.heap.size W' _ _ _ _ _ (HZ.out.keep (keepN hk hk') id) (F.chkF fs[i].2) _ (by simp [h]) (fun W2 hk2 => he.out _ (List.getElem_mem h) W2 (keepN (keepN (keepN k0 hk) hk') hk2)))
   (!(fs.all fun e => F.okF e.2))
   (by
    rintro ⟨i, hi, hb⟩
    have hi2 : i < fs.length := by rw [hn.out]; exact hi
    simp only [List.getElem?_eq_getElem hi2, Option.map_some, Option.getD_some] at hb
    rw [Bool.not_eq_true', ← Bool.not_eq_true]
    intro hall
    have := List.all_eq_true.1 hall _ (List.getElem_mem hi2)
    rw [F.chkF_ok this] at hb
    exact absurd hb (by decide))
   (by
    intro hb
    rw [Bool.not_eq_false']
    refine List.all_eq_true.2 fun e hm => ?_
    obtain ⟨i, hi, rfl⟩ := List.getElem_of_mem hm
    have := hb i (by rw [← hn.out]; exact hi)
    simp only [List.getElem?_eq_getElem hi, Option.map_some, Option.getD_some] at this
    cases ho : F.okF fs[i].2
    ·rw [F.chkF_no ho] at this; exact absurd this (by decide)
    ·rfl))
  unfold F.fnV at HC
  obtain ⟨al, hal⟩ : ∃ al, (fs.all fun e => F.okF e.2) = al := ⟨_, rfl⟩
  rw [hal] at HC
  have HV : Hid (al = M) := by
   show _ = _
   rw [← HM.out, ← hal]; unfold mayF; rw [hn.out, decide_eq_true (by omega : 1 ≤ n ∧ n ≤ 64)]; rfl
  clear hal HM he hr HZ
  go_enter Tryz.func56, Tryz.ntmps56
  go_wp2_with fail
  refine (HC.out _ (Keep.refl _ _)).mono ?_
  rintro e w1 ⟨rfl, k1⟩
  go_wp2
  go_ret
  exact ⟨by rw [← HV.out]; cases al <;> rfl, keepN k0 k1⟩
 ·have hd : decide ((n : Int) ≤ 64) = false := by rw [decide_eq_false_iff_not]; omega
  obtain rfl : false = M := by
   rw [← HM.out]; unfold mayF; rw [hn.out, decide_eq_false (by omega : ¬ (1 ≤ n ∧ n ≤ 64))]; rfl
  clear HM he hr HZ
  go_enter Tryz.func56, Tryz.ntmps56
  go_wp2
  go_ret
  exact ⟨rfl, k0⟩

end Go.Proofs.YtgnooffedmeenaaGreatDoor.I

namespace Go.Proofs.YtgnooffedmeenaaGreatDoor.I
open Go.RowKit Go.Shelf W
attribute [local go_sem] Oper.semAt_some

def fnI (fs : List FE) (x : Nat) : FE := fs[x]?.getD (F.nilV, F.nilF)
theorem fnI_at {fs : List FE} {x : Nat} (h : x < fs.length) : fnI fs x = fs[x] := by unfold fnI; rw [List.getElem?_eq_getElem h]; rfl
abbrev eaA (fs : List FE) (x : Nat) : Array Value := #[.int .i64 (x : Int), (fnI fs x).1.val]
def FsK (Y : Option Addr) (fs : List FE) (W W' : World) : Prop := Rd W Y (fvs fs) → Rd W' Y (fvs fs)
theorem FsK.trans {Y : Option Addr} {fs : List FE} {A B C : World} (h : FsK Y fs A B) (h' : FsK Y fs B C) : FsK Y fs A C := fun hr => h' (h hr)
theorem rd_putObj {A : Option Addr} {xs : List Value} (W : World) (l : Nat) (o o' : Obj) (hl : W.heap[l]? = some o) (ho : o.isCells = false) (hr : Rd W A xs) : Rd (W.putObj l o') A xs := fun h0 => by
 obtain ⟨g, off, e, hc⟩ := hr h0
 refine ⟨g, off, e, fun j u hu => ?_⟩
 have h1 := hc j u hu
 have hne : g ≠ l := by
  intro e2
  unfold World.cell? at h1
  dsimp only at h1
  rw [e2, hl] at h1
  cases o with
  | cells cs t f => cases ho
  | _ => simp at h1
 exact (World.cell?_of_block (World.putObj_heap_other (show (⟨g, off + j, none⟩ : Addr).block ≠ l from hne))).trans h1
theorem FsK.putObj {Y : Option Addr} {fs : List FE} (W : World) (l : Nat) (o o' : Obj) (hl : W.heap[l]? = some o) (ho : o.isCells = false) : FsK Y fs W (W.putObj l o') := fun h => rd_putObj W l o o' hl ho h
set_option maxRecDepth 100000 in
set_option maxHeartbeats 4000000 in
theorem each1_in (m l : Nat) (hm : 1 ≤ m) (b : Nat) (v : IV) (fs : List FE) (hl : fs.length = v.ny) (hn : v.ny ≤ 1000) (J Jx : List Nat → World → Prop) (hJk : ∀ pre W W', J pre W → Keep NoB W W' → J pre W')
  (hY : ∀ pre x W, J pre W → pre.length < v.ny → YieldAt Fence.wide (m - 1) Tryz.prog l (eaA fs x) W fun e W' =>
   (e = .returned (.bool true) ∧ J (pre ++ [x]) W' ∧ FsK v.Y fs W W') ∨ (e = .returned (.bool false) ∧ Jx (pre ++ [x]) W'))
  (W : World) (hx : Blk W b 25 v.cells) (hr : Rd W v.Y (fvs fs)) (h0 : J [] W) :
  CallsIn Fence.wide m Tryz.prog 195 #[.func (.yield l) #[] #[], .pointer (some ⟨b, 0, none⟩)] W fun e W' => (∃ v, e = .returned v) ∧
   ((∃ ys : List Nat, ys = List.range v.ny ∧ J ys W') ∨ (∃ pre : List Nat, (∃ k, k ≤ v.ny ∧ pre = List.range k) ∧ Jx pre W')) := by
 obtain ⟨q0, q1⟩ := blk2 hx
 obtain ⟨X, nx, cx, Y, ny, cy⟩ := v
 dsimp only at *
 have HR := Lib.hid hr
 clear hr hx
 refine callsIn_of_wp Tryz.func195 rfl trivial ?_ rfl
 simp only [Tryz.ntmps195, List.size_toArray, List.length_cons, List.length_nil, Nat.reduceAdd, Nat.reduceSub, Array.replicate_succ, Array.replicate_zero, List.push_toArray, List.append_toArray, List.nil_append, List.cons_append]
 gi_wp2
 gi_loopw [8] (fun p wr => ∃ j : Nat, j ≤ ny ∧ p = .int .i64 (j : Int) ∧ J (List.range j) wr ∧ Hid (Rd wr Y (fvs fs))) (fun p _ => ny - (intOf p).toNat)
 case atStart => exact ⟨0, by omega, rfl, h0, HR.out⟩
 case round =>
  clear h0 HR q0 q1
  obtain ⟨j, hj, rfl, hJ, hL⟩ := hrel
  by_cases hlt : j < ny
  ·have hje : j < fs.length := by omega
   obtain ⟨g, off, rfl, c0, c1, c2, c3, c4⟩ := fun_at hL.out hje
   have hk0 := (Keep.refl NoB wr).alloc (.cells (fnI fs j).1.cells 37)
   have HY := Lib.hid (hY (List.range j) j _ (hJk _ _ _ hJ hk0) (by simp; omega))
   have HL2 := Lib.hid (hL.out.keepN hk0)
   have HE : Hid (List.range j ++ [j] = List.range (j + 1)) := by show _ = _; rw [List.range_succ]
   have hfi := fnI_at hje
   dsimp only [eaA] at HY
   rw [hfi] at HY HL2
   clear hJ hk0 hfi
   generalize fs[j] = e at c0 c1 c2 c3 c4 HY HL2
   obtain ⟨⟨S1, A1, na1, ca1, B1, nb1, cb1, L1, nl1, cl1, D1, nd1, cd1⟩, f⟩ := e
   dsimp only [F.FV.val, F.FV.cells] at c0 c1 c2 c3 c4 HY HL2
   obtain ⟨fn, tmps, assign, body, hy, hRun⟩ := HY.out
   clear HY hY
   gi_wp2
   refine hRun.mono ?_
   rintro e W3 (⟨rfl, hJ3, hk3⟩ | ⟨rfl, hJx3⟩)
   ·have hL3 := hk3 HL2.out
    rw [HE.out] at hJ3
    gi_wp2
    go_roundw
    case rel => exact ⟨j + 1, by omega, by go_num, hJ3, hL3⟩
    case measure => simp [intOf]; omega
   ·rw [HE.out] at hJx3
    gi_wp2
    refine bodyPost_ret (results_none rfl _ _ _) rfl ?_
    exact ⟨⟨_, rfl⟩, .inr ⟨_, ⟨_, by omega, rfl⟩, hJx3⟩⟩
  ·obtain rfl : j = ny := by omega
   gi_wp2
   go_end0
   exact ⟨⟨_, rfl⟩, .inl ⟨_, rfl, hJ⟩⟩

theorem each_abides {B : Nat} {J : List Nat → World → Prop} (h : AbidesFrom B J) : ∀ pre W W', J pre W → Keep NoB W W' → J pre W' := fun pre W W' hj hk => h pre W W' none hj hk.grows (fun r e => by cases e)
theorem each_stops (m : Nat) (hm : 1 ≤ m) (b : Nat) (v : IV) (fs : List FE) (hl : fs.length = v.ny) (hn : v.ny ≤ 1000) (w : World) (hx : Blk w b 25 v.cells) (hr : Rd w v.Y (fvs fs)) :
  SeqStopsK Fence.wide m Tryz.prog 195 #[.pointer (some ⟨b, 0, none⟩)] (eaA fs) (FsK v.Y fs) (fun ys : List Nat => ys = List.range v.ny) (fun pre : List Nat => ∃ k, k ≤ v.ny ∧ pre = List.range k) v.ny w := fun l J Jx W hb hJ _ hY h0 =>
 each1_in m l hm b v fs hl hn J Jx (each_abides hJ) hY W (Blk.keep hx (Keep.of_below (O := NoB) hb) id) (hr.keepN (Keep.of_below (O := NoB) hb)) h0

set_option maxRecDepth 100000 in
theorem each_any (m : Nat) (v : IV) (w : World) :
  CallsIn Fence.wide m Tryz.prog 126 #[v.val] w fun e w' => e = .returned (.func (.func 195) #[] #[.pointer (some ⟨w.heap.size, 0, none⟩)]) ∧ w' = w.alloc (.cells v.cells 25) := by
 obtain ⟨X, nx, cx, Y, ny, cy⟩ := v
 dsimp only [IV.val, IV.cells]
 refine callsIn_of_wp Tryz.func126 rfl trivial ?_ rfl
 simp only [Tryz.ntmps126, List.size_toArray, List.length_cons, List.length_nil, Nat.reduceAdd, Nat.reduceSub, Array.replicate_succ, Array.replicate_zero, List.push_toArray, List.append_toArray, List.nil_append, List.cons_append]
 gi_wp2
 go_ret
 exact ⟨rfl, rfl⟩

end Go.Proofs.YtgnooffedmeenaaGreatDoor.I
