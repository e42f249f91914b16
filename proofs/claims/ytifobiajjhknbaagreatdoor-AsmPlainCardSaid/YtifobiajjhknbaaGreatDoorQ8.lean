/-
  Which functions may be, however great: what Check of layer function answers. Conditions: the function's lists lie in memory, each of them below 2^47.
  What the laws ask ahead: whether an image is more than statements go through. Conditions: the image's lists lie in memory, each below 2^47.
  Are two functions the same: the program's Same and the document's. Conditions: the functions' lists lie in memory, and are no longer than statements go through.
  Are two images the same: the program's Same, by EqualFunc over shapes and over functions, and the document's. Conditions: the images' lists lie in memory, and are no greater than statements go through.
  AsmNormal's walk: a text's normal one says the same, or is wrong likewise, and is its own normal one. Conditions: what the program's Normal and Parse, and the law's alive, answer, in worlds of a class that making memory keeps.
  What AsmNotes' walk stands on: a builder beside a box that changes; images that are owned, beside a builder; how long a text with notes is. No conditions.
  AsmNotes' walk: notes, blanks and empty lines say nothing. Conditions: what the program's Normal and Parse, and the law's alive, answer, in worlds of a class that making memory keeps.
  A region that draws its order, by what each of its values is, where one operation, number c, writes what lay in the blocks of O, and the words of c and of those that stand behind it (late) may speak of these blocks. No program, no conditions.
  A region that draws its order, by what each of its values is, as in KProps4, but each operation writes a slot of its own, in no order (ds). No program, no conditions.
  A region that draws its order, whose last operations, from number m on, stand behind all that are ahead of them: the first ones are taken by what each of their values is, whatever the order (as in KProps5), the last ones in their order. No program, no conditions.
  What the law's plain answers: the text of an image that may be, by numbers. Conditions: the image lies in memory; what texts are made with stands.
  The text of an image with labels, as AsmPlain writes it, piece by piece; the words that strings.Fields finds. No program.
-/
import Derived.Lib.Fields
import Derived.Test.YtifobiajjhknbaaGreatDoorQ7
import Derived.Test.YtifobiajjhknbaaGreatDoorQ6
import Derived.Test.YtifobiajjhknbaaGreatDoorQ2
import Derived.Test.YtifobiajjhknbaaGreatDoorQ5
namespace Go.Proofs.YtifobiajjhknbaaGreatDoor.F
open Go.RowKit W

/-- A function whose lists a machine holds. -/
structure LgF (v : FV) : Prop where
  sz : v.S.size ≤ 140737488355328
  na : v.na ≤ 140737488355328
  nb : v.nb ≤ 140737488355328
  nl : v.nl ≤ 140737488355328
  nd : v.nd ≤ 140737488355328
theorem SmF.lg {v : FV} (h : SmF v) : LgF v := ⟨by have := h.sz; omega, by have := h.na; omega, by have := h.nb; omega, by have := h.nl; omega, by have := h.nd; omega⟩

set_option maxRecDepth 100000 in
set_option maxHeartbeats 2000000 in
theorem fewL_any (v : FV) (w : World) (h : LgF v) (R : Int) (hR : Hid ((if v.na + v.nb + v.nl ≤ 64 then (0 : Int) else 70) = R)) :
    Calls Tryz.prog 120 #[v.val] w fun e w' => e = .returned (.int .i64 R) ∧ Keep NoB w w' := by
  obtain ⟨S, A, na, ca, B, nb, cb, L, nl, cl, D, nd, cd⟩ := v
  obtain ⟨_, q1, q2, q3, _⟩ := h
  dsimp only at q1 q2 q3 hR
  have bx := Blk.new w 35 (FV.cells ⟨S, A, na, ca, B, nb, cb, L, nl, cl, D, nd, cd⟩)
  have k0 := (Keep.refl NoB w).alloc (.cells (FV.cells ⟨S, A, na, ca, B, nb, cb, L, nl, cl, D, nd, cd⟩) 35)
  dsimp only [FV.val, FV.cells] at bx k0 ⊢
  by_cases h1 : na + nb + nl ≤ 64
  · obtain rfl : 0 = R := by rw [← hR.out, if_pos h1]
    clear hR
    go_enter Tryz.func120, Tryz.ntmps120
    go_wp2
    go_ret
    exact ⟨rfl, k0⟩
  · obtain rfl : 70 = R := by rw [← hR.out, if_neg h1]
    have h2 : (64 : Int) < (na : Int) + (nb : Int) + (nl : Int) := by omega
    clear hR h1
    go_enter Tryz.func120, Tryz.ntmps120
    go_wp2
    go_ret
    exact ⟨rfl, k0⟩

set_option maxRecDepth 100000 in
set_option maxHeartbeats 4000000 in
theorem checksL_any (v : FV) (f : Fu) (w : World) (h : FnAt w v f) (hs : LgF v) (g : Nat) (u0 u1 u2 u3 u4 : Value) (hb : Blk w g 44 #[u0, u1, u2, u3, u4])
    (a0 : AskV 177 107 35 (fnV 120) (v.cells) u0 w)
    (a1 : AskV 178 192 9 (fnV 122) (#[.string v.S]) u1 w)
    (a2 : AskV 181 118 32 (fnV 57) (#[.slice v.A v.na v.ca, .slice v.B v.nb v.cb]) u2 w)
    (a3 : AskV 181 118 32 (fnV 57) (#[.slice v.L v.nl v.cl, .slice none 0 0]) u3 w)
    (a4 : AskV 182 196 33 (fnV 126) (#[.slice v.D v.nd v.cd]) u4 w) :
    Calls Tryz.prog 118 #[.slice (some ⟨g, 0, none⟩) 5 5] w fun e w' => e = .returned (.bool (okF f)) ∧ Keep NoB w w' := by
  obtain ⟨c0, p0, rfl, a0, b0⟩ := a0
  obtain ⟨c1, p1, rfl, a1, b1⟩ := a1
  obtain ⟨c2, p2, rfl, a2, b2⟩ := a2
  obtain ⟨c3, p3, rfl, a3, b3⟩ := a3
  obtain ⟨c4, p4, rfl, a4, b4⟩ := a4
  refine (every_any (some ⟨g, 0, none⟩) [(177, #[.pointer (some ⟨c0, 0, none⟩), .pointer (some ⟨p0, 0, none⟩)]), (178, #[.pointer (some ⟨c1, 0, none⟩), .pointer (some ⟨p1, 0, none⟩)]), (181, #[.pointer (some ⟨c2, 0, none⟩), .pointer (some ⟨p2, 0, none⟩)]), (181, #[.pointer (some ⟨c3, 0, none⟩), .pointer (some ⟨p3, 0, none⟩)]), (182, #[.pointer (some ⟨c4, 0, none⟩), .pointer (some ⟨p4, 0, none⟩)])] 5 5 w rfl (by decide) (bsF v f) (fun _ W => Keep NoB w W) (fun W => Keep NoB w W) ?hcf ?hr ?hq (Keep.refl _ _)).mono ?_
  case hcf =>
    intro q hq
    simp only [List.mem_cons, List.not_mem_nil, or_false] at hq
    rcases hq with rfl | rfl | rfl | rfl | rfl
    · exact enters_of Tryz.func177 (by kernel_rfl) rfl
    · exact enters_of Tryz.func178 (by kernel_rfl) rfl
    · exact enters_of Tryz.func181 (by kernel_rfl) rfl
    · exact enters_of Tryz.func181 (by kernel_rfl) rfl
    · exact enters_of Tryz.func182 (by kernel_rfl) rfl
  case hr =>
    intro i W hK _
    refine ⟨g, 0, rfl, fun j u hu => ?_⟩
    rw [Nat.zero_add, (hb.keep hK id).cell j]
    simpa using hu
  case hq =>
    intro i hi W hK
    have hf := h.keepN hK
    have hi : i = 0 ∨ i = 1 ∨ i = 2 ∨ i = 3 ∨ i = 4 := by simp at hi; omega
    rcases hi with rfl | rfl | rfl | rfl | rfl
    · refine (askedFun_any 120 (enters_of Tryz.func120 (by kernel_rfl) rfl) v c0 p0 W (a0.keep hK id) (b0.keep hK id) _ (bsF v f 0) (few_eq v f) (fewL_any v W hs _ rfl)).mono ?_
      rintro e W' ⟨rfl, hk⟩
      exact ⟨rfl, fun _ => keepN hK hk, fun _ => keepN hK hk⟩
    · refine (askedStr_any 122 (enters_of Tryz.func122 (by kernel_rfl) rfl) v.S c1 p1 W (a1.keep hK id) (b1.keep hK id) (chkN f.nm) (bsF v f 1) (chkN_eq _) ?_).mono ?_
      · refine (named_any v.S f.nm W hf.nm (by have := hs.sz; omega) _ rfl).mono ?_
        rintro e W' ⟨rfl, rfl⟩
        exact ⟨rfl, Keep.refl _ _⟩
      rintro e W' ⟨rfl, hk⟩
      exact ⟨rfl, fun _ => keepN hK hk, fun _ => keepN hK hk⟩
    · refine (askedSig_any 57 (enters_of Tryz.func57 (by kernel_rfl) rfl) _ _ c2 p2 W (a2.keep hK id) (b2.keep hK id) (S.chkG f.ar f.rs) (bsF v f 2) (chkG_eq _ _) (S.chkG_any v.A f.ar v.na v.ca v.B f.rs v.nb v.cb W hf.ra hf.rb hf.la hf.lb (by have := hs.na; omega) (by have := hs.nb; omega) _ rfl)).mono ?_
      rintro e W' ⟨rfl, hk⟩
      exact ⟨rfl, fun _ => keepN hK hk, fun _ => keepN hK hk⟩
    · refine (askedSig_any 57 (enters_of Tryz.func57 (by kernel_rfl) rfl) _ _ c3 p3 W (a3.keep hK id) (b3.keep hK id) (S.chkG f.lc []) (bsF v f 3) (chkG_eq _ _) (S.chkG_any v.L f.lc v.nl v.cl none [] 0 0 W hf.rl (Rd.none_ _ _) hf.ll rfl (by have := hs.nl; omega) (by omega) _ rfl)).mono ?_
      rintro e W' ⟨rfl, hk⟩
      exact ⟨rfl, fun _ => keepN hK hk, fun _ => keepN hK hk⟩
    · refine (askedBod_any 126 (enters_of Tryz.func126 (by kernel_rfl) rfl) v.D v.nd v.cd c4 p4 W (a4.keep hK id) (b4.keep hK id) (C.chkB f.bd) (bsF v f 4) (chkB_eq _) (C.cchk_any v.D f.bd v.nd v.cd W hf.rd hf.ld (by have := hs.nd; omega) _ rfl)).mono ?_
      rintro e W' ⟨rfl, hk⟩
      exact ⟨rfl, fun _ => keepN hK hk, fun _ => keepN hK hk⟩
  rintro e w' (⟨rfl, hb, hk⟩ | ⟨rfl, hb, hk⟩)
  · exact ⟨by rw [bsF_all h hb], hk⟩
  · exact ⟨by rw [bsF_not h hb], hk⟩

set_option maxRecDepth 100000 in
set_option maxHeartbeats 8000000 in
theorem checkL_any (v : FV) (f : Fu) (w : World) (h : FnAt w v f) (hs : LgF v) (R : Int) (hR : Hid (chkF f = R)) :
    Calls Tryz.prog 85 #[v.val] w fun e w' => e = .returned (.int .i64 R) ∧ Keep NoB w w' := by
  have bx := Blk.new w 35 v.cells
  have k0 := (Keep.refl NoB w).alloc (.cells v.cells 35)
  have HF := Lib.hid (h.keepN k0)
  obtain ⟨S, A, na, ca, B, nb, cb, L, nl, cl, D, nd, cd⟩ := v
  have HE := Lib.hid (fun W hf g u0 u1 u2 u3 u4 hb a0 a1 a2 a3 a4 => checksL_any _ f W hf hs g u0 u1 u2 u3 u4 hb a0 a1 a2 a3 a4)
  obtain ⟨q0, q1, q2, q3, q4⟩ := blk5 bx
  dsimp only [FV.val, FV.cells] at bx k0 HF q0 q1 q2 q3 q4 ⊢
  have HX := Lib.hid bx
  clear h hs bx
  generalize hw1 : w.alloc (.cells #[.string S, .slice A na ca, .slice B nb cb, .slice L nl cl, .slice D nd cd] 35) = w1 at k0 HF q0 q1 q2 q3 q4 HX
  go_enter Tryz.func85, Tryz.ntmps85
  go_wp2_with fail
  clear hw1
  refine wp_region_props2 3 99 (NoB) (by kernel_rfl) (by kernel_rfl) (SC ⟨S, A, na, ca, B, nb, cb, L, nl, cl, D, nd, cd⟩ f w.heap.size) (fun i u x y _ h hk => SC_stable _ _ _ i u x y h hk) (of_decide_eq_true rfl) ?step ?spec ?fin
  case step =>
    intro i o a w' ho hic hF hK hA
    have hi : i < 18 := by simpa using (Array.getElem?_eq_some_iff.1 ho).1
    by_cases h0 : i = 0
    · subst h0
      simp only [List.getElem?_toArray, List.getElem?_cons_zero, Option.some.injEq] at ho
      subst ho
      have e1 : a.tmps.getD 1 undef = .pointer (some ⟨w.heap.size, 0, none⟩) := hF.2.2 1 (.inl (by decide))
      have c0 := Keep.cell hK q0 id
      have c1 := Keep.cell hK q1 id
      have c2 := Keep.cell hK q2 id
      have c3 := Keep.cell hK q3 id
      have c4 := Keep.cell hK q4 id
      refine Does.plain rfl ?_
      unfold yieldsK
      go_simp
      exact ⟨rfl, Keep.refl _ _⟩
    by_cases h1 : i = 1
    · subst h1
      simp only [List.getElem?_toArray, List.getElem?_cons_zero, List.getElem?_cons_succ, Option.some.injEq] at ho
      subst ho
      have e3 : a.tmps.getD 3 undef = .agg #[.string S, .slice A na ca, .slice B nb cb, .slice L nl cl, .slice D nd cd] := hA ⟨0, .data⟩ (by simp) rfl
      refine Does.plain rfl ?_
      unfold yieldsK
      go_simp
      refine (passesFun_any 120 ⟨S, A, na, ca, B, nb, cb, L, nl, cl, D, nd, cd⟩ w').mono ?_
      rintro e w2 ⟨u, rfl, h1, h2⟩
      exact ⟨_, rfl, h1, h2⟩
    by_cases h2 : i = 2
    · subst h2
      simp only [List.getElem?_toArray, List.getElem?_cons_zero, List.getElem?_cons_succ, Option.some.injEq] at ho
      subst ho
      have e1 : a.tmps.getD 1 undef = .pointer (some ⟨w.heap.size, 0, none⟩) := hF.2.2 1 (.inl (by decide))
      refine Does.plain rfl ?_
      unfold yieldsK
      go_simp
      exact ⟨rfl, Keep.refl _ _⟩
    by_cases h3 : i = 3
    · subst h3
      simp only [List.getElem?_toArray, List.getElem?_cons_zero, List.getElem?_cons_succ, Option.some.injEq] at ho
      subst ho
      have e5 : a.tmps.getD 5 undef = .pointer (some ⟨w.heap.size, 0, none⟩) := hA ⟨2, .data⟩ (by simp) rfl
      have c0 := Keep.cell hK q0 id
      refine Does.plain rfl ?_
      unfold yieldsK
      go_simp
      exact ⟨rfl, Keep.refl _ _⟩
    by_cases h4 : i = 4
    · subst h4
      simp only [List.getElem?_toArray, List.getElem?_cons_zero, List.getElem?_cons_succ, Option.some.injEq] at ho
      subst ho
      have e6 : a.tmps.getD 6 undef = .string S := hA ⟨3, .data⟩ (by simp) rfl
      refine Does.plain rfl ?_
      unfold yieldsK
      go_simp
      refine (passesStr_any 122 S w').mono ?_
      rintro e w2 ⟨u, rfl, h1, h2⟩
      exact ⟨_, rfl, h1, h2⟩
    by_cases h5 : i = 5
    · subst h5
      simp only [List.getElem?_toArray, List.getElem?_cons_zero, List.getElem?_cons_succ, Option.some.injEq] at ho
      subst ho
      have e1 : a.tmps.getD 1 undef = .pointer (some ⟨w.heap.size, 0, none⟩) := hF.2.2 1 (.inl (by decide))
      refine Does.plain rfl ?_
      unfold yieldsK
      go_simp
      exact ⟨rfl, Keep.refl _ _⟩
    by_cases h6 : i = 6
    · subst h6
      simp only [List.getElem?_toArray, List.getElem?_cons_zero, List.getElem?_cons_succ, Option.some.injEq] at ho
      subst ho
      have e8 : a.tmps.getD 8 undef = .pointer (some ⟨w.heap.size, 1, none⟩) := hA ⟨5, .data⟩ (by simp) rfl
      have c1 := Keep.cell hK q1 id
      have c2 := Keep.cell hK q2 id
      refine Does.plain rfl ?_
      unfold yieldsK
      go_simp
      exact ⟨rfl, Keep.refl _ _⟩
    by_cases h7 : i = 7
    · subst h7
      simp only [List.getElem?_toArray, List.getElem?_cons_zero, List.getElem?_cons_succ, Option.some.injEq] at ho
      subst ho
      have e9 : a.tmps.getD 9 undef = .agg #[.slice A na ca, .slice B nb cb] := hA ⟨6, .data⟩ (by simp) rfl
      refine Does.plain rfl ?_
      unfold yieldsK
      go_simp
      refine (passesSig_any 57 (.slice A na ca) (.slice B nb cb) w').mono ?_
      rintro e w2 ⟨u, rfl, h1, h2⟩
      exact ⟨_, rfl, h1, h2⟩
    by_cases h8 : i = 8
    · subst h8
      simp only [List.getElem?_toArray, List.getElem?_cons_zero, List.getElem?_cons_succ, Option.some.injEq] at ho
      subst ho
      have e1 : a.tmps.getD 1 undef = .pointer (some ⟨w.heap.size, 0, none⟩) := hF.2.2 1 (.inl (by decide))
      refine Does.plain rfl ?_
      unfold yieldsK
      go_simp
      exact ⟨rfl, Keep.refl _ _⟩
    by_cases h9 : i = 9
    · subst h9
      simp only [List.getElem?_toArray, List.getElem?_cons_zero, List.getElem?_cons_succ, Option.some.injEq] at ho
      subst ho
      have e11 : a.tmps.getD 11 undef = .pointer (some ⟨w.heap.size, 3, none⟩) := hA ⟨8, .data⟩ (by simp) rfl
      have c3 := Keep.cell hK q3 id
      refine Does.plain rfl ?_
      unfold yieldsK
      go_simp
      exact ⟨rfl, Keep.refl _ _⟩
    by_cases h10 : i = 10
    · subst h10
      simp only [List.getElem?_toArray, List.getElem?_cons_zero, List.getElem?_cons_succ, Option.some.injEq] at ho
      subst ho
      have e12 : a.tmps.getD 12 undef = .slice L nl cl := hA ⟨9, .data⟩ (by simp) rfl
      refine Does.plain rfl ?_
      unfold yieldsK
      go_simp
      refine (taking_any L nl cl w').mono ?_
      rintro e w2 ⟨rfl, h2⟩
      exact ⟨_, rfl, rfl, h2⟩
    by_cases h11 : i = 11
    · subst h11
      simp only [List.getElem?_toArray, List.getElem?_cons_zero, List.getElem?_cons_succ, Option.some.injEq] at ho
      subst ho
      have e13 : a.tmps.getD 13 undef = .agg #[.slice L nl cl, .slice none 0 0] := hA ⟨10, .data⟩ (by simp) rfl
      refine Does.plain rfl ?_
      unfold yieldsK
      go_simp
      refine (passesSig_any 57 (.slice L nl cl) (.slice none 0 0) w').mono ?_
      rintro e w2 ⟨u, rfl, h1, h2⟩
      exact ⟨_, rfl, h1, h2⟩
    by_cases h12 : i = 12
    · subst h12
      simp only [List.getElem?_toArray, List.getElem?_cons_zero, List.getElem?_cons_succ, Option.some.injEq] at ho
      subst ho
      have e1 : a.tmps.getD 1 undef = .pointer (some ⟨w.heap.size, 0, none⟩) := hF.2.2 1 (.inl (by decide))
      refine Does.plain rfl ?_
      unfold yieldsK
      go_simp
      exact ⟨rfl, Keep.refl _ _⟩
    by_cases h13 : i = 13
    · subst h13
      simp only [List.getElem?_toArray, List.getElem?_cons_zero, List.getElem?_cons_succ, Option.some.injEq] at ho
      subst ho
      have e15 : a.tmps.getD 15 undef = .pointer (some ⟨w.heap.size, 4, none⟩) := hA ⟨12, .data⟩ (by simp) rfl
      have c4 := Keep.cell hK q4 id
      refine Does.plain rfl ?_
      unfold yieldsK
      go_simp
      exact ⟨rfl, Keep.refl _ _⟩
    by_cases h14 : i = 14
    · subst h14
      simp only [List.getElem?_toArray, List.getElem?_cons_zero, List.getElem?_cons_succ, Option.some.injEq] at ho
      subst ho
      have e16 : a.tmps.getD 16 undef = .slice D nd cd := hA ⟨13, .data⟩ (by simp) rfl
      refine Does.plain rfl ?_
      unfold yieldsK
      go_simp
      refine (passesBod_any 126 D nd cd w').mono ?_
      rintro e w2 ⟨u, rfl, h1, h2⟩
      exact ⟨_, rfl, h1, h2⟩
    by_cases h15 : i = 15
    · subst h15
      simp only [List.getElem?_toArray, List.getElem?_cons_zero, List.getElem?_cons_succ, Option.some.injEq] at ho
      subst ho
      obtain ⟨c0, p0, e4, a0, b0⟩ := hA ⟨1, .data⟩ (by simp) rfl
      have e4 : a.tmps.getD 4 undef = askV 177 #[.pointer (some ⟨c0, 0, none⟩), .pointer (some ⟨p0, 0, none⟩)] := e4
      obtain ⟨c1, p1, e7, a1, b1⟩ := hA ⟨4, .data⟩ (by simp) rfl
      have e7 : a.tmps.getD 7 undef = askV 178 #[.pointer (some ⟨c1, 0, none⟩), .pointer (some ⟨p1, 0, none⟩)] := e7
      obtain ⟨c2, p2, e10, a2, b2⟩ := hA ⟨7, .data⟩ (by simp) rfl
      have e10 : a.tmps.getD 10 undef = askV 181 #[.pointer (some ⟨c2, 0, none⟩), .pointer (some ⟨p2, 0, none⟩)] := e10
      obtain ⟨c3, p3, e14, a3, b3⟩ := hA ⟨11, .data⟩ (by simp) rfl
      have e14 : a.tmps.getD 14 undef = askV 181 #[.pointer (some ⟨c3, 0, none⟩), .pointer (some ⟨p3, 0, none⟩)] := e14
      obtain ⟨c4, p4, e17, a4, b4⟩ := hA ⟨14, .data⟩ (by simp) rfl
      have e17 : a.tmps.getD 17 undef = askV 182 #[.pointer (some ⟨c4, 0, none⟩), .pointer (some ⟨p4, 0, none⟩)] := e17
      refine Does.plain rfl ?_
      unfold yieldsK
      unfold askV at *
      simp only [Array.getD_eq_getD_getElem?] at e4 e7 e10 e14 e17
      go_simp
      refine ⟨⟨w'.heap.size, _, _, _, _, _, rfl, Blk.new _ _ _, ⟨c0, p0, rfl, a0.alloc _, b0.alloc _⟩, ⟨c1, p1, rfl, a1.alloc _, b1.alloc _⟩, ⟨c2, p2, rfl, a2.alloc _, b2.alloc _⟩, ⟨c3, p3, rfl, a3.alloc _, b3.alloc _⟩, ⟨c4, p4, rfl, a4.alloc _, b4.alloc _⟩⟩, (Keep.refl _ _).alloc _⟩
    by_cases h16 : i = 16
    · subst h16
      simp only [List.getElem?_toArray, List.getElem?_cons_zero, List.getElem?_cons_succ, Option.some.injEq] at ho
      subst ho
      obtain ⟨g, u0, u1, u2, u3, u4, e18, hb, a0, a1, a2, a3, a4⟩ := hA ⟨15, .data⟩ (by simp) rfl
      have e18 : a.tmps.getD 18 undef = .slice (some ⟨g, 0, none⟩) 5 5 := e18
      refine Does.plain rfl ?_
      unfold yieldsK
      go_simp
      refine (HE.out w' (HF.out.keepN hK) g u0 u1 u2 u3 u4 hb a0 a1 a2 a3 a4).mono ?_
      rintro e w2 ⟨rfl, h2⟩
      exact ⟨_, rfl, rfl, h2⟩
    by_cases h17 : i = 17
    · subst h17
      simp only [List.getElem?_toArray, List.getElem?_cons_zero, List.getElem?_cons_succ, Option.some.injEq] at ho
      subst ho
      have e19 : a.tmps.getD 19 undef = .bool (okF f) := hA ⟨16, .data⟩ (by simp) rfl
      refine Does.plain rfl ?_
      unfold yieldsK
      go_simp
      exact ⟨rfl, Keep.refl _ _⟩
    omega
  case spec =>
    intro o a w' ho
    simp at ho
  case fin =>
    intro a w' hF gK hA
    have e20 : a.tmps.getD (3 + 17) undef = .bool (!okF f) := hA 17 (by decide)
    have ha := frame_fill (n := 18) hF (of_decide_eq_true rfl)
    rw [ha]
    rw [show List.range 18 = [0, 1, 2, 3, 4, 5, 6, 7, 8, 9, 10, 11, 12, 13, 14, 15, 16, 17] from rfl]
    simp only [List.map_cons, List.map_nil, e20]
    generalize a.tmps.getD (3 + 0) undef = u0
    generalize a.tmps.getD (3 + 1) undef = u1
    generalize a.tmps.getD (3 + 2) undef = u2
    generalize a.tmps.getD (3 + 3) undef = u3
    generalize a.tmps.getD (3 + 4) undef = u4
    generalize a.tmps.getD (3 + 5) undef = u5
    generalize a.tmps.getD (3 + 6) undef = u6
    generalize a.tmps.getD (3 + 7) undef = u7
    generalize a.tmps.getD (3 + 8) undef = u8
    generalize a.tmps.getD (3 + 9) undef = u9
    generalize a.tmps.getD (3 + 10) undef = u10
    generalize a.tmps.getD (3 + 11) undef = u11
    generalize a.tmps.getD (3 + 12) undef = u12
    generalize a.tmps.getD (3 + 13) undef = u13
    generalize a.tmps.getD (3 + 14) undef = u14
    generalize a.tmps.getD (3 + 15) undef = u15
    generalize a.tmps.getD (3 + 16) undef = u16
    simp only [fillT, List.setIfInBounds_toArray, List.set_cons_zero, List.set_cons_succ]
    have HR := Lib.hid (keepN k0 gK)
    clear gK k0 hA hF ha e20 HE HF HX q0 q1 q2 q3 q4
    cases ho : okF f
    · obtain rfl : 70 = R := by rw [← hR.out]; exact (chkF_no ho).symm
      clear hR ho
      go_wp2
      go_ret
      exact ⟨rfl, HR.out⟩
    · obtain rfl : 0 = R := by rw [← hR.out]; exact (chkF_ok ho).symm
      clear hR ho
      go_wp2
      go_ret
      exact ⟨rfl, HR.out⟩

end Go.Proofs.YtifobiajjhknbaaGreatDoor.F

namespace Go.Proofs.YtifobiajjhknbaaGreatDoor.I
open Go.RowKit W

theorem blk2 {w : World} {g : Nat} {v : IV} (h : Blk w g 27 v.cells) : w.cell? ⟨g, 0, none⟩ = some (.slice v.X v.nx v.cx) ∧ w.cell? ⟨g, 1, none⟩ = some (.slice v.Y v.ny v.cy) := ⟨h.cell 0, h.cell 1⟩
/-- An image whose lists a machine holds. -/
structure LgI (v : IV) (es : List SE) (fs : List FE) : Prop where
  nx : v.nx ≤ 140737488355328
  ny : v.ny ≤ 140737488355328
  sh : ∀ e ∈ es, e.1.n ≤ 140737488355328
  fn : ∀ e ∈ fs, F.LgF e.1

end Go.Proofs.YtifobiajjhknbaaGreatDoor.I

namespace Go.Proofs.YtifobiajjhknbaaGreatDoor.F
open Go.RowKit W

end Go.Proofs.YtifobiajjhknbaaGreatDoor.F

namespace Go.Proofs.YtifobiajjhknbaaGreatDoor.I
open Go.RowKit W

end Go.Proofs.YtifobiajjhknbaaGreatDoor.I

namespace Go.Proofs.YtifobiajjhknbaaGreatDoor.M
open Go.RowKit W

/-- What the program's Parse answers. -/
def ParseR (R : I.Im × Nat × Int) (w : World) (e : Ending) (w' : World) : Prop :=
  ∃ (v : I.IV) (es : List I.SE) (fs : List I.FE), e = .returned (.tuple #[v.val, .int .i64 ((R.2.1 : Nat) : Int), .int .i64 R.2.2]) ∧ I.OwnIm w' (Fresh w) v es fs ∧ I.SmI es fs ∧ I.imOf es fs = R.1 ∧ Keep NoB w w'
def ParseT (T : World → Prop) : Prop := ∀ (S : ByteArray) (s : Bs) (W : World), T W → Hid (S.data.toList = s) → S.size ≤ 140000 →
  Calls Tryz.prog 8 #[.string S] W (ParseR (parseL s) W)
/-- What the law's alive answers. -/
def AliveT (T : World → Prop) : Prop := ∀ W, T W → Calls Tryz.prog 14 #[] W fun e w' => e = .returned (.bool true) ∧ Keep NoB W w'
theorem same_self (p : I.Im) : I.sameI p p = true := by unfold I.sameI; simp
theorem keepM {a b c : World} (h : Keep NoB a b) (k : Keep NoB b c) : Keep NoB a c := h.trans k (fun _ h _ => h.elim)

end Go.Proofs.YtifobiajjhknbaaGreatDoor.M

namespace Go.Proofs.YtifobiajjhknbaaGreatDoor.M
open Go.RowKit Go.Shelf W

theorem bld_cells {b : Nat} {s : Bs} {w : World} (h : Bld b s w) : ∃ p v, w.heap[b]? = some (.cells #[p, v] 52 (0, 0)) ∧ w.ownsRowF b 5 1 v (Lib.byteCells s).length (Lib.byteCells s) := by
  rcases h with ⟨_, v, h1, h2, _⟩ | ⟨_, v, h1, h2, _⟩
  · exact ⟨_, v, h1, h2⟩
  · exact ⟨_, v, h1, h2⟩
end Go.Proofs.YtifobiajjhknbaaGreatDoor.M

namespace Go.Proofs.YtifobiajjhknbaaGreatDoor.M
open Go.RowKit Go.Shelf W
attribute [local go_sem] Oper.semAt_some

theorem keep_below {w W W' : World} {b : Nat} (hk : Keep NoB w W) (hb : Below b W W') (h : w.heap.size ≤ b) : Keep NoB w W' :=
  hk.trans (O' := fun k => b ≤ k) ⟨hb.os, hb.tape, hb.output, hb.size, fun k _ hn => hb.block k (by omega)⟩ (fun k hk hl => by omega)
/-- What Parse answers, laid open. -/
def ParseO (p : I.Im) (l : Nat) (c : Int) (w : World) (e : Ending) (w' : World) : Prop :=
  ∃ X nx cx Y ny cy, ∃ (es : List I.SE) (fs : List I.FE), e = .returned (.tuple #[.agg #[.slice X nx cx, .slice Y ny cy], .int .i64 (l : Int), .int .i64 c]) ∧ I.OwnIm w' (Fresh w) ⟨X, nx, cx, Y, ny, cy⟩ es fs ∧ I.SmI es fs ∧ I.imOf es fs = p ∧ Keep NoB w w'
theorem parseO_of {p : I.Im} {l : Nat} {c : Int} {w w' : World} {e : Ending} (h : ParseR (p, l, c) w e w') : ParseO p l c w e w' := by
  obtain ⟨⟨X, nx, cx, Y, ny, cy⟩, es, fs, h1, h2⟩ := h
  exact ⟨X, nx, cx, Y, ny, cy, es, fs, h1, h2⟩
/-- What holds behind the range. -/
def NF (w : World) (b D : Nat) (t : Bs) (W : World) : Prop := Keep NoB w W ∧ Bld b t W ∧ W.heap[D]? = some (.deferred (some []))
theorem NF.keep {w W W' : World} {b D : Nat} {t : Bs} (h : NF w b D t W) (hk : Keep NoB W W') : NF w b D t W' :=
  ⟨keepM h.1 hk, bld_keep h.2.1 hk, (hk.block D (Array.getElem?_eq_some_iff.1 h.2.2).1 id).trans h.2.2⟩
theorem NF.str {w W W' : World} {b D : Nat} {t : Bs} (h : NF w b D t W) (h1 : Bld b t W') (h2 : Below b W W') (h3 : Lib.OthersKept 5 (some b) W W') (hb : w.heap.size ≤ b) (hD : b < D) : NF w b D t W' :=
  ⟨keep_below h.1 h2 hb, h1, h3 D _ h.2.2 (by simp; omega) (fun c fz e => by cases e)⟩
end Go.Proofs.YtifobiajjhknbaaGreatDoor.M

namespace Go.Proofs.YtifobiajjhknbaaGreatDoor
open Go.RowKit
section
variable {P : Program} {md : Region.Mode} {ops : Array Oper}

end
end Go.Proofs.YtifobiajjhknbaaGreatDoor

namespace Go.Proofs.YtifobiajjhknbaaGreatDoor
open Go.RowKit
section
variable {P : Program} {md : Region.Mode} {ops : Array Oper}

/-- What lies in other slots stays. -/
def FrameD (a0 : Act) (ds : Nat → Nat) (n : Nat) (a : Act) : Prop := a.defers = a0.defers ∧ a.tmps.size = a0.tmps.size ∧ ∀ s, (∀ i, i < n → s ≠ ds i) → a.tmps.getD s undef = a0.tmps.getD s undef
def fitsD (ops : Array Oper) (ds : Nat → Nat) (n : Nat) : Bool := (List.range ops.size).all fun i => ((ops[i]?).bind (·.dst)).isNone || decide (ds i < n)
theorem fitsD_at {ds : Nat → Nat} {n : Nat} (h : fitsD ops ds n = true) {i : Nat} {o : Oper} (ho : ops[i]? = some o) {d : Nat} (hd : o.dst = some d) : ds i < n := by
  have hi := (Array.getElem?_eq_some_iff.1 ho).1
  have h1 := List.all_eq_true.1 h i (List.mem_range.2 hi)
  simpa [ho, hd] using h1
/-- The slots' values put one by one. -/
def fillD (t : Array Value) : List (Nat × Value) → Array Value
  | [] => t
  | x :: vs => fillD (t.setIfInBounds x.1 x.2) vs
theorem fillD_size : ∀ (vs : List (Nat × Value)) (t : Array Value), (fillD t vs).size = t.size
  | [], _ => rfl
  | x :: vs, t => by rw [fillD, fillD_size vs]; simp
theorem fillD_get : ∀ (vs : List (Nat × Value)) (t u : Array Value) (s : Nat), t.size = u.size → (∀ x ∈ vs, x.2 = u.getD x.1 undef) → ((∃ x ∈ vs, x.1 = s) ∨ t.getD s undef = u.getD s undef) → (fillD t vs).getD s undef = u.getD s undef
  | [], _, _, _, _, _, h => by
    rcases h with ⟨x, hx, _⟩ | h
    · cases hx
    · exact h
  | x :: vs, t, u, s, hz, hv, h => by
    rw [fillD]
    refine fillD_get vs _ u s (by simpa using hz) (fun y hy => hv y (List.mem_cons_of_mem _ hy)) ?_
    by_cases e : x.1 = s
    · refine .inr ?_
      have h1 := hv x List.mem_cons_self
      by_cases hs : s < t.size
      · rw [h1, e]
        have hs2 : s < u.size := by omega
        simp [hs]
      · have hs2 : ¬ s < u.size := by omega
        simp [hs, hs2]
    · rcases h with ⟨y, hy, hye⟩ | h
      · rcases List.mem_cons.1 hy with rfl | hy
        · exact absurd hye e
        · exact .inl ⟨y, hy, hye⟩
      · refine .inr ?_
        simp only [Array.getD_eq_getD_getElem?, Array.getElem?_setIfInBounds] at h ⊢
        rw [if_neg e]; exact h
theorem frameD_fill {a0 a : Act} {ds : Nat → Nat} {n : Nat} (h : FrameD a0 ds n a) : a = { tmps := fillD a0.tmps ((List.range n).map fun i => (ds i, a.tmps.getD (ds i) undef)), defers := a0.defers } := by
  obtain ⟨h1, h2, h3⟩ := h
  have e : a.tmps = fillD a0.tmps ((List.range n).map fun i => (ds i, a.tmps.getD (ds i) undef)) := by
    apply Array.ext
    · rw [fillD_size, h2]
    · intro s hs1 hs2
      have := fillD_get ((List.range n).map fun i => (ds i, a.tmps.getD (ds i) undef)) a0.tmps a.tmps s h2.symm (fun x hx => by
        obtain ⟨i, _, rfl⟩ := List.mem_map.1 hx; rfl) (by
        by_cases hc : ∃ i, i < n ∧ ds i = s
        · obtain ⟨i, hi, hie⟩ := hc
          exact .inl ⟨_, List.mem_map.2 ⟨i, List.mem_range.2 hi, rfl⟩, hie⟩
        · exact .inr (h3 s (fun i hi e => hc ⟨i, hi, e.symm⟩)).symm)
      rw [Array.getD_eq_getD_getElem?, Array.getD_eq_getD_getElem?, Array.getElem?_eq_getElem hs2, Array.getElem?_eq_getElem hs1] at this
      simpa using this.symm
  cases a
  simp only at h1 e
  rw [h1, ← e]

theorem frameD_list {a0 a : Act} {l : List Nat} {n : Nat} (hn : n = l.length) (h : FrameD a0 (fun i => l.getD i 0) n a) : a = { tmps := fillD a0.tmps (l.map fun d => (d, a.tmps.getD d undef)), defers := a0.defers } := by
  subst hn
  have h1 := frameD_fill h
  have e : ((List.range l.length).map fun i => (l.getD i 0, a.tmps.getD (l.getD i 0) undef)) = l.map fun d => (d, a.tmps.getD d undef) := by
    apply List.ext_getElem?
    intro i
    by_cases hi : i < l.length
    · rw [List.getElem?_map, List.getElem?_range hi, List.getElem?_map, List.getElem?_eq_getElem hi]
      simp [List.getD, List.getElem?_eq_getElem hi]
    · rw [List.getElem?_eq_none (by simp; omega), List.getElem?_eq_none (by simp; omega)]
  rw [e] at h1
  exact h1

end
end Go.Proofs.YtifobiajjhknbaaGreatDoor

namespace Go.Proofs.YtifobiajjhknbaaGreatDoor
open Go.RowKit
section
variable {P : Program} {md : Region.Mode} {ops : Array Oper}

/-- Each number ahead of j has one behind it, up to j. -/
def allBehind (md : Region.Mode) (ops : Array Oper) (j : Nat) : Bool := (List.range j).all fun i => (List.range (j + 1)).any fun k => decide (i < k) && match ops[k]? with
  | none => false
  | some o => o.after.any fun e => Region.binds md e && e.on == i
/-- So it is with all from m on. -/
def tailG (md : Region.Mode) (ops : Array Oper) (m : Nat) : Bool := (List.range ops.size).all fun j => decide (j < m) || allBehind md ops j
/-- The first m write each a slot of its own, and stand behind earlier ones alone. -/
def headG (ops : Array Oper) (ds : Nat → Nat) (m : Nat) : Bool := (List.range m).all fun i => match ops[i]? with
  | none => false
  | some o => o.dst == some (ds i) && ((o.after.all fun e => decide (e.on < i)) && (List.range m).all fun j => i == j || !(ds i == ds j))
def onlyB (ops : Array Oper) : Bool := (List.range ops.size).all fun i => match ops[i]? with
  | none => false
  | some o => o.after.all fun e => decide (e.on < i)
theorem onlyB_at (h : onlyB ops = true) {i : Nat} {o : Oper} (ho : ops[i]? = some o) : ∀ e ∈ o.after, e.on < i := by
  have hi := (Array.getElem?_eq_some_iff.1 ho).1
  have h1 := List.all_eq_true.1 h i (List.mem_range.2 hi)
  simp only [ho] at h1
  intro e he
  have := Array.all_eq_true_iff_forall_mem.1 h1 e he
  simpa using this
theorem headG_at {ds : Nat → Nat} {m : Nat} (h : headG ops ds m = true) {i : Nat} (hi : i < m) {o : Oper} (ho : ops[i]? = some o) : o.dst = some (ds i) ∧ ∀ j, j < m → j ≠ i → ds j ≠ ds i := by
  have h1 := List.all_eq_true.1 h i (List.mem_range.2 hi)
  simp only [ho, Bool.and_eq_true] at h1
  obtain ⟨h1, _, h4⟩ := h1
  refine ⟨by simpa using h1, fun j hj hne e => ?_⟩
  have h5 := List.all_eq_true.1 h4 j (List.mem_range.2 hj)
  rw [e] at h5
  simp at h5
  exact hne h5.symm
/-- What is listed has all listed that it stands behind. -/
def Closed (md : Region.Mode) (ops : Array Oper) (listed : Array Bool) : Prop := ∀ k o, ops[k]? = some o → listed.getD k true = true → ∀ e ∈ o.after, Region.binds md e = true → listed.getD e.on true = true
theorem behind_all {j : Nat} (h : allBehind md ops j = true) {listed : Array Bool} (hC : Closed md ops listed) {o : Oper} (ho : ops[j]? = some o) (hr : ∀ e ∈ o.after, Region.binds md e = true → listed.getD e.on true = true) : ∀ i, i < j → listed.getD i true = true := by
  have key : ∀ d i, i + d = j → 0 < d → listed.getD i true = true := by
    intro d
    induction d using Nat.strongRecOn with
    | ind d ih =>
      intro i hd h0
      have h1 := List.all_eq_true.1 h i (List.mem_range.2 (by omega))
      obtain ⟨k, hk, h2⟩ := List.any_eq_true.1 h1
      have hk' := List.mem_range.1 hk
      simp only [Bool.and_eq_true, decide_eq_true_eq] at h2
      obtain ⟨hik, h3⟩ := h2
      cases hok : ops[k]? with
      | none => rw [hok] at h3; cases h3
      | some q =>
        rw [hok] at h3
        obtain ⟨x, hx, h4⟩ := Array.any_eq_true.1 h3
        simp only [Bool.and_eq_true, beq_iff_eq] at h4
        obtain ⟨hb, hon⟩ := h4
        by_cases e : k = j
        · subst e
          rw [ho] at hok
          injection hok with hok
          subst hok
          have := hr _ (Array.getElem_mem hx) hb
          rw [hon] at this; exact this
        · have hk2 := ih (j - k) (by omega) k (by omega) (by omega)
          have := hC k q hok hk2 _ (Array.getElem_mem hx) hb
          rw [hon] at this; exact this
  intro i hi
  exact key (j - i) i (by omega) (by omega)
theorem getD_set_self {listed : Array Bool} {i : Nat} (h : i < listed.size) : (listed.setIfInBounds i true).getD i true = true := by simp [h]
theorem getD_set_up {listed : Array Bool} {i n : Nat} (h : listed.getD n true = true) : (listed.setIfInBounds i true).getD n true = true := by
  by_cases e : i = n
  · subst e
    by_cases h5 : i < listed.size
    · simp [h5]
    · simp [h5]
  · rw [getD_set_ne true e]; exact h
theorem closed_set {listed : Array Bool} (hC : Closed md ops listed) {i : Nat} {o : Oper} (ho : ops[i]? = some o) (hr : ∀ e ∈ o.after, Region.binds md e = true → listed.getD e.on true = true) : Closed md ops (listed.setIfInBounds i true) := by
  intro k q hq hl e he hb
  by_cases ek : k = i
  · subst ek
    rw [ho] at hq
    injection hq with hq
    subst hq
    exact getD_set_up (hr e he hb)
  · rw [getD_set_ne true (Ne.symm ek)] at hl
    exact getD_set_up (hC k q hq hl e he hb)
theorem ready_getD {listed : Array Bool} (hB : onlyB ops = true) (hs : listed.size = ops.size) {i : Nat} {o : Oper} (ho : ops[i]? = some o) (hall : ∀ e ∈ o.after, Region.binds md e = true → listed.getD e.on false = true) : ∀ e ∈ o.after, Region.binds md e = true → listed.getD e.on true = true := by
  intro e he hb
  have h2 := hall e he hb
  have h3 := onlyB_at hB ho e he
  have h5 := (Array.getElem?_eq_some_iff.1 ho).1
  have h4 : e.on < listed.size := by omega
  simpa [h4] using h2

/-- The last ones, in their order. -/
theorem wpAny_chain {Q : Exit → Act → World → Prop} {m : Nat} (hB : onlyB ops = true) (hT : tailG md ops m = true) : ∀ (fuel j : Nat) (listed : Array Bool) (a : Act) (w : World), m ≤ j → listed.size = ops.size → ops.size ≤ j + fuel → Closed md ops listed →
    (∀ i, i < j → listed.getD i true = true) → (∀ i, j ≤ i → i < ops.size → listed.getD i true = false) → wpList P ops Q (ops.toList.drop j) a w → wpAny P md ops Q fuel listed a w := by
  intro fuel
  induction fuel with
  | zero =>
    intro j listed a w hm hs hf hC h1 h2 h
    rw [List.drop_eq_nil_of_le (by simpa using hf)] at h
    refine ⟨?_, h⟩
    rw [List.eq_nil_iff_forall_not_mem]
    intro i hi
    obtain ⟨hl, o, ho, _⟩ := mem_ready.1 hi
    rw [h1 i (by have := (Array.getElem?_eq_some_iff.1 ho).1; omega)] at hl; cases hl
  | succ fuel ih =>
    intro j listed a w hm hs hf hC h1 h2 h
    refine ⟨fun h0 => ?_, fun i hi => ?_⟩
    · by_cases hj : j < ops.size
      · have ho : ops[j]? = some ops[j] := Array.getElem?_eq_getElem hj
        have : j ∈ Region.ready md ops listed := mem_ready.2 ⟨h2 j (Nat.le_refl _) hj, ops[j], ho, fun e he _ => by
          have h3 := onlyB_at hB ho e he
          have h4 := h1 e.on h3
          have h5 : e.on < listed.size := by omega
          simpa [h5] using h4⟩
        rw [h0] at this; cases this
      · rw [List.drop_eq_nil_of_le (by simpa using hj)] at h
        exact h
    · obtain ⟨hl, o, ho, hall⟩ := mem_ready.1 hi
      have hi' := (Array.getElem?_eq_some_iff.1 ho).1
      have hr := ready_getD (listed := listed) hB hs ho (fun e he hb => hall e he hb)
      have hji : j ≤ i := by
        rcases Nat.lt_or_ge i j with h5 | h5
        · rw [h1 i h5] at hl; cases hl
        · exact h5
      have hb := List.all_eq_true.1 hT i (List.mem_range.2 hi')
      simp only [Bool.or_eq_true, decide_eq_true_eq] at hb
      have hb : allBehind md ops i = true := hb.resolve_left (by omega)
      have hlt := behind_all hb hC ho hr
      obtain rfl : i = j := by
        rcases Nat.lt_or_eq_of_le hji with h5 | h5
        · have := hlt j h5
          rw [h2 j (Nat.le_refl _) (by omega)] at this; cases this
        · exact h5.symm
      have hd : ops.toList.drop i = o :: ops.toList.drop (i + 1) := by
        have hi2 : i < ops.toList.length := by simpa using hi'
        rw [List.drop_eq_getElem_cons hi2]
        congr 1
        have := (Array.getElem?_eq_some_iff.1 ho).2
        simpa using this
      rw [hd] at h
      have hK : ∀ (a' : Act) (w' : World), wpList P ops Q (ops.toList.drop (i + 1)) a' w' → wpAny P md ops Q fuel (listed.setIfInBounds i true) a' w' := fun a' w' h' =>
        ih (i + 1) _ a' w' (by omega) (by simpa using hs) (by omega) (closed_set hC ho hr) (fun k hk => by
          rcases Nat.lt_succ_iff_lt_or_eq.1 hk with h5 | rfl
          · exact getD_set_up (h1 k h5)
          · exact getD_set_self (by omega)) (fun k hk1 hk2 => by rw [getD_set_ne true (by omega)]; exact h2 k (by omega) hk2) h'
      unfold wpOp
      simp only [ho]
      unfold wpList at h
      split
      · rename_i hw
        rw [if_pos hw] at h
        rcases h with h | h
        · exact .inl (Oper.wp_mono hK h)
        · exact .inr h
      · rename_i hw
        rw [if_neg hw] at h
        exact hK _ _ h

theorem wpAny_tail {Q : Exit → Act → World → Prop} (ds : Nat → Nat) (m : Nat) (hm : m ≤ ops.size) (hO : onlyB ops = true) (hB : headG ops ds m = true) (hT : tailG md ops m = true) (S : Nat → Value → World → Prop) (hS : ∀ i v w w', S i v w → Keep NoB w w' → S i v w') (w0 : World) (a0 : Act) (hsz : fitsD ops ds a0.tmps.size = true)
    (hstep : ∀ i o (a : Act) (w : World), ops[i]? = some o → i < m → FrameD a0 ds m a → Keep NoB w0 w → (∀ e ∈ o.after, Region.binds md e = true → S e.on (a.tmps.getD (ds e.on) undef) w) → Does P ops o a w fun u w' => S i u w' ∧ Keep NoB w w')
    (hend : ∀ (a : Act) (w : World), FrameD a0 ds m a → Keep NoB w0 w → (∀ i, i < m → S i (a.tmps.getD (ds i) undef) w) → wpList P ops Q (ops.toList.drop m) a w) :
    ∀ (fuel : Nat) (listed : Array Bool) (a : Act) (w : World), listed.size = ops.size → (∃ L : List Nat, L.length + (ops.size - m) ≤ fuel ∧ ∀ i, i < m → listed.getD i true = false → i ∈ L) → Closed md ops listed → (∀ i, m ≤ i → i < ops.size → listed.getD i true = false) → FrameD a0 ds m a → Keep NoB w0 w →
      (∀ i, i < m → listed.getD i true = true → S i (a.tmps.getD (ds i) undef) w) → wpAny P md ops Q fuel listed a w := by
  intro fuel
  induction fuel with
  | zero =>
    intro listed a w hs ⟨L, hL, hin⟩ hC hN hF hK hA
    have hall : ∀ i, i < m → listed.getD i true = true := fun i hi => by
      cases h : listed.getD i true
      · have := hin i hi h
        rw [List.length_eq_zero_iff.1 (by omega : L.length = 0)] at this; cases this
      · rfl
    exact wpAny_chain hO hT 0 m listed a w (Nat.le_refl _) hs (by omega) hC hall hN (hend a w hF hK fun i hi => hA i hi (hall i hi))
  | succ fuel ih =>
    intro listed a w hs ⟨L, hL, hin⟩ hC hN hF hK hA
    by_cases hdone : ∀ i, i < m → listed.getD i true = true
    · exact wpAny_chain hO hT (fuel + 1) m listed a w (Nat.le_refl _) hs (by omega) hC hdone hN (hend a w hF hK fun i hi => hA i hi (hdone i hi))
    refine ⟨fun h0 => ?_, fun i hi => ?_⟩
    · refine absurd (fun i => ?_) hdone
      induction i using Nat.strongRecOn with
      | ind i ih2 =>
        intro hi
        cases hl : listed.getD i true
        · have hio : i < ops.size := by omega
          have ho : ops[i]? = some ops[i] := Array.getElem?_eq_getElem hio
          have : i ∈ Region.ready md ops listed := mem_ready.2 ⟨hl, ops[i], ho, fun e he _ => by
            have h3 := onlyB_at hO ho e he
            have h4 := ih2 e.on h3 (by omega)
            have h5 : e.on < listed.size := by omega
            simpa [h5] using h4⟩
          rw [h0] at this; cases this
        · rfl
    · obtain ⟨h1, o, ho, hall⟩ := mem_ready.1 hi
      have hi' := (Array.getElem?_eq_some_iff.1 ho).1
      have hr := ready_getD (listed := listed) hO hs ho (fun e he hb => hall e he hb)
      have him : i < m := by
        rcases Nat.lt_or_ge i m with h5 | h5
        · exact h5
        · have hb := List.all_eq_true.1 hT i (List.mem_range.2 hi')
          simp only [Bool.or_eq_true, decide_eq_true_eq] at hb
          have hb : allBehind md ops i = true := hb.resolve_left (by omega)
          exact absurd (fun k hk => behind_all hb hC ho hr k (by omega)) hdone
      obtain ⟨hd, hdis⟩ := headG_at hB him ho
      have hdoes := hstep i o a w ho him hF hK fun e he hb => hA e.on (by have := onlyB_at hO ho e he; omega) (hr e he hb)
      have hnext : ∀ u w', S i u w' → Keep NoB w w' → wpAny P md ops Q fuel (listed.setIfInBounds i true) (a.put o.dst u) w' := by
        intro u w' hSu hk
        rw [hd]
        have hds : ds i < a.tmps.size := by rw [hF.2.1]; exact fitsD_at hsz ho hd
        have hget : ∀ s, (a.put (some (ds i)) u).tmps.getD s undef = if s = ds i then u else a.tmps.getD s undef := fun s => by
          unfold Act.put
          by_cases e : s = ds i
          · subst e; simp [hds]
          · rw [if_neg e]
            simp only [Array.getD_eq_getD_getElem?, Array.getElem?_setIfInBounds]
            rw [if_neg (fun h => e h.symm)]
        refine ih (listed.setIfInBounds i true) _ w' (by simpa using hs) ⟨L.erase i, ?_, fun k hk' hl => ?_⟩ (closed_set hC ho hr) (fun k hk1 hk2 => by rw [getD_set_ne true (by omega)]; exact hN k hk1 hk2) ⟨hF.1, by unfold Act.put; simpa using hF.2.1, fun s hs' => by rw [hget, if_neg (hs' i him)]; exact hF.2.2 s hs'⟩ (keepN hK hk) fun k hk' hl => ?_
        · have hmem := hin i him h1
          have hpos := List.length_pos_of_mem hmem
          rw [List.length_erase_of_mem hmem]; omega
        · have hki : k ≠ i := by
            rintro rfl
            rw [getD_set_self (by omega)] at hl; cases hl
          rw [getD_set_ne true (Ne.symm hki)] at hl
          exact (List.mem_erase_of_ne hki).2 (hin k hk' hl)
        · by_cases e : k = i
          · subst e
            rw [hget, if_pos rfl]; exact hSu
          · rw [hget, if_neg (hdis k hk' e)]
            exact hS k _ _ _ (hA k hk' (by rw [getD_set_ne true (Ne.symm e)] at hl; exact hl)) hk
      unfold wpOp
      simp only [ho]
      rcases hdoes with ⟨hw, hy⟩ | ⟨hw, h2, h3⟩
      · rw [if_pos hw]
        exact .inl (Oper.wp_of_yields hy fun u w' ⟨h2, h3⟩ => hnext u w' h2 h3)
      · rw [if_neg (by rw [hw]; decide)]
        exact hnext undef w h2 h3
theorem wp_region_tail {id : Nat} {Q : Exit → Act → World → Prop} {a0 : Act} {w : World} (ds : Nat → Nat) (m : Nat) (hf : P.follows .mixedOrders = true) (hm : decide (m ≤ ops.size) = true) (hO : onlyB ops = true) (hB : headG ops ds m = true) (hT : tailG .any ops m = true) (S : Nat → Value → World → Prop) (hS : ∀ i v w1 w', S i v w1 → Keep NoB w1 w' → S i v w') (hsz : fitsD ops ds a0.tmps.size = true)
    (hstep : ∀ i o (a : Act) (w' : World), ops[i]? = some o → i < m → FrameD a0 ds m a → Keep NoB w w' → (∀ e ∈ o.after, Region.binds .any e = true → S e.on (a.tmps.getD (ds e.on) undef) w') → Does P ops o a w' fun u w'' => S i u w'' ∧ Keep NoB w' w'')
    (hend : ∀ (a : Act) (w' : World), FrameD a0 ds m a → Keep NoB w w' → (∀ i, i < m → S i (a.tmps.getD (ds i) undef) w') → wpList P ops Q (ops.toList.drop m) a w') : (Code.region id ops true).wp P Q a0 w :=
  have hm := of_decide_eq_true hm
  wp_region_any hf (wpAny_tail ds m hm hO hB hT S hS w a0 hsz hstep hend _ _ a0 w.drew (by simp) ⟨List.range m, by simp; omega, fun i hi _ => List.mem_range.2 hi⟩ (fun k o hk hl => by
    have := (Array.getElem?_eq_some_iff.1 hk).1
    simp [this] at hl) (fun i _ hi => by simp [hi]) ⟨rfl, rfl, fun _ _ => rfl⟩ (Keep.refl NoB w).drew fun i hi hl => by
    have : i < ops.size := by omega
    simp [this] at hl)
end
end Go.Proofs.YtifobiajjhknbaaGreatDoor

namespace Go.Proofs.YtifobiajjhknbaaGreatDoor.M
open Go.RowKit W I

/-! ### How long it is -/

theorem flat_le {l : List (List Bs)} {M : Nat} (h : ∀ w ∈ l, (joinW w).length ≤ M) : (flat l).length ≤ (M + 1) * l.length := by
  induction l with
  | nil => simp [flat]
  | cons w l ih =>
    have h1 := h w (by simp)
    have h2 := ih (fun x hx => h x (by simp [hx]))
    rw [flat_cons, List.length_append, List.length_cons, List.length_cons, Nat.mul_add, Nat.mul_one]
    omega
theorem text_le {x : C.I3} (h : O.I64 x.2.1 ∧ O.I64 x.2.2) : (O.textI x.1 x.2.1 x.2.2).length ≤ 60 := by
  have h1 := O.name_len x.1
  have h2 := O.word_len (O.rowAt x.1).ka x.2.1 h.1
  have h3 := O.word_len (O.rowAt x.1).kb x.2.2 h.2
  unfold O.textI O.partL
  rw [List.length_append, List.length_append]
  split <;> split <;> simp <;> omega
theorem shT_le {es : List SE} (hn : es.length ≤ 64) (k : Nat) : (shT es k).length ≤ 2201 * 64 := by
  unfold shT
  refine Nat.le_trans (flat_le (M := 2200) fun w hw => ?_) (Nat.mul_le_mul_left _ (by simp; omega))
  obtain ⟨e, _, rfl⟩ := List.mem_map.1 hw
  have := S.txt_le e.2
  show (shapeW ++ 32 :: S.shS e.2).length ≤ 2200
  unfold S.shS
  split <;> simp [shapeW] <;> omega
theorem head_le {f : F.Fu} (hf : F.okF f = true) : ∀ w ∈ headT f, (joinW w).length ≤ 2200 := by
  obtain ⟨h1, _⟩ := (F.okF_iff f).1 hf
  have h2 := ((F.okN_iff f.nm).1 h1).1
  have ha := S.txt_le f.ar
  have hb := S.txt_le f.rs
  have hc := S.txt_le f.lc
  intro w hw
  unfold headT at hw
  rcases List.mem_cons.1 hw with rfl | hw
  · show (funcW ++ 32 :: (f.nm ++ 32 :: S.shG f.ar f.rs)).length ≤ 2200
    unfold S.shG
    split <;> simp [funcW] <;> omega
  · split at hw
    · cases hw
    · rw [List.mem_singleton] at hw
      subst hw
      show (localW ++ 32 :: W.txt f.lc).length ≤ 2200
      simp [localW]
      omega
theorem words_le {b : List C.I3} (h : C.AllI b) : ∀ w ∈ b.map wordsX, (joinW w).length ≤ 2200 := by
  intro w hw
  obtain ⟨x, hx, rfl⟩ := List.mem_map.1 hw
  rw [join_words]
  have := text_le (h x hx)
  omega

/-- What is known of the functions of an image that may be. -/
structure FnOk (f : F.Fu) : Prop where
  ok : F.okF f = true
  hI : C.AllI f.bd
theorem FnOk.len {f : F.Fu} (h : FnOk f) : f.bd.length ≤ 512 := (ok_body h.ok).2.2.1
theorem head_count (f : F.Fu) : (headT f).length ≤ 2 := by unfold headT; split <;> simp
theorem func_le {f : F.Fu} (h : FnOk f) : (∀ w ∈ funcT false f, (joinW w).length ≤ 2200) ∧ (funcT false f).length ≤ 514 := by
  unfold funcT
  rw [body_words]
  refine ⟨fun w hw => ?_, ?_⟩
  · rcases List.mem_append.1 hw with hw | hw
    · exact head_le h.ok w hw
    · exact words_le h.hI w hw
  · have h1 := head_count f
    have h2 := h.len
    rw [List.length_append, List.length_map]
    omega
theorem funcs_le : ∀ (l : List FE), (∀ e ∈ l, FnOk e.2) → (∀ w ∈ l.flatMap fun e => funcT false e.2, (joinW w).length ≤ 2200) ∧ (l.flatMap fun e => funcT false e.2).length ≤ 514 * l.length
  | [], _ => ⟨(fun w hw => by cases hw), by simp⟩
  | e :: l, h => by
    obtain ⟨i1, i2⟩ := funcs_le l (fun x hx => h x (by simp [hx]))
    obtain ⟨j1, j2⟩ := func_le (h e (by simp))
    rw [List.flatMap_cons]
    refine ⟨fun w hw => ?_, by rw [List.length_append, List.length_cons]; omega⟩
    rcases List.mem_append.1 hw with hw | hw
    · exact j1 w hw
    · exact i1 w hw
theorem fnT_le {es : List SE} {fs : List FE} (hn : es.length ≤ 64) (hm : fs.length ≤ 64) (h : ∀ e ∈ fs, FnOk e.2) (k : Nat) : (fnT es fs k).length ≤ 80000000 := by
  have h1 := shT_le hn es.length
  rw [shT_all es fs] at h1
  unfold fnT at h1 ⊢
  simp only [List.take_zero, List.flatMap_nil] at h1
  rw [List.length_append] at h1 ⊢
  obtain ⟨j1, j2⟩ := funcs_le (fs.take k) (fun e he => h e (List.mem_of_mem_take he))
  have h2 := flat_le j1
  have h3 : (fs.take k).length ≤ 64 := by simp; omega
  have h4 : (2200 + 1) * ((fs.take k).flatMap fun e => funcT false e.2).length ≤ 2201 * (514 * 64) := Nat.mul_le_mul_left _ (by omega)
  omega
theorem bdT_le {es : List SE} {fs : List FE} (hn : es.length ≤ 64) (hm : fs.length ≤ 64) (h : ∀ e ∈ fs, FnOk e.2) (k : Nat) {f : F.Fu} (hf : FnOk f) (j : Nat) : (bdT es fs k f j).length ≤ 90000000 ∧ (fnT es fs k).length + (flat (headT f)).length ≤ 90000000 := by
  have h1 := fnT_le hn hm h k
  have h2 := flat_le (head_le hf.ok)
  have h3 := head_count f
  have h4 : (flat ((f.bd.take j).map wordsX)).length ≤ (2200 + 1) * ((f.bd.take j).map wordsX).length := flat_le fun w hw => words_le hf.hI w (by
    obtain ⟨x, hx, rfl⟩ := List.mem_map.1 hw
    exact List.mem_map_of_mem (List.mem_of_mem_take hx))
  have h5 : ((f.bd.take j).map wordsX).length ≤ 512 := by have := hf.len; simp; omega
  unfold bdT
  rw [List.length_append, List.length_append]
  have h6 : (2200 + 1) * ((f.bd.take j).map wordsX).length ≤ 2201 * 512 := Nat.mul_le_mul_left _ h5
  have h7 : (2200 + 1) * (headT f).length ≤ 2201 * 2 := Nat.mul_le_mul_left _ h3
  omega

/-! ### The walk -/

/-- What the values of a function's line are. -/
def SPn (S : ByteArray) (A : Option Addr) (na ca : Nat) (B : Option Addr) (nb cb : Nat) (G : ByteArray) (q : Nat) : Nat → Value → World → Prop
  | 0 => fun u _ => u = .pointer (some ⟨q, 0, none⟩)
  | 1 => fun u _ => u = .string S
  | 2 => fun u _ => u = .string ((⟨#[102, 117, 110, 99, 32]⟩ : ByteArray) ++ S)
  | 3 => fun u _ => u = .string ((⟨#[102, 117, 110, 99, 32]⟩ : ByteArray) ++ S ++ (⟨#[32]⟩ : ByteArray))
  | 4 => fun u _ => u = .pointer (some ⟨q, 1, none⟩)
  | 5 => fun u _ => u = .agg #[.slice A na ca, .slice B nb cb]
  | 6 => fun u _ => u = .string G
  | 7 => fun u _ => u = .string ((⟨#[102, 117, 110, 99, 32]⟩ : ByteArray) ++ S ++ (⟨#[32]⟩ : ByteArray) ++ G)
  | 8 => fun u _ => u = .string ((⟨#[102, 117, 110, 99, 32]⟩ : ByteArray) ++ S ++ (⟨#[32]⟩ : ByteArray) ++ G ++ (⟨#[10]⟩ : ByteArray))
  | _ => fun _ _ => True
theorem SPn_stable (S : ByteArray) (A : Option Addr) (na ca : Nat) (B : Option Addr) (nb cb : Nat) (G : ByteArray) (q : Nat) : ∀ i u W W', SPn S A na ca B nb cb G q i u W → Keep NoB W W' → SPn S A na ca B nb cb G q i u W'
  | 0, _, _, _, h, _ | 1, _, _, _, h, _ | 2, _, _, _, h, _ | 3, _, _, _, h, _ | 4, _, _, _, h, _ | 5, _, _, _, h, _ | 6, _, _, _, h, _ | 7, _, _, _, h, _ | 8, _, _, _, h, _ => h
  | _ + 9, _, _, _, h, _ => h

/-- What holds while it is written: so much was, all else stands, and the image lies in its box. -/
def PI (w : World) (b : Nat) (X : Option Addr) (nx cx : Nat) (Y : Option Addr) (ny cy : Nat) (t : Bs) (W : World) : Prop :=
  Bld b t W ∧ Keep NoB w W ∧ Blk W w.heap.size 27 #[.slice X nx cx, .slice Y ny cy]
theorem PI.keep {w W W' : World} {b : Nat} {X : Option Addr} {nx cx : Nat} {Y : Option Addr} {ny cy : Nat} {t : Bs} (h : PI w b X nx cx Y ny cy t W) (hk : Keep NoB W W') : PI w b X nx cx Y ny cy t W' :=
  ⟨bld_keep h.1 hk, keepM h.2.1 hk, h.2.2.keep hk id⟩
theorem PI.put {w W W' : World} {b : Nat} {X : Option Addr} {nx cx : Nat} {Y : Option Addr} {ny cy : Nat} {t t' : Bs} (h : PI w b X nx cx Y ny cy t W) (h1 : Bld b t' W') (h2 : Below b W W') (h3 : Lib.OthersKept 5 (some b) W W') (hb : w.heap.size < b) : PI w b X nx cx Y ny cy t' W' :=
  ⟨h1, keep_below h.2.1 h2 (by omega), blk_others h.2.2 h3 (by omega) (by decide)⟩
theorem PI.le {w W : World} {b : Nat} {X : Option Addr} {nx cx : Nat} {Y : Option Addr} {ny cy : Nat} {t : Bs} (h : PI w b X nx cx Y ny cy t W) : b ≤ W.heap.size := by
  obtain ⟨_, _, h9, _⟩ := bld_cells h.1
  exact Nat.le_of_lt (Array.getElem?_eq_some_iff.1 h9).1

set_option maxRecDepth 100000 in
set_option maxHeartbeats 4000000 in
theorem plain_any (v : IV) (es : List SE) (fs : List FE) (w : World) (hL : O.LaidO w) (hi : ImAt w v es fs) (hok : okI (imOf es fs) = true) :
    Calls Tryz.prog 17 #[v.val] w fun e w' => e = .returned (.string (str (flat (imgT false (imOf es fs))))) ∧ Keep NoB w w' := by
  obtain ⟨X, nx, cx, Y, ny, cy⟩ := v
  have HI := Lib.hid (fun W (hk : Keep NoB w W) => hi.keepN hk)
  have HLO := Lib.hid (fun W (hk : Keep NoB w W) => hL.keep hk)
  obtain ⟨⟨q1, ⟨_, q2⟩, _⟩, q3, q4⟩ := (okI_iff _).1 hok
  have hlx := hi.lx
  have hly := hi.ly
  dsimp only at hlx hly
  have hes : es.length ≤ 64 := by simpa [imOf] using q1
  have hfs : fs.length ≤ 64 := by simpa [imOf] using q2
  have hS : Hid (∀ e ∈ es, S.okS e.2 = true) := fun e he => List.all_eq_true.1 q3 _ (List.mem_map_of_mem he)
  have hF : Hid (∀ e ∈ fs, FnOk e.2) := fun e he => ⟨List.all_eq_true.1 q4 _ (List.mem_map_of_mem he), (hi.hf e he).hI⟩
  have HX := Lib.hid hlx
  have HY := Lib.hid hly
  have hnx : nx ≤ 64 := by omega
  have hny : ny ≤ 64 := by omega
  obtain ⟨b, hb⟩ : ∃ b, w.heap.size + 1 = b := ⟨_, rfl⟩
  have hP0 : PI w b X nx cx Y ny cy [] ((w.alloc (.cells #[.slice X nx cx, .slice Y ny cy] 27)).alloc (.cells #[.pointer none, .slice none 0 0] 52)) := by
    refine ⟨?_, ((Keep.refl NoB w).alloc _).alloc _, (Blk.new w _ _).alloc _⟩
    have := bld_new (w.alloc (.cells #[.slice X nx cx, .slice Y ny cy] 27))
    rwa [World.size_alloc, hb] at this
  obtain ⟨w2, hw2⟩ : ∃ w2, (w.alloc (.cells #[.slice X nx cx, .slice Y ny cy] 27)).alloc (.cells #[.pointer none, .slice none 0 0] 52) = w2 := ⟨_, rfl⟩
  have c0 : w2.cell? ⟨w.heap.size, 0, none⟩ = some (.slice X nx cx) := by rw [hw2] at hP0; exact hP0.2.2.cell 0
  have hbl : w.heap.size < b := by omega
  clear hi hL hok q1 q2 q3 q4 hlx hly
  dsimp only [IV.val, IV.cells] at *
  go_enter Tryz.func17, Tryz.ntmps17
  go_wp2_with fail
  try rw [hb]
  try rw [hw2]
  rw [hw2] at hP0
  clear c0 hw2
  go_loopw [13] (fun i wr => ∃ k : Nat, k ≤ nx ∧ i = .int .i64 (k : Int) ∧ PI w b X nx cx Y ny cy (shT es k) wr) (fun i _ => nx - (intOf i).toNat)
  case atStart => exact ⟨0, Nat.zero_le _, rfl, hP0⟩
  case round =>
    obtain ⟨k, hk, rfl, hP⟩ := hrel
    clear hP0
    by_cases hlt : k < nx
    · have hke : k < es.length := by rw [HX.out]; exact hlt
      obtain ⟨g, off, rfl, hc⟩ := shape_at (HI.out _ hP.2.1).rx hke
      have hsh := (HI.out _ hP.2.1).hs _ (List.getElem_mem hke)
      have hso := ((S.okS_iff _).1 (hS.out _ (List.getElem_mem hke))).1
      have hlen := hsh.2
      have HSh := Lib.hid (fun W (hk : Keep NoB wr W) => S.showS_any es[k].1.A es[k].2 es[k].1.n es[k].1.c W (HLO.out W (keepM hP.2.1 hk)).lets (hsh.1.keepN hk) (Lib.hid hsh.2) (by omega))
      have hnx2 := shT_next hke
      have htl := shT_le hes (k + 1)
      rw [hnx2, List.length_append] at htl
      have HXX : Hid ((⟨#[115, 104, 97, 112, 101, 32]⟩ : ByteArray) ++ str (S.shS es[k].2) ++ (⟨#[10]⟩ : ByteArray) = str (joinW (shapeT es[k].2) ++ [10])) := by
        show _ = _
        rw [show (⟨#[115, 104, 97, 112, 101, 32]⟩ : ByteArray) = str [115, 104, 97, 112, 101, 32] from rfl, show (⟨#[10]⟩ : ByteArray) = str [10] from rfl, str_add, str_add]
        rfl
      have hsz : (str (S.shS es[k].2)).size ≤ 2000 := by
        rw [size_of (S := str (S.shS es[k].2)) (s := S.shS es[k].2) (by simp)]
        have := S.txt_le es[k].2
        unfold S.shS
        split <;> simp <;> omega
      have HNX := Lib.hid hnx2
      generalize joinW (shapeT es[k].2) ++ [10] = pc at htl HXX HNX
      generalize str (S.shS es[k].2) = G at HSh HXX hsz
      generalize es[k].1 = sv at hc HSh
      obtain ⟨A, n, c⟩ := sv
      dsimp only at hc HSh
      clear hsh hso hlen hnx2 hke
      go_wp2_with fail
      refine (HSh.out _ (Keep.refl _ _)).mono ?_
      rintro e w5 ⟨rfl, k5⟩
      have P5 := hP.keep k5
      clear hP hc HSh
      go_wp2_with fail
      refine (write_any b (shT es k) pc _ w5 P5.1 HXX.out (by omega) P5.le).mono ?_
      rintro e w6 ⟨⟨u, v, rfl⟩, p1, p2, p3⟩
      rw [← HNX.out] at p1
      have P6 := P5.put p1 p2 p3 hbl
      clear P5 p1 p2 p3
      go_wp2
      go_roundw
      case rel => exact ⟨k + 1, by omega, by go_num, P6⟩
      case measure => simp [intOf]; omega
    · obtain rfl : k = nx := by omega
      have hP1 : PI w b X k cx Y ny cy (fnT es fs 0) wr := by rw [← shT_all, HX.out]; exact hP
      have r1 : wr.cell? ⟨w.heap.size, 1, none⟩ = some (.slice Y ny cy) := hP1.2.2.cell 1
      clear hP
      go_wp2_with fail
      clear r1
      go_loopw [26] (fun i wr => ∃ j : Nat, j ≤ ny ∧ i = .int .i64 (j : Int) ∧ PI w b X k cx Y ny cy (fnT es fs j) wr) (fun i _ => ny - (intOf i).toNat)
      case atStart => exact ⟨0, Nat.zero_le _, rfl, hP1⟩
      case round =>
        obtain ⟨j, hj, rfl, hP⟩ := hrel
        clear hP1
        by_cases hlt : j < ny
        · have hke : j < fs.length := by rw [HY.out]; exact hlt
          obtain ⟨g, off, rfl, a0, a1, a2, a3, a4⟩ := fun_at (HI.out _ hP.2.1).ry hke
          have hfn := (HI.out _ hP.2.1).hf _ (List.getElem_mem hke)
          have hfo := hF.out _ (List.getElem_mem hke)
          have HFA := Lib.hid (fun W (hk : Keep NoB w W) => (HI.out W hk).hf _ (List.getElem_mem hke))
          have hnx := Lib.hid (fnT_next (es := es) hke)
          have hT0 := fnT_le hes hfs hF.out j
          have hbt := Lib.hid (fun jj => bdT_le hes hfs hF.out j hfo jj)
          generalize fs[j] = fe at a0 a1 a2 a3 a4 hfn hfo hnx hbt HFA
          obtain ⟨⟨NM, A, na, ca, B, nb, cb, L, nl, cl, D, nd, cd⟩, f⟩ := fe
          dsimp only at a0 a1 a2 a3 a4 hfo hnx hbt HFA
          have hq := Blk.new wr 35 #[.string NM, .slice A na ca, .slice B nb cb, .slice L nl cl, .slice D nd cd]
          have kq := (Keep.refl NoB wr).alloc (.cells #[.string NM, .slice A na ca, .slice B nb cb, .slice L nl cl, .slice D nd cd] 35)
          have P1 := hP.keep kq
          have hfn1 := hfn.keepN kq
          obtain ⟨w3, hw3⟩ : ∃ w3, wr.alloc (.cells #[.string NM, .slice A na ca, .slice B nb cb, .slice L nl cl, .slice D nd cd] 35) = w3 := ⟨_, rfl⟩
          obtain ⟨q, hqq⟩ : ∃ q, wr.heap.size = q := ⟨_, rfl⟩
          rw [hw3] at hq P1 hfn1
          rw [hqq] at hq
          have hqb : b < q := by rw [← hqq]; obtain ⟨_, _, h9, _⟩ := bld_cells hP.1; exact (Array.getElem?_eq_some_iff.1 h9).1
          clear hP hfn kq
          go_wp2_with fail
          try rw [hw3]
          try rw [hqq]
          clear hw3 hqq
          have hnm : NM = str f.nm := str_of hfn1.nm
          have hok := (F.okF_iff f).1 hfo.ok
          have hnl := ((F.okN_iff f.nm).1 hok.1).1
          have hgl := ((S.okG_iff f.ar f.rs).1 hok.2.1).1
          have ela := hfn1.la
          have elb := hfn1.lb
          have ell := hfn1.ll
          have eld := hfn1.ld
          dsimp only at ela elb ell eld
          have hnd : nd ≤ 512 := by have := hfo.len; omega
          have hNz : NM.size ≤ 32 := by rw [hnm, size_of (S := str f.nm) (s := f.nm) (by simp)]; exact hnl
          have HG := Lib.hid (fun W (hk : Keep NoB w3 W) => S.showG_any A f.ar na ca B f.rs nb cb W (HLO.out W (keepM P1.2.1 hk)).lets (hfn1.ra.keepN hk) (hfn1.rb.keepN hk) (Lib.hid ela) (Lib.hid elb) (by omega) (by omega))
          have hGz : (str (S.shG f.ar f.rs)).size ≤ 3000 := by
            rw [size_of (S := str (S.shG f.ar f.rs)) (s := S.shG f.ar f.rs) (by simp)]
            have h1 := S.txt_le f.ar
            have h2 := S.txt_le f.rs
            unfold S.shG
            split <;> simp <;> omega
          obtain ⟨G, hGG⟩ : ∃ G, str (S.shG f.ar f.rs) = G := ⟨_, rfl⟩
          rw [hGG] at HG hGz
          have HL1 : Hid ((⟨#[102, 117, 110, 99, 32]⟩ : ByteArray) ++ NM ++ (⟨#[32]⟩ : ByteArray) ++ G ++ (⟨#[10]⟩ : ByteArray) = str (joinW [funcW, f.nm, S.shG f.ar f.rs] ++ [10])) := by
            show _ = _
            rw [hnm, ← hGG, show (⟨#[102, 117, 110, 99, 32]⟩ : ByteArray) = str [102, 117, 110, 99, 32] from rfl, show (⟨#[32]⟩ : ByteArray) = str [32] from rfl, show (⟨#[10]⟩ : ByteArray) = str [10] from rfl, str_add, str_add, str_add, str_add]
            congr 1
            simp [joinW, funcW]
          have y2 : ¬ 9223372036854775807 < 5 + NM.size := by omega
          have y3 : ¬ 9223372036854775807 < 5 + NM.size + 1 := by omega
          have y7 : ¬ 9223372036854775807 < 5 + NM.size + 1 + G.size := by omega
          have y8 : ¬ 9223372036854775807 < 5 + NM.size + 1 + G.size + 1 := by omega
          have f0 : w3.cell? ⟨q, 0, none⟩ = some (.string NM) := hq.cell 0
          have f1 : w3.cell? ⟨q, 1, none⟩ = some (.slice A na ca) := hq.cell 1
          have f2 : w3.cell? ⟨q, 2, none⟩ = some (.slice B nb cb) := hq.cell 2
          clear hnm hgl hGG a0 a1 a2 a3 a4 hfn1
          refine wp_region_tail (fun i => [30, 31, 32, 33, 34, 35, 36, 37, 38].getD i 0) 9 (by kernel_rfl) (by kernel_rfl) (by kernel_rfl) (by kernel_rfl) (by kernel_rfl) (SPn NM A na ca B nb cb G q) (fun i u x y h hk => SPn_stable _ _ _ _ _ _ _ _ _ i u x y h hk) rfl ?step ?fin
          case step =>
            intro i o a w' hoo hi hF hK hA
            by_cases h0 : i = 0
            · subst h0
              simp only [List.getElem?_toArray, List.getElem?_cons_zero, Option.some.injEq] at hoo
              subst hoo
              have e7 : a.tmps.getD 7 undef = .pointer (some ⟨q, 0, none⟩) := hF.2.2 7 (by decide)
              refine Does.plain rfl ?_
              unfold yieldsK
              go_simp
              exact ⟨rfl, Keep.refl _ _⟩
            by_cases h1 : i = 1
            · subst h1
              simp only [List.getElem?_toArray, List.getElem?_cons_zero, List.getElem?_cons_succ, Option.some.injEq] at hoo
              subst hoo
              have e30 : a.tmps.getD 30 undef = .pointer (some ⟨q, 0, none⟩) := hA ⟨0, .data⟩ (by simp) rfl
              have q0 := Keep.cell hK f0 id
              refine Does.plain rfl ?_
              unfold yieldsK
              go_simp
              exact ⟨rfl, Keep.refl _ _⟩
            by_cases h2 : i = 2
            · subst h2
              simp only [List.getElem?_toArray, List.getElem?_cons_zero, List.getElem?_cons_succ, Option.some.injEq] at hoo
              subst hoo
              have e31 : a.tmps.getD 31 undef = .string NM := hA ⟨1, .data⟩ (by simp) rfl
              refine Does.plain rfl ?_
              unfold yieldsK
              go_simp
              exact ⟨rfl, Keep.refl _ _⟩
            by_cases h3 : i = 3
            · subst h3
              simp only [List.getElem?_toArray, List.getElem?_cons_zero, List.getElem?_cons_succ, Option.some.injEq] at hoo
              subst hoo
              have e32 : a.tmps.getD 32 undef = .string ((⟨#[102, 117, 110, 99, 32]⟩ : ByteArray) ++ NM) := hA ⟨2, .data⟩ (by simp) rfl
              refine Does.plain rfl ?_
              unfold yieldsK
              go_simp
              exact ⟨rfl, Keep.refl _ _⟩
            by_cases h4 : i = 4
            · subst h4
              simp only [List.getElem?_toArray, List.getElem?_cons_zero, List.getElem?_cons_succ, Option.some.injEq] at hoo
              subst hoo
              have e7 : a.tmps.getD 7 undef = .pointer (some ⟨q, 0, none⟩) := hF.2.2 7 (by decide)
              refine Does.plain rfl ?_
              unfold yieldsK
              go_simp
              exact ⟨rfl, Keep.refl _ _⟩
            by_cases h5 : i = 5
            · subst h5
              simp only [List.getElem?_toArray, List.getElem?_cons_zero, List.getElem?_cons_succ, Option.some.injEq] at hoo
              subst hoo
              have e34 : a.tmps.getD 34 undef = .pointer (some ⟨q, 1, none⟩) := hA ⟨4, .data⟩ (by simp) rfl
              have q0 := Keep.cell hK f1 id
              have q1 := Keep.cell hK f2 id
              refine Does.plain rfl ?_
              unfold yieldsK
              go_simp
              exact ⟨rfl, Keep.refl _ _⟩
            by_cases h6 : i = 6
            · subst h6
              simp only [List.getElem?_toArray, List.getElem?_cons_zero, List.getElem?_cons_succ, Option.some.injEq] at hoo
              subst hoo
              have e35 : a.tmps.getD 35 undef = .agg #[.slice A na ca, .slice B nb cb] := hA ⟨5, .data⟩ (by simp) rfl
              refine Does.plain rfl ?_
              unfold yieldsK
              go_simp
              refine (HG.out w' hK).mono ?_
              rintro e w9 ⟨rfl, hk9⟩
              exact ⟨_, rfl, rfl, hk9⟩
            by_cases h7 : i = 7
            · subst h7
              simp only [List.getElem?_toArray, List.getElem?_cons_zero, List.getElem?_cons_succ, Option.some.injEq] at hoo
              subst hoo
              have e33 : a.tmps.getD 33 undef = .string ((⟨#[102, 117, 110, 99, 32]⟩ : ByteArray) ++ NM ++ (⟨#[32]⟩ : ByteArray)) := hA ⟨3, .data⟩ (by simp) rfl
              have e36 : a.tmps.getD 36 undef = .string G := hA ⟨6, .data⟩ (by simp) rfl
              refine Does.plain rfl ?_
              unfold yieldsK
              go_simp
              exact ⟨rfl, Keep.refl _ _⟩
            by_cases h8 : i = 8
            · subst h8
              simp only [List.getElem?_toArray, List.getElem?_cons_zero, List.getElem?_cons_succ, Option.some.injEq] at hoo
              subst hoo
              have e37 : a.tmps.getD 37 undef = .string ((⟨#[102, 117, 110, 99, 32]⟩ : ByteArray) ++ NM ++ (⟨#[32]⟩ : ByteArray) ++ G) := hA ⟨7, .data⟩ (by simp) rfl
              refine Does.plain rfl ?_
              unfold yieldsK
              go_simp
              exact ⟨rfl, Keep.refl _ _⟩
            omega
          case fin =>
            intro a w' hF gK hA
            have e38 : a.tmps.getD 38 undef = .string ((⟨#[102, 117, 110, 99, 32]⟩ : ByteArray) ++ NM ++ (⟨#[32]⟩ : ByteArray) ++ G ++ (⟨#[10]⟩ : ByteArray)) := hA 8 (by decide)
            have ha := frameD_list (l := [30, 31, 32, 33, 34, 35, 36, 37, 38]) rfl hF
            rw [ha]
            simp only [List.map_cons, List.map_nil, e38]
            generalize a.tmps.getD 30 undef = u0
            generalize a.tmps.getD 31 undef = u1
            generalize a.tmps.getD 32 undef = u2
            generalize a.tmps.getD 33 undef = u3
            generalize a.tmps.getD 34 undef = u4
            generalize a.tmps.getD 35 undef = u5
            generalize a.tmps.getD 36 undef = u6
            generalize a.tmps.getD 37 undef = u7
            simp only [fillD, List.setIfInBounds_toArray, List.set_cons_zero, List.set_cons_succ]
            have P2 := P1.keep gK
            have hq2 := hq.keep gK id
            clear hA hF ha e38 f0 f1 f2 HG P1 hq
            simp only [List.drop_succ_cons, List.drop_zero]
            go_wp2_with fail
            have hlb := bdT_le hes hfs hF.out j hfo 0
            have hhd : flat (headT f) = (joinW [funcW, f.nm, S.shG f.ar f.rs] ++ [10]) ++ (if f.lc = [] then [] else joinW [localW, W.txt f.lc] ++ [10]) := by
              unfold headT
              rw [flat_cons]
              split <;> simp [flat]
            have hb0 : bdT es fs j f 0 = fnT es fs j ++ flat (headT f) := by unfold bdT; simp [flat]
            have hl1 : (joinW [funcW, f.nm, S.shG f.ar f.rs] ++ [10]).length ≤ (flat (headT f)).length := by
              have := congrArg List.length hhd
              rw [List.length_append] at this
              omega
            refine (write_any b (fnT es fs j) (joinW [funcW, f.nm, S.shG f.ar f.rs] ++ [10]) _ w' P2.1 HL1.out (by omega) P2.le).mono ?_
            rintro e w6 ⟨⟨u9, v9, rfl⟩, p1, p2, p3⟩
            have P6 := P2.put p1 p2 p3 hbl
            have hq6 := blk_others hq2 p3 (by omega) (by decide)
            have z3 : w6.cell? ⟨q, 3, none⟩ = some (.slice L nl cl) := hq6.cell 3
            have z4 : w6.cell? ⟨q, 4, none⟩ = some (.slice D nd cd) := hq6.cell 4
            have HB0 := Lib.hid hb0
            have HHD := Lib.hid hhd
            clear p1 p2 p3 P2 hq2 HL1 hhd hb0
            by_cases hl0 : nl = 0
            · have hlc : f.lc = [] := List.length_eq_zero_iff.1 (by omega)
              have P7 : PI w b X k cx (some ⟨g, off, none⟩) ny cy (bdT es fs j f 0) w6 := by
                rw [HB0.out, HHD.out, if_pos hlc, List.append_nil]
                exact P6
              clear P6 hq6 hlc
              subst hl0
              go_wp2_with fail
              go_loopw [53] (fun i wr => ∃ l : Nat, l ≤ nd ∧ i = .int .i64 (l : Int) ∧ PI w b X k cx (some ⟨g, off, none⟩) ny cy (bdT es fs j f l) wr) (fun i _ => nd - (intOf i).toNat)
              case atStart => exact ⟨0, Nat.zero_le _, rfl, P7⟩
              case round =>
                obtain ⟨l, hl, rfl, hP⟩ := hrel
                clear P7 z4
                by_cases hlt3 : l < nd
                · have hlf : l < f.bd.length := by omega
                  obtain ⟨gd, od, rfl, hcd⟩ := C.rdJ_at (HFA.out _ hP.2.1).rd (by omega)
                  obtain ⟨d0, d1, d2⟩ := hcd l hlf
                  have hx1 := List.all_eq_true.1 (ok_body hfo.ok).1 _ (List.getElem_mem hlf)
                  have hx2 := hfo.hI _ (List.getElem_mem hlf)
                  have hnb := Lib.hid (bdT_next (es := es) (fs := fs) (k := j) hlf)
                  have hnl3 := (hbt.out (l + 1)).1
                  have htz := text_le hx2
                  rw [hnb.out, List.length_append] at hnl3
                  generalize f.bd[l] = x at d0 d1 d2 hx1 hx2 hnb hnl3 htz
                  obtain ⟨op, xa, xb⟩ := x
                  dsimp only at d0 d1 d2 hx2 hnb hnl3 htz
                  have hbx := Blk.new wr 37 #[.int .i64 op, .int .i64 xa, .int .i64 xb]
                  have kx := (Keep.refl NoB wr).alloc (.cells #[.int .i64 op, .int .i64 xa, .int .i64 xb] 37)
                  have P8 := hP.keep kx
                  have x0 : (wr.alloc (.cells #[.int .i64 op, .int .i64 xa, .int .i64 xb] 37)).cell? ⟨wr.heap.size, 0, none⟩ = some (.int .i64 op) := hbx.cell 0
                  have x1 : (wr.alloc (.cells #[.int .i64 op, .int .i64 xa, .int .i64 xb] 37)).cell? ⟨wr.heap.size, 1, none⟩ = some (.int .i64 xa) := hbx.cell 1
                  have x2 : (wr.alloc (.cells #[.int .i64 op, .int .i64 xa, .int .i64 xb] 37)).cell? ⟨wr.heap.size, 2, none⟩ = some (.int .i64 xb) := hbx.cell 2
                  have HS3 := Lib.hid (O.show_yes op xa xb _ hx1 hx2.1 hx2.2 (HLO.out _ P8.2.1))
                  have hsz3 : (str (O.textI op xa xb)).size ≤ 60 := by rw [size_of (S := str (O.textI op xa xb)) (s := O.textI op xa xb) (by simp)]; exact htz
                  have HL3 : Hid (str (O.textI op xa xb) ++ (⟨#[10]⟩ : ByteArray) = str (O.textI op xa xb ++ [10])) := by show _ = _; rw [show (⟨#[10]⟩ : ByteArray) = str [10] from rfl, str_add]
                  clear hP kx hbx hcd hx1 hx2 htz hlf
                  go_wp2_with fail
                  refine HS3.out.mono ?_
                  rintro e w9 ⟨dd, rfl, hdd, k9⟩
                  have P9 := P8.keep k9
                  have hdd2 : dd = str (O.textI op xa xb) := hdd.out
                  rw [← hdd2] at hsz3 HL3
                  clear hdd2
                  clear P8 HS3 x0 x1 x2 d0 d1 d2
                  go_wp2_with fail
                  refine (write_any b (bdT es fs j f l) (O.textI op xa xb ++ [10]) _ w9 P9.1 HL3.out (by omega) P9.le).mono ?_
                  rintro e w10 ⟨⟨u10, v10, rfl⟩, p1, p2, p3⟩
                  rw [← hnb.out] at p1
                  have P10 := P9.put p1 p2 p3 hbl
                  clear P9 p1 p2 p3
                  go_wp2
                  go_roundw
                  case rel => exact ⟨l + 1, by omega, by go_num, P10⟩
                  case measure => simp [intOf]; omega
                · obtain rfl : l = nd := by omega
                  have P11 : PI w b X k cx (some ⟨g, off, none⟩) ny cy (fnT es fs (j + 1)) wr := by rw [hnx.out, eld]; exact hP
                  clear hP
                  go_wp2
                  go_roundw
                  case rel => exact ⟨j + 1, by omega, by go_num, P11⟩
                  case measure => simp [intOf]; omega
            · have hlc : f.lc ≠ [] := fun e => hl0 (by rw [← ell, e]; rfl)
              have HT := Lib.hid (W.text_any L f.lc nl cl w6 (HLO.out _ P6.2.1).lets (HFA.out _ P6.2.1).rl (Lib.hid ell) (by omega))
              have hTz : (str (W.txt f.lc)).size ≤ 1024 := by rw [size_of (S := str (W.txt f.lc)) (s := W.txt f.lc) (by simp)]; exact S.txt_le f.lc
              have HL2 : Hid ((⟨#[108, 111, 99, 97, 108, 32]⟩ : ByteArray) ++ str (W.txt f.lc) ++ (⟨#[10]⟩ : ByteArray) = str (joinW [localW, W.txt f.lc] ++ [10])) := by
                show _ = _
                rw [show (⟨#[108, 111, 99, 97, 108, 32]⟩ : ByteArray) = str [108, 111, 99, 97, 108, 32] from rfl, show (⟨#[10]⟩ : ByteArray) = str [10] from rfl, str_add, str_add]
                rfl
              have HH2 : Hid (bdT es fs j f 0 = (fnT es fs j ++ (joinW [funcW, f.nm, S.shG f.ar f.rs] ++ [10])) ++ (joinW [localW, W.txt f.lc] ++ [10])) := by
                show _ = _
                rw [HB0.out, HHD.out, if_neg hlc]
                simp only [List.append_assoc]
              have hl3 : ((fnT es fs j ++ (joinW [funcW, f.nm, S.shG f.ar f.rs] ++ [10])).length + (joinW [localW, W.txt f.lc] ++ [10]).length) ≤ 90000000 := by
                have := congrArg List.length HH2.out
                rw [List.length_append] at this
                omega
              have hnl0 : 0 < nl := by omega
              obtain ⟨TT, hTT⟩ : ∃ TT, str (W.txt f.lc) = TT := ⟨_, rfl⟩
              rw [hTT] at HT hTz HL2
              clear hTT hlc hl0
              go_wp2_with fail
              refine HT.out.mono ?_
              rintro e w7 ⟨rfl, k7⟩
              have P7' := P6.keep k7
              have hq7 := hq6.keep k7 id
              clear P6 hq6 z3 z4 HT
              go_wp2_with fail
              refine (write_any b _ (joinW [localW, W.txt f.lc] ++ [10]) _ w7 P7'.1 HL2.out (by omega) P7'.le).mono ?_
              rintro e w8 ⟨⟨u9, v9, rfl⟩, p1, p2, p3⟩
              rw [← HH2.out] at p1
              have P7 := P7'.put p1 p2 p3 hbl
              have z4 : w8.cell? ⟨q, 4, none⟩ = some (.slice D nd cd) := (blk_others hq7 p3 (by omega) (by decide)).cell 4
              clear P7' hq7 p1 p2 p3 k7
              go_wp2_with fail
              go_loopw [53] (fun i wr => ∃ l : Nat, l ≤ nd ∧ i = .int .i64 (l : Int) ∧ PI w b X k cx (some ⟨g, off, none⟩) ny cy (bdT es fs j f l) wr) (fun i _ => nd - (intOf i).toNat)
              case atStart => exact ⟨0, Nat.zero_le _, rfl, P7⟩
              case round =>
                obtain ⟨l, hl, rfl, hP⟩ := hrel
                clear P7 z4
                by_cases hlt3 : l < nd
                · have hlf : l < f.bd.length := by omega
                  obtain ⟨gd, od, rfl, hcd⟩ := C.rdJ_at (HFA.out _ hP.2.1).rd (by omega)
                  obtain ⟨d0, d1, d2⟩ := hcd l hlf
                  have hx1 := List.all_eq_true.1 (ok_body hfo.ok).1 _ (List.getElem_mem hlf)
                  have hx2 := hfo.hI _ (List.getElem_mem hlf)
                  have hnb := Lib.hid (bdT_next (es := es) (fs := fs) (k := j) hlf)
                  have hnl3 := (hbt.out (l + 1)).1
                  have htz := text_le hx2
                  rw [hnb.out, List.length_append] at hnl3
                  generalize f.bd[l] = x at d0 d1 d2 hx1 hx2 hnb hnl3 htz
                  obtain ⟨op, xa, xb⟩ := x
                  dsimp only at d0 d1 d2 hx2 hnb hnl3 htz
                  have hbx := Blk.new wr 37 #[.int .i64 op, .int .i64 xa, .int .i64 xb]
                  have kx := (Keep.refl NoB wr).alloc (.cells #[.int .i64 op, .int .i64 xa, .int .i64 xb] 37)
                  have P8 := hP.keep kx
                  have x0 : (wr.alloc (.cells #[.int .i64 op, .int .i64 xa, .int .i64 xb] 37)).cell? ⟨wr.heap.size, 0, none⟩ = some (.int .i64 op) := hbx.cell 0
                  have x1 : (wr.alloc (.cells #[.int .i64 op, .int .i64 xa, .int .i64 xb] 37)).cell? ⟨wr.heap.size, 1, none⟩ = some (.int .i64 xa) := hbx.cell 1
                  have x2 : (wr.alloc (.cells #[.int .i64 op, .int .i64 xa, .int .i64 xb] 37)).cell? ⟨wr.heap.size, 2, none⟩ = some (.int .i64 xb) := hbx.cell 2
                  have HS3 := Lib.hid (O.show_yes op xa xb _ hx1 hx2.1 hx2.2 (HLO.out _ P8.2.1))
                  have hsz3 : (str (O.textI op xa xb)).size ≤ 60 := by rw [size_of (S := str (O.textI op xa xb)) (s := O.textI op xa xb) (by simp)]; exact htz
                  have HL3 : Hid (str (O.textI op xa xb) ++ (⟨#[10]⟩ : ByteArray) = str (O.textI op xa xb ++ [10])) := by show _ = _; rw [show (⟨#[10]⟩ : ByteArray) = str [10] from rfl, str_add]
                  clear hP kx hbx hcd hx1 hx2 htz hlf
                  go_wp2_with fail
                  refine HS3.out.mono ?_
                  rintro e w9 ⟨dd, rfl, hdd, k9⟩
                  have P9 := P8.keep k9
                  have hdd2 : dd = str (O.textI op xa xb) := hdd.out
                  rw [← hdd2] at hsz3 HL3
                  clear hdd2
                  clear P8 HS3 x0 x1 x2 d0 d1 d2
                  go_wp2_with fail
                  refine (write_any b (bdT es fs j f l) (O.textI op xa xb ++ [10]) _ w9 P9.1 HL3.out (by omega) P9.le).mono ?_
                  rintro e w10 ⟨⟨u10, v10, rfl⟩, p1, p2, p3⟩
                  rw [← hnb.out] at p1
                  have P10 := P9.put p1 p2 p3 hbl
                  clear P9 p1 p2 p3
                  go_wp2
                  go_roundw
                  case rel => exact ⟨l + 1, by omega, by go_num, P10⟩
                  case measure => simp [intOf]; omega
                · obtain rfl : l = nd := by omega
                  have P11 : PI w b X k cx (some ⟨g, off, none⟩) ny cy (fnT es fs (j + 1)) wr := by rw [hnx.out, eld]; exact hP
                  clear hP
                  go_wp2
                  go_roundw
                  case rel => exact ⟨j + 1, by omega, by go_num, P11⟩
                  case measure => simp [intOf]; omega
        · obtain rfl : j = ny := by omega
          have hfin : Hid (fnT es fs j = flat (imgT false (imOf es fs))) := by show _ = _; rw [← fnT_all, HY.out]
          go_wp2_with fail
          refine (string_any b _ _ hP.1 hP.le).mono ?_
          rintro e w9 ⟨rfl, p1, p2, p3⟩
          go_wp2
          go_ret
          refine ⟨by rw [← hfin.out]; rfl, (hP.put p1 p2 p3 hbl).2.1⟩

end Go.Proofs.YtifobiajjhknbaaGreatDoor.M

namespace Go.Proofs.YtifobiajjhknbaaGreatDoor.M
open Go.RowKit W I

/-- Bytes that are seen. -/
def visB (c : UInt8) : Bool := decide (33 ≤ c.toNat ∧ c.toNat ≤ 126)
theorem visB_iff (c : UInt8) : visB c = true ↔ 33 ≤ c.toNat ∧ c.toNat ≤ 126 := decide_eq_true_iff
theorem vis_sp {c : UInt8} (h : visB c = true) : Lib.isSp c = false := by
  rw [visB_iff] at h
  cases hs : Lib.isSp c
  · rfl
  · unfold Lib.isSp at hs
    simp only [Bool.or_eq_true, beq_iff_eq] at hs
    rcases hs with ((((rfl | rfl) | rfl) | rfl) | rfl) | rfl <;> simp at h
def visW (w : Bs) : Prop := w ≠ [] ∧ ∀ c ∈ w, visB c = true
theorem itoa_vis (n : Int) : visW (Lib.itoa n) := ⟨itoa_ne n, fun c hc => by
  rw [visB_iff]
  rcases itoa_in n c hc with rfl | h
  · decide
  · omega⟩
theorem all_vis {l : List Bs} (h : l.all (fun w => !w.isEmpty && w.all visB) = true) {w : Bs} (hw : w ∈ l) : visW w := by
  have := List.all_eq_true.1 h w hw
  rw [Bool.and_eq_true] at this
  exact ⟨by intro e; subst e; simp at this, List.all_eq_true.1 this.2⟩
theorem name_vis {op : Int} (h : O.isOp op = true) : visW (O.rowAt op).name := by
  obtain ⟨hk, e⟩ := O.rowAt_yes h
  rw [e]
  exact all_vis (l := O.rowsL.map (·.name)) (by decide) (List.mem_map_of_mem (List.getElem_mem hk))
theorem word_vis {k n : Int} (hn : O.inK k n = true) : visW (O.word k n) := by
  have hd := of_decide_eq_true hn
  unfold O.word
  split
  · rename_i hk
    have z1 : 1 ≤ n ∧ n ≤ 4 := by unfold O.lo O.hi at hd; rcases hk with rfl | rfl <;> simp at hd <;> omega
    have vb : n = 1 ∨ n = 2 ∨ n = 3 ∨ n = 4 := by omega
    rcases vb with rfl | rfl | rfl | rfl <;> exact ⟨by decide, by decide⟩
  · split
    · rename_i h1 h2
      subst h2
      have z1 : 0 ≤ n ∧ n ≤ 13 := by unfold O.lo O.hi at hd; simpa using hd
      have hlt : n.toNat < A.binNs.length := by rw [show A.binNs.length = 14 from rfl]; omega
      unfold A.nameAt
      rw [if_pos z1.1, A.getD_at hlt]
      exact all_vis (by decide) (List.getElem_mem hlt)
    · split
      · rename_i h1 h2 h3
        subst h3
        have z1 : 0 ≤ n ∧ n ≤ 8 := by unfold O.lo O.hi at hd; simpa using hd
        have hlt : n.toNat < A.unNs.length := by rw [show A.unNs.length = 9 from rfl]; omega
        unfold A.nameAt
        rw [if_pos z1.1, A.getD_at hlt]
        exact all_vis (by decide) (List.getElem_mem hlt)
      · exact itoa_vis n
theorem wordsX_vis {x : C.I3} (h : C.ok1 x = true) : ∀ w ∈ wordsX x, visW w := by
  obtain ⟨h1, h2, h3⟩ := O.ok_op h
  intro w hw
  unfold wordsX wordP at hw
  rcases List.mem_cons.1 hw with rfl | hw
  · exact name_vis h1
  · rcases List.mem_append.1 hw with hw | hw
    · split at hw
      · cases hw
      · rw [List.mem_singleton] at hw; subst hw; exact word_vis h2
    · split at hw
      · cases hw
      · rw [List.mem_singleton] at hw; subst hw; exact word_vis h3
theorem fields_word : ∀ (w cur r : Bs), (∀ c ∈ w, visB c = true) → Lib.fieldsGo cur (w ++ r) = Lib.fieldsGo (cur ++ w) r
  | [], cur, r, _ => by rw [List.nil_append, List.append_nil]
  | c :: w, cur, r, h => by
    rw [List.cons_append, Lib.fieldsGo, vis_sp (h c (by simp))]
    rw [if_neg (by decide), fields_word w _ r (fun d hd => h d (List.mem_cons_of_mem _ hd)), List.append_assoc]
    rfl
theorem fields_joinW : ∀ ws : List Bs, (∀ w ∈ ws, visW w) → Lib.fields (joinW ws) = ws
  | [], _ => rfl
  | [w], h => by
    have hw := h w (by simp)
    unfold Lib.fields
    rw [show joinW [w] = w ++ [] by simp [joinW], fields_word w [] [] hw.2, List.nil_append, Lib.fieldsGo, if_neg (by have := hw.1; cases w <;> simp_all)]
  | w :: v :: ws, h => by
    have hw := h w (by simp)
    have ih := fields_joinW (v :: ws) (fun x hx => h x (List.mem_cons_of_mem _ hx))
    unfold Lib.fields at ih ⊢
    rw [joinW, fields_word w [] _ hw.2, List.nil_append, Lib.fieldsGo, if_pos (by decide), if_neg (by have := hw.1; cases w <;> simp_all), ih]
theorem joinW_ascii {ws : List Bs} (h : ∀ w ∈ ws, visW w) : ∀ c ∈ joinW ws, c.toNat < 128 := by
  induction ws with
  | nil => intro c hc; cases hc
  | cons w r ih =>
    cases r with
    | nil =>
      intro c hc
      have := (h w (by simp)).2 c (by simpa [joinW] using hc)
      rw [visB_iff] at this; omega
    | cons v r =>
      intro c hc
      rw [joinW] at hc
      rcases List.mem_append.1 hc with hc | hc
      · have := (h w (by simp)).2 c hc
        rw [visB_iff] at this; omega
      · rcases List.mem_cons.1 hc with rfl | hc
        · decide
        · exact ih (fun x hx => h x (List.mem_cons_of_mem _ hx)) c hc

/-! ### What is written -/

/-- An instruction's line. -/
def itL (x : C.I3) : List Bs := if C.gB x = true then jmpW x else wordsX x
def fnL (es : List SE) (fs : List FE) (k : Nat) : Bs := flat (es.map fun e => shapeT e.2) ++ flat ((fs.take k).flatMap fun e => funcT true e.2)
def bdL (es : List SE) (fs : List FE) (k : Nat) (f : F.Fu) (j : Nat) : Bs := fnL es fs k ++ (flat (headT f) ++ flat (bodyT true 0 (f.bd.take j)))
theorem bodyT_append (lab : Bool) : ∀ (a b : List C.I3) (i : Nat), bodyT lab i (a ++ b) = bodyT lab i a ++ bodyT lab (i + a.length) b
  | [], b, i => rfl
  | x :: a, b, i => by
    rw [List.cons_append, bodyT, bodyT, bodyT_append lab a b (i + 1), List.length_cons, show i + 1 + a.length = i + (a.length + 1) by omega, List.append_assoc]
theorem shL_all (es : List SE) (fs : List FE) : shT es es.length = fnL es fs 0 := by unfold shT fnL; rw [List.take_length]; simp [flat]
theorem fnL_next {es : List SE} {fs : List FE} {k : Nat} (h : k < fs.length) : fnL es fs (k + 1) = bdL es fs k fs[k].2 fs[k].2.bd.length := by
  unfold bdL
  rw [List.take_length]
  unfold fnL
  rw [List.take_succ_eq_append_getElem h, List.flatMap_append, flat_append]
  have : (List.flatMap (fun e : FE => funcT true e.2) [fs[k]]) = headT fs[k].2 ++ bodyT true 0 fs[k].2.bd := by
    rw [List.flatMap_cons, List.flatMap_nil, List.append_nil]; rfl
  rw [this, flat_append, List.append_assoc]
theorem fnL_all (es : List SE) (fs : List FE) : fnL es fs fs.length = flat (imgT true (imOf es fs)) := by
  unfold fnL imgT imOf
  rw [List.take_length, flat_append]
  simp [List.map_map, List.flatMap_map, Function.comp_def]
theorem bdL_next {es : List SE} {fs : List FE} {k : Nat} {f : F.Fu} {j : Nat} (h : j < f.bd.length) : bdL es fs k f (j + 1) = bdL es fs k f j ++ (joinW (lblW j) ++ [10]) ++ (joinW (itL f.bd[j]) ++ [10]) := by
  unfold bdL
  rw [List.take_succ_eq_append_getElem h, bodyT_append, flat_append]
  have : flat (bodyT true (0 + (f.bd.take j).length) [f.bd[j]]) = (joinW (lblW j) ++ [10]) ++ (joinW (itL f.bd[j]) ++ [10]) := by
    rw [bodyT, bodyT, List.append_nil, List.length_take, Nat.min_eq_left (by omega), Nat.zero_add]
    unfold itemT
    rw [if_pos rfl]
    unfold flat itL
    simp
  rw [this]
  simp only [List.append_assoc]
theorem lblW_le (j : Nat) (h : j ≤ 512) : (joinW (lblW (j : Int))).length ≤ 100 := by
  have := Lib.itoa_length_le (j : Int) (by omega) (by omega)
  unfold lblW lbl
  simp [joinW]
  omega
theorem itL_le {x : C.I3} (h : O.I64 x.2.1 ∧ O.I64 x.2.2) : (joinW (itL x)).length ≤ 100 := by
  unfold itL
  split
  · have h1 := O.name_len x.1
    have h2 := Lib.itoa_length_le x.2.1 h.1.1 h.1.2
    unfold jmpW lbl
    simp [joinW]
    omega
  · rw [join_words]
    have := text_le h
    omega
theorem body_le : ∀ (b : List C.I3) (i : Nat), i + b.length ≤ 512 → C.AllI b → (∀ w ∈ bodyT true i b, (joinW w).length ≤ 2200) ∧ (bodyT true i b).length = 2 * b.length
  | [], i, _, _ => ⟨(fun w hw => by cases hw), rfl⟩
  | x :: b, i, hi, hb => by
    rw [List.length_cons] at hi
    obtain ⟨h1, h2⟩ := body_le b (i + 1) (by omega) (fun y hy => hb y (List.mem_cons_of_mem _ hy))
    have h3 := lblW_le i (by omega)
    have h4 := itL_le (hb x (by simp))
    rw [bodyT]
    unfold itemT
    rw [if_pos rfl]
    refine ⟨fun w hw => ?_, by simp [h2]; omega⟩
    rcases List.mem_append.1 hw with hw | hw
    · rcases List.mem_cons.1 hw with rfl | hw
      · omega
      · rw [List.mem_singleton.1 hw]
        unfold itL at h4
        omega
    · exact h1 w hw
theorem funcL_le {f : F.Fu} (h : FnOk f) : (∀ w ∈ funcT true f, (joinW w).length ≤ 2200) ∧ (funcT true f).length ≤ 1026 := by
  have hl := h.len
  obtain ⟨h1, h2⟩ := body_le f.bd 0 (by omega) h.hI
  unfold funcT
  refine ⟨fun w hw => ?_, ?_⟩
  · rcases List.mem_append.1 hw with hw | hw
    · exact head_le h.ok w hw
    · exact h1 w hw
  · have h3 := head_count f
    rw [List.length_append, h2]
    omega
theorem funcsL_le : ∀ (l : List FE), (∀ e ∈ l, FnOk e.2) → (∀ w ∈ l.flatMap fun e => funcT true e.2, (joinW w).length ≤ 2200) ∧ (l.flatMap fun e => funcT true e.2).length ≤ 1026 * l.length
  | [], _ => ⟨(fun w hw => by cases hw), by simp⟩
  | e :: l, h => by
    obtain ⟨i1, i2⟩ := funcsL_le l (fun x hx => h x (by simp [hx]))
    obtain ⟨j1, j2⟩ := funcL_le (h e (by simp))
    rw [List.flatMap_cons]
    refine ⟨fun w hw => ?_, by rw [List.length_append, List.length_cons]; omega⟩
    rcases List.mem_append.1 hw with hw | hw
    · exact j1 w hw
    · exact i1 w hw
theorem fnL_le {es : List SE} {fs : List FE} (hn : es.length ≤ 64) (hm : fs.length ≤ 64) (h : ∀ e ∈ fs, FnOk e.2) (k : Nat) : (fnL es fs k).length ≤ 160000000 := by
  have h1 := shT_le hn es.length
  rw [shL_all es fs] at h1
  unfold fnL at h1 ⊢
  simp only [List.take_zero, List.flatMap_nil] at h1
  rw [List.length_append] at h1 ⊢
  obtain ⟨j1, j2⟩ := funcsL_le (fs.take k) (fun e he => h e (List.mem_of_mem_take he))
  have h2 := flat_le j1
  have h3 : (fs.take k).length ≤ 64 := by simp; omega
  have h4 : (2200 + 1) * ((fs.take k).flatMap fun e => funcT true e.2).length ≤ 2201 * (1026 * 64) := Nat.mul_le_mul_left _ (by omega)
  omega
theorem bdL_le {es : List SE} {fs : List FE} (hn : es.length ≤ 64) (hm : fs.length ≤ 64) (h : ∀ e ∈ fs, FnOk e.2) (k : Nat) {f : F.Fu} (hf : FnOk f) (j : Nat) : (bdL es fs k f j).length ≤ 170000000 ∧ (fnL es fs k).length + (flat (headT f)).length ≤ 170000000 := by
  have h1 := fnL_le hn hm h k
  have h2 := flat_le (head_le hf.ok)
  have h3 := head_count f
  have hl := hf.len
  obtain ⟨b1, b2⟩ := body_le (f.bd.take j) 0 (by simp; omega) (fun y hy => hf.hI y (List.mem_of_mem_take hy))
  have h4 := flat_le b1
  have h5 : (bodyT true 0 (f.bd.take j)).length ≤ 1024 := by rw [b2]; simp; omega
  unfold bdL
  rw [List.length_append, List.length_append]
  have h6 : (2200 + 1) * (bodyT true 0 (f.bd.take j)).length ≤ 2201 * 1024 := Nat.mul_le_mul_left _ h5
  have h7 : (2200 + 1) * (headT f).length ≤ 2201 * 2 := Nat.mul_le_mul_left _ h3
  omega

end Go.Proofs.YtifobiajjhknbaaGreatDoor.M
