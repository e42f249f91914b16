/-
  Which functions may be: what Check answers. Conditions: the function's lists lie in memory, and are no longer than statements go through.
  What the laws ask ahead: whether a function is more than statements go through; and the laws' own function. No conditions but those of each statement.
  A range over a function that is never left ahead of its end, whose iterator brings things of which something is known in the world in which each comes (En). No program, no conditions.
  The iterator of a function's slots: the arguments, the results, the locals, each with its number. Conditions: the lists lie in memory; a round keeps them.
  The types of a function's slots: what types and Slots answer. Conditions: the function's lists lie in memory, and are no longer than statements go through.
  What a slot is: what Slot answers. Conditions: the function's lists lie in memory, and are no longer than statements go through; the number fits an int64.
  Which slots are pointers: what Pointers answers. Conditions: the function's lists lie in memory, and are no longer than statements go through.
-/
import Derived.LoopIn
import Derived.LoopNIn
import Derived.OwnWalkIn
import Derived.RangeFuncBound
import Derived.RangeFuncCalls
import Derived.RangeFuncLeaves
import Derived.RangeFuncNested
import Derived.Shelf.Abstract
import Derived.Shelf.RegionOpen
import Derived.TacticsInMore
import Derived.WalkKit
import Derived.Test.YtbnekeomdhljhaaDoorQ5
import Derived.Test.YtbnekeomdhljhaaDoorQ4
import Derived.Test.YtbnekeomdhljhaaDoorQ2
namespace Go.Proofs.YtbnekeomdhljhaaDoor.F
open Go.RowKit W

/-- What each of the questions is answered. -/
def bsF (v : FV) (f : Fu) (i : Nat) : Bool := match i with
  | 0 => decide (v.na + v.nb + v.nl ≤ 64)
  | 1 => okN f.nm
  | 2 => S.okG f.ar f.rs
  | 3 => S.okG f.lc []
  | _ => C.okB f.bd
theorem bsF_all {v : FV} {f : Fu} {w : World} (h : FnAt w v f) (hb : ∀ i, i < 5 → bsF v f i = true) : okF f = true := by
  have h0 := of_decide_eq_true (hb 0 (by omega))
  have h1 : okN f.nm = true := hb 1 (by omega)
  have h2 : S.okG f.ar f.rs = true := hb 2 (by omega)
  have h3 : S.okG f.lc [] = true := hb 3 (by omega)
  have h4 : C.okB f.bd = true := hb 4 (by omega)
  rw [← h.la, ← h.lb, ← h.ll] at h0
  exact (okF_iff f).2 ⟨h1, h2, ((okG_one _).1 h3).2, h4, h0⟩
theorem bsF_not {v : FV} {f : Fu} {w : World} (h : FnAt w v f) (hb : ∃ i, i < 5 ∧ bsF v f i = false) : okF f = false := by
  refine okF_not fun ⟨h1, h2, h3, h4, h5⟩ => ?_
  obtain ⟨i, hi, hb⟩ := hb
  rw [h.la, h.lb, h.ll] at h5
  have hl : S.okG f.lc [] = true := (okG_one _).2 ⟨by rw [h.ll]; omega, h3⟩
  have hi : i = 0 ∨ i = 1 ∨ i = 2 ∨ i = 3 ∨ i = 4 := by omega
  rcases hi with rfl | rfl | rfl | rfl | rfl
  · exact absurd h5 (of_decide_eq_false hb)
  · rw [show bsF v f 1 = okN f.nm from rfl, h1] at hb; cases hb
  · rw [show bsF v f 2 = S.okG f.ar f.rs from rfl, h2] at hb; cases hb
  · rw [show bsF v f 3 = S.okG f.lc [] from rfl, hl] at hb; cases hb
  · rw [show bsF v f 4 = C.okB f.bd from rfl, h4] at hb; cases hb
theorem few_eq (v : FV) (f : Fu) : (((if v.na + v.nb + v.nl ≤ 64 then (0 : Int) else 70)) == 0) = bsF v f 0 := by
  show _ = decide _
  by_cases h : v.na + v.nb + v.nl ≤ 64
  · rw [if_pos h, decide_eq_true h]; rfl
  · rw [if_neg h, decide_eq_false h]; rfl
theorem chkN_eq (s : List UInt8) : (chkN s == 0) = okN s := by
  cases h : okN s
  · rw [chkN_no h]; rfl
  · rw [chkN_ok h]; rfl
theorem chkG_eq (a r : List Int) : (S.chkG a r == 0) = S.okG a r := by
  cases h : S.okG a r
  · rw [S.chkG_no h]; rfl
  · rw [S.chkG_ok h]; rfl
theorem chkB_eq (l : List C.I3) : (C.chkB l == 0) = C.okB l := by
  cases h : C.okB l
  · rw [C.chkB_no h]; rfl
  · rw [C.chkB_ok h]; rfl
theorem chkF_eq (f : Fu) : (chkF f == 0) = okF f := by
  cases h : okF f
  · rw [chkF_no h]; rfl
  · rw [chkF_ok h]; rfl

set_option maxRecDepth 100000 in
set_option maxHeartbeats 4000000 in
theorem checks_any (v : FV) (f : Fu) (w : World) (h : FnAt w v f) (hs : SmF v) (g : Nat) (u0 u1 u2 u3 u4 : Value) (hb : Blk w g 29 #[u0, u1, u2, u3, u4])
    (a0 : AskV 34 34 27 (fnV 22) (v.cells) u0 w)
    (a1 : AskV 35 53 9 (fnV 24) (#[.string v.S]) u1 w)
    (a2 : AskV 38 55 24 (fnV 26) (#[.slice v.A v.na v.ca, .slice v.B v.nb v.cb]) u2 w)
    (a3 : AskV 38 55 24 (fnV 26) (#[.slice v.L v.nl v.cl, .slice none 0 0]) u3 w)
    (a4 : AskV 42 58 25 (fnV 29) (#[.slice v.D v.nd v.cd]) u4 w) :
    Calls Tryd.prog 20 #[.slice (some ⟨g, 0, none⟩) 5 5] w fun e w' => e = .returned (.bool (okF f)) ∧ Keep NoB w w' := by
  obtain ⟨c0, p0, rfl, a0, b0⟩ := a0
  obtain ⟨c1, p1, rfl, a1, b1⟩ := a1
  obtain ⟨c2, p2, rfl, a2, b2⟩ := a2
  obtain ⟨c3, p3, rfl, a3, b3⟩ := a3
  obtain ⟨c4, p4, rfl, a4, b4⟩ := a4
  refine (every_any (some ⟨g, 0, none⟩) [(34, #[.pointer (some ⟨c0, 0, none⟩), .pointer (some ⟨p0, 0, none⟩)]), (35, #[.pointer (some ⟨c1, 0, none⟩), .pointer (some ⟨p1, 0, none⟩)]), (38, #[.pointer (some ⟨c2, 0, none⟩), .pointer (some ⟨p2, 0, none⟩)]), (38, #[.pointer (some ⟨c3, 0, none⟩), .pointer (some ⟨p3, 0, none⟩)]), (42, #[.pointer (some ⟨c4, 0, none⟩), .pointer (some ⟨p4, 0, none⟩)])] 5 5 w rfl (by decide) (bsF v f) (fun _ W => Keep NoB w W) (fun W => Keep NoB w W) ?hcf ?hr ?hq (Keep.refl _ _)).mono ?_
  case hcf =>
    intro q hq
    simp only [List.mem_cons, List.not_mem_nil, or_false] at hq
    rcases hq with rfl | rfl | rfl | rfl | rfl
    · exact enters_of Tryd.func34 (by kernel_rfl) rfl
    · exact enters_of Tryd.func35 (by kernel_rfl) rfl
    · exact enters_of Tryd.func38 (by kernel_rfl) rfl
    · exact enters_of Tryd.func38 (by kernel_rfl) rfl
    · exact enters_of Tryd.func42 (by kernel_rfl) rfl
  case hr =>
    intro i W hK _
    refine ⟨g, 0, rfl, fun j u hu => ?_⟩
    rw [Nat.zero_add, (hb.keep hK id).cell j]
    simpa using hu
  case hq =>
    intro i hi W hK
    have hf := h.keepN hK
    have hi : i = 0 ∨ i = 1 ∨ i = 2 ∨ i = 3 ∨ i = 4 := by simp at hi; omega
    rcases hi with rfl | rfl | rfl | rfl | rfl
    · refine (askedFun_any 22 (enters_of Tryd.func22 (by kernel_rfl) rfl) v c0 p0 W (a0.keep hK id) (b0.keep hK id) _ (bsF v f 0) (few_eq v f) (few_any v W hs _ rfl)).mono ?_
      rintro e W' ⟨rfl, hk⟩
      exact ⟨rfl, fun _ => keepN hK hk, fun _ => keepN hK hk⟩
    · refine (askedStr_any 24 (enters_of Tryd.func24 (by kernel_rfl) rfl) v.S c1 p1 W (a1.keep hK id) (b1.keep hK id) (chkN f.nm) (bsF v f 1) (chkN_eq _) ?_).mono ?_
      · refine (named_any v.S f.nm W hf.nm (by have := hs.sz; omega) _ rfl).mono ?_
        rintro e W' ⟨rfl, rfl⟩
        exact ⟨rfl, Keep.refl _ _⟩
      rintro e W' ⟨rfl, hk⟩
      exact ⟨rfl, fun _ => keepN hK hk, fun _ => keepN hK hk⟩
    · refine (askedSig_any 26 (enters_of Tryd.func26 (by kernel_rfl) rfl) _ _ c2 p2 W (a2.keep hK id) (b2.keep hK id) (S.chkG f.ar f.rs) (bsF v f 2) (chkG_eq _ _) (S.chkG_any v.A f.ar v.na v.ca v.B f.rs v.nb v.cb W hf.ra hf.rb hf.la hf.lb (by have := hs.na; omega) (by have := hs.nb; omega) _ rfl)).mono ?_
      rintro e W' ⟨rfl, hk⟩
      exact ⟨rfl, fun _ => keepN hK hk, fun _ => keepN hK hk⟩
    · refine (askedSig_any 26 (enters_of Tryd.func26 (by kernel_rfl) rfl) _ _ c3 p3 W (a3.keep hK id) (b3.keep hK id) (S.chkG f.lc []) (bsF v f 3) (chkG_eq _ _) (S.chkG_any v.L f.lc v.nl v.cl none [] 0 0 W hf.rl (Rd.none_ _ _) hf.ll rfl (by have := hs.nl; omega) (by omega) _ rfl)).mono ?_
      rintro e W' ⟨rfl, hk⟩
      exact ⟨rfl, fun _ => keepN hK hk, fun _ => keepN hK hk⟩
    · refine (askedBod_any 29 (enters_of Tryd.func29 (by kernel_rfl) rfl) v.D v.nd v.cd c4 p4 W (a4.keep hK id) (b4.keep hK id) (C.chkB f.bd) (bsF v f 4) (chkB_eq _) (C.cchk_any v.D f.bd v.nd v.cd W hf.rd hf.ld (by have := hs.nd; omega) _ rfl)).mono ?_
      rintro e W' ⟨rfl, hk⟩
      exact ⟨rfl, fun _ => keepN hK hk, fun _ => keepN hK hk⟩
  rintro e w' (⟨rfl, hb, hk⟩ | ⟨rfl, hb, hk⟩)
  · exact ⟨by rw [bsF_all h hb], hk⟩
  · exact ⟨by rw [bsF_not h hb], hk⟩

/-- What the values are that Check's region yields. -/
def SC (v : FV) (f : Fu) (b : Nat) : Nat → Value → World → Prop
  | 0 => fun u _ => u = v.val
  | 1 => AskV 34 34 27 (fnV 22) (v.cells)
  | 2 => fun u _ => u = .pointer (some ⟨b, 0, none⟩)
  | 3 => fun u _ => u = .string v.S
  | 4 => AskV 35 53 9 (fnV 24) (#[.string v.S])
  | 5 => fun u _ => u = .pointer (some ⟨b, 1, none⟩)
  | 6 => fun u _ => u = .agg #[.slice v.A v.na v.ca, .slice v.B v.nb v.cb]
  | 7 => AskV 38 55 24 (fnV 26) (#[.slice v.A v.na v.ca, .slice v.B v.nb v.cb])
  | 8 => fun u _ => u = .pointer (some ⟨b, 3, none⟩)
  | 9 => fun u _ => u = .slice v.L v.nl v.cl
  | 10 => fun u _ => u = .agg #[.slice v.L v.nl v.cl, .slice none 0 0]
  | 11 => AskV 38 55 24 (fnV 26) (#[.slice v.L v.nl v.cl, .slice none 0 0])
  | 12 => fun u _ => u = .pointer (some ⟨b, 4, none⟩)
  | 13 => fun u _ => u = .slice v.D v.nd v.cd
  | 14 => AskV 42 58 25 (fnV 29) (#[.slice v.D v.nd v.cd])
  | 15 => fun u w => ∃ g u0 u1 u2 u3 u4, u = .slice (some ⟨g, 0, none⟩) 5 5 ∧ Blk w g 29 #[u0, u1, u2, u3, u4] ∧ AskV 34 34 27 (fnV 22) (v.cells) u0 w ∧ AskV 35 53 9 (fnV 24) (#[.string v.S]) u1 w ∧ AskV 38 55 24 (fnV 26) (#[.slice v.A v.na v.ca, .slice v.B v.nb v.cb]) u2 w ∧ AskV 38 55 24 (fnV 26) (#[.slice v.L v.nl v.cl, .slice none 0 0]) u3 w ∧ AskV 42 58 25 (fnV 29) (#[.slice v.D v.nd v.cd]) u4 w
  | 16 => fun u _ => u = .bool (okF f)
  | 17 => fun u _ => u = .bool (!okF f)
  | _ => fun _ _ => True
theorem SC_stable (v : FV) (f : Fu) (b : Nat) : ∀ i u w w', SC v f b i u w → Keep NoB w w' → SC v f b i u w'
  | 0, _, _, _, h, _ => h
  | 1, _, _, _, h, hk => AskV.keep h hk
  | 2, _, _, _, h, _ => h
  | 3, _, _, _, h, _ => h
  | 4, _, _, _, h, hk => AskV.keep h hk
  | 5, _, _, _, h, _ => h
  | 6, _, _, _, h, _ => h
  | 7, _, _, _, h, hk => AskV.keep h hk
  | 8, _, _, _, h, _ => h
  | 9, _, _, _, h, _ => h
  | 10, _, _, _, h, _ => h
  | 11, _, _, _, h, hk => AskV.keep h hk
  | 12, _, _, _, h, _ => h
  | 13, _, _, _, h, _ => h
  | 14, _, _, _, h, hk => AskV.keep h hk
  | 15, _, _, _, ⟨g, u0, u1, u2, u3, u4, e, hb, a0, a1, a2, a3, a4⟩, hk => ⟨g, u0, u1, u2, u3, u4, e, hb.keep hk id, a0.keep hk, a1.keep hk, a2.keep hk, a3.keep hk, a4.keep hk⟩
  | 16, _, _, _, h, _ => h
  | 17, _, _, _, h, _ => h
  | _ + 18, _, _, _, h, _ => h

set_option maxRecDepth 100000 in
set_option maxHeartbeats 8000000 in
theorem check_any (v : FV) (f : Fu) (w : World) (h : FnAt w v f) (hs : SmF v) (R : Int) (hR : Hid (chkF f = R)) :
    Calls Tryd.prog 8 #[v.val] w fun e w' => e = .returned (.int .i64 R) ∧ Keep NoB w w' := by
  have bx := Blk.new w 27 v.cells
  have k0 := (Keep.refl NoB w).alloc (.cells v.cells 27)
  have HF := Lib.hid (h.keepN k0)
  obtain ⟨S, A, na, ca, B, nb, cb, L, nl, cl, D, nd, cd⟩ := v
  have HE := Lib.hid (fun W hf g u0 u1 u2 u3 u4 hb a0 a1 a2 a3 a4 => checks_any _ f W hf hs g u0 u1 u2 u3 u4 hb a0 a1 a2 a3 a4)
  obtain ⟨q0, q1, q2, q3, q4⟩ := blk5 bx
  dsimp only [FV.val, FV.cells] at bx k0 HF q0 q1 q2 q3 q4 ⊢
  have HX := Lib.hid bx
  clear h hs bx
  generalize hw1 : w.alloc (.cells #[.string S, .slice A na ca, .slice B nb cb, .slice L nl cl, .slice D nd cd] 27) = w1 at k0 HF q0 q1 q2 q3 q4 HX
  go_enter Tryd.func8, Tryd.ntmps8
  go_wp2_with fail
  clear hw1
  refine wp_region_props2 3 99 (NoB) (by kernel_rfl) (by kernel_rfl) (SC ⟨S, A, na, ca, B, nb, cb, L, nl, cl, D, nd, cd⟩ f w.heap.size) (fun i u x y _ h hk => SC_stable _ _ _ i u x y h hk) (of_decide_eq_true rfl) ?step ?spec ?fin
  case step =>
    intro i o a w' ho hic hF hK hA
    have hi : i < 18 := by simpa using (Array.getElem?_eq_some_iff.1 ho).1
    by_cases h0 : i = 0
    · subst h0
      simp only [List.getElem?_toArray, List.getElem?_cons_zero, Option.some.injEq] at ho
      subst ho
      have e1 : a.tmps.getD 1 undef = .pointer (some ⟨w.heap.size, 0, none⟩) := hF.2.2 1 (.inl (by decide))
      have c0 := Keep.cell hK q0 id
      have c1 := Keep.cell hK q1 id
      have c2 := Keep.cell hK q2 id
      have c3 := Keep.cell hK q3 id
      have c4 := Keep.cell hK q4 id
      refine Does.plain rfl ?_
      unfold yieldsK
      go_simp
      exact ⟨rfl, Keep.refl _ _⟩
    by_cases h1 : i = 1
    · subst h1
      simp only [List.getElem?_toArray, List.getElem?_cons_zero, List.getElem?_cons_succ, Option.some.injEq] at ho
      subst ho
      have e3 : a.tmps.getD 3 undef = .agg #[.string S, .slice A na ca, .slice B nb cb, .slice L nl cl, .slice D nd cd] := hA ⟨0, .data⟩ (by simp) rfl
      refine Does.plain rfl ?_
      unfold yieldsK
      go_simp
      refine (passesFun_any 22 ⟨S, A, na, ca, B, nb, cb, L, nl, cl, D, nd, cd⟩ w').mono ?_
      rintro e w2 ⟨u, rfl, h1, h2⟩
      exact ⟨_, rfl, h1, h2⟩
    by_cases h2 : i = 2
    · subst h2
      simp only [List.getElem?_toArray, List.getElem?_cons_zero, List.getElem?_cons_succ, Option.some.injEq] at ho
      subst ho
      have e1 : a.tmps.getD 1 undef = .pointer (some ⟨w.heap.size, 0, none⟩) := hF.2.2 1 (.inl (by decide))
      refine Does.plain rfl ?_
      unfold yieldsK
      go_simp
      exact ⟨rfl, Keep.refl _ _⟩
    by_cases h3 : i = 3
    · subst h3
      simp only [List.getElem?_toArray, List.getElem?_cons_zero, List.getElem?_cons_succ, Option.some.injEq] at ho
      subst ho
      have e5 : a.tmps.getD 5 undef = .pointer (some ⟨w.heap.size, 0, none⟩) := hA ⟨2, .data⟩ (by simp) rfl
      have c0 := Keep.cell hK q0 id
      refine Does.plain rfl ?_
      unfold yieldsK
      go_simp
      exact ⟨rfl, Keep.refl _ _⟩
    by_cases h4 : i = 4
    · subst h4
      simp only [List.getElem?_toArray, List.getElem?_cons_zero, List.getElem?_cons_succ, Option.some.injEq] at ho
      subst ho
      have e6 : a.tmps.getD 6 undef = .string S := hA ⟨3, .data⟩ (by simp) rfl
      refine Does.plain rfl ?_
      unfold yieldsK
      go_simp
      refine (passesStr_any 24 S w').mono ?_
      rintro e w2 ⟨u, rfl, h1, h2⟩
      exact ⟨_, rfl, h1, h2⟩
    by_cases h5 : i = 5
    · subst h5
      simp only [List.getElem?_toArray, List.getElem?_cons_zero, List.getElem?_cons_succ, Option.some.injEq] at ho
      subst ho
      have e1 : a.tmps.getD 1 undef = .pointer (some ⟨w.heap.size, 0, none⟩) := hF.2.2 1 (.inl (by decide))
      refine Does.plain rfl ?_
      unfold yieldsK
      go_simp
      exact ⟨rfl, Keep.refl _ _⟩
    by_cases h6 : i = 6
    · subst h6
      simp only [List.getElem?_toArray, List.getElem?_cons_zero, List.getElem?_cons_succ, Option.some.injEq] at ho
      subst ho
      have e8 : a.tmps.getD 8 undef = .pointer (some ⟨w.heap.size, 1, none⟩) := hA ⟨5, .data⟩ (by simp) rfl
      have c1 := Keep.cell hK q1 id
      have c2 := Keep.cell hK q2 id
      refine Does.plain rfl ?_
      unfold yieldsK
      go_simp
      exact ⟨rfl, Keep.refl _ _⟩
    by_cases h7 : i = 7
    · subst h7
      simp only [List.getElem?_toArray, List.getElem?_cons_zero, List.getElem?_cons_succ, Option.some.injEq] at ho
      subst ho
      have e9 : a.tmps.getD 9 undef = .agg #[.slice A na ca, .slice B nb cb] := hA ⟨6, .data⟩ (by simp) rfl
      refine Does.plain rfl ?_
      unfold yieldsK
      go_simp
      refine (passesSig_any 26 (.slice A na ca) (.slice B nb cb) w').mono ?_
      rintro e w2 ⟨u, rfl, h1, h2⟩
      exact ⟨_, rfl, h1, h2⟩
    by_cases h8 : i = 8
    · subst h8
      simp only [List.getElem?_toArray, List.getElem?_cons_zero, List.getElem?_cons_succ, Option.some.injEq] at ho
      subst ho
      have e1 : a.tmps.getD 1 undef = .pointer (some ⟨w.heap.size, 0, none⟩) := hF.2.2 1 (.inl (by decide))
      refine Does.plain rfl ?_
      unfold yieldsK
      go_simp
      exact ⟨rfl, Keep.refl _ _⟩
    by_cases h9 : i = 9
    · subst h9
      simp only [List.getElem?_toArray, List.getElem?_cons_zero, List.getElem?_cons_succ, Option.some.injEq] at ho
      subst ho
      have e11 : a.tmps.getD 11 undef = .pointer (some ⟨w.heap.size, 3, none⟩) := hA ⟨8, .data⟩ (by simp) rfl
      have c3 := Keep.cell hK q3 id
      refine Does.plain rfl ?_
      unfold yieldsK
      go_simp
      exact ⟨rfl, Keep.refl _ _⟩
    by_cases h10 : i = 10
    · subst h10
      simp only [List.getElem?_toArray, List.getElem?_cons_zero, List.getElem?_cons_succ, Option.some.injEq] at ho
      subst ho
      have e12 : a.tmps.getD 12 undef = .slice L nl cl := hA ⟨9, .data⟩ (by simp) rfl
      refine Does.plain rfl ?_
      unfold yieldsK
      go_simp
      refine (taking_any L nl cl w').mono ?_
      rintro e w2 ⟨rfl, h2⟩
      exact ⟨_, rfl, rfl, h2⟩
    by_cases h11 : i = 11
    · subst h11
      simp only [List.getElem?_toArray, List.getElem?_cons_zero, List.getElem?_cons_succ, Option.some.injEq] at ho
      subst ho
      have e13 : a.tmps.getD 13 undef = .agg #[.slice L nl cl, .slice none 0 0] := hA ⟨10, .data⟩ (by simp) rfl
      refine Does.plain rfl ?_
      unfold yieldsK
      go_simp
      refine (passesSig_any 26 (.slice L nl cl) (.slice none 0 0) w').mono ?_
      rintro e w2 ⟨u, rfl, h1, h2⟩
      exact ⟨_, rfl, h1, h2⟩
    by_cases h12 : i = 12
    · subst h12
      simp only [List.getElem?_toArray, List.getElem?_cons_zero, List.getElem?_cons_succ, Option.some.injEq] at ho
      subst ho
      have e1 : a.tmps.getD 1 undef = .pointer (some ⟨w.heap.size, 0, none⟩) := hF.2.2 1 (.inl (by decide))
      refine Does.plain rfl ?_
      unfold yieldsK
      go_simp
      exact ⟨rfl, Keep.refl _ _⟩
    by_cases h13 : i = 13
    · subst h13
      simp only [List.getElem?_toArray, List.getElem?_cons_zero, List.getElem?_cons_succ, Option.some.injEq] at ho
      subst ho
      have e15 : a.tmps.getD 15 undef = .pointer (some ⟨w.heap.size, 4, none⟩) := hA ⟨12, .data⟩ (by simp) rfl
      have c4 := Keep.cell hK q4 id
      refine Does.plain rfl ?_
      unfold yieldsK
      go_simp
      exact ⟨rfl, Keep.refl _ _⟩
    by_cases h14 : i = 14
    · subst h14
      simp only [List.getElem?_toArray, List.getElem?_cons_zero, List.getElem?_cons_succ, Option.some.injEq] at ho
      subst ho
      have e16 : a.tmps.getD 16 undef = .slice D nd cd := hA ⟨13, .data⟩ (by simp) rfl
      refine Does.plain rfl ?_
      unfold yieldsK
      go_simp
      refine (passesBod_any 29 D nd cd w').mono ?_
      rintro e w2 ⟨u, rfl, h1, h2⟩
      exact ⟨_, rfl, h1, h2⟩
    by_cases h15 : i = 15
    · subst h15
      simp only [List.getElem?_toArray, List.getElem?_cons_zero, List.getElem?_cons_succ, Option.some.injEq] at ho
      subst ho
      obtain ⟨c0, p0, e4, a0, b0⟩ := hA ⟨1, .data⟩ (by simp) rfl
      have e4 : a.tmps.getD 4 undef = askV 34 #[.pointer (some ⟨c0, 0, none⟩), .pointer (some ⟨p0, 0, none⟩)] := e4
      obtain ⟨c1, p1, e7, a1, b1⟩ := hA ⟨4, .data⟩ (by simp) rfl
      have e7 : a.tmps.getD 7 undef = askV 35 #[.pointer (some ⟨c1, 0, none⟩), .pointer (some ⟨p1, 0, none⟩)] := e7
      obtain ⟨c2, p2, e10, a2, b2⟩ := hA ⟨7, .data⟩ (by simp) rfl
      have e10 : a.tmps.getD 10 undef = askV 38 #[.pointer (some ⟨c2, 0, none⟩), .pointer (some ⟨p2, 0, none⟩)] := e10
      obtain ⟨c3, p3, e14, a3, b3⟩ := hA ⟨11, .data⟩ (by simp) rfl
      have e14 : a.tmps.getD 14 undef = askV 38 #[.pointer (some ⟨c3, 0, none⟩), .pointer (some ⟨p3, 0, none⟩)] := e14
      obtain ⟨c4, p4, e17, a4, b4⟩ := hA ⟨14, .data⟩ (by simp) rfl
      have e17 : a.tmps.getD 17 undef = askV 42 #[.pointer (some ⟨c4, 0, none⟩), .pointer (some ⟨p4, 0, none⟩)] := e17
      refine Does.plain rfl ?_
      unfold yieldsK
      unfold askV at *
      simp only [Array.getD_eq_getD_getElem?] at e4 e7 e10 e14 e17
      go_simp
      refine ⟨⟨w'.heap.size, _, _, _, _, _, rfl, Blk.new _ _ _, ⟨c0, p0, rfl, a0.alloc _, b0.alloc _⟩, ⟨c1, p1, rfl, a1.alloc _, b1.alloc _⟩, ⟨c2, p2, rfl, a2.alloc _, b2.alloc _⟩, ⟨c3, p3, rfl, a3.alloc _, b3.alloc _⟩, ⟨c4, p4, rfl, a4.alloc _, b4.alloc _⟩⟩, (Keep.refl _ _).alloc _⟩
    by_cases h16 : i = 16
    · subst h16
      simp only [List.getElem?_toArray, List.getElem?_cons_zero, List.getElem?_cons_succ, Option.some.injEq] at ho
      subst ho
      obtain ⟨g, u0, u1, u2, u3, u4, e18, hb, a0, a1, a2, a3, a4⟩ := hA ⟨15, .data⟩ (by simp) rfl
      have e18 : a.tmps.getD 18 undef = .slice (some ⟨g, 0, none⟩) 5 5 := e18
      refine Does.plain rfl ?_
      unfold yieldsK
      go_simp
      refine (HE.out w' (HF.out.keepN hK) g u0 u1 u2 u3 u4 hb a0 a1 a2 a3 a4).mono ?_
      rintro e w2 ⟨rfl, h2⟩
      exact ⟨_, rfl, rfl, h2⟩
    by_cases h17 : i = 17
    · subst h17
      simp only [List.getElem?_toArray, List.getElem?_cons_zero, List.getElem?_cons_succ, Option.some.injEq] at ho
      subst ho
      have e19 : a.tmps.getD 19 undef = .bool (okF f) := hA ⟨16, .data⟩ (by simp) rfl
      refine Does.plain rfl ?_
      unfold yieldsK
      go_simp
      exact ⟨rfl, Keep.refl _ _⟩
    omega
  case spec =>
    intro o a w' ho
    simp at ho
  case fin =>
    intro a w' hF gK hA
    have e20 : a.tmps.getD (3 + 17) undef = .bool (!okF f) := hA 17 (by decide)
    have ha := frame_fill (n := 18) hF (of_decide_eq_true rfl)
    rw [ha]
    rw [show List.range 18 = [0, 1, 2, 3, 4, 5, 6, 7, 8, 9, 10, 11, 12, 13, 14, 15, 16, 17] from rfl]
    simp only [List.map_cons, List.map_nil, e20]
    generalize a.tmps.getD (3 + 0) undef = u0
    generalize a.tmps.getD (3 + 1) undef = u1
    generalize a.tmps.getD (3 + 2) undef = u2
    generalize a.tmps.getD (3 + 3) undef = u3
    generalize a.tmps.getD (3 + 4) undef = u4
    generalize a.tmps.getD (3 + 5) undef = u5
    generalize a.tmps.getD (3 + 6) undef = u6
    generalize a.tmps.getD (3 + 7) undef = u7
    generalize a.tmps.getD (3 + 8) undef = u8
    generalize a.tmps.getD (3 + 9) undef = u9
    generalize a.tmps.getD (3 + 10) undef = u10
    generalize a.tmps.getD (3 + 11) undef = u11
    generalize a.tmps.getD (3 + 12) undef = u12
    generalize a.tmps.getD (3 + 13) undef = u13
    generalize a.tmps.getD (3 + 14) undef = u14
    generalize a.tmps.getD (3 + 15) undef = u15
    generalize a.tmps.getD (3 + 16) undef = u16
    simp only [fillT, List.setIfInBounds_toArray, List.set_cons_zero, List.set_cons_succ]
    have HR := Lib.hid (keepN k0 gK)
    clear gK k0 hA hF ha e20 HE HF HX q0 q1 q2 q3 q4
    cases ho : okF f
    · obtain rfl : 70 = R := by rw [← hR.out]; exact (chkF_no ho).symm
      clear hR ho
      go_wp2
      go_ret
      exact ⟨rfl, HR.out⟩
    · obtain rfl : 0 = R := by rw [← hR.out]; exact (chkF_ok ho).symm
      clear hR ho
      go_wp2
      go_ret
      exact ⟨rfl, HR.out⟩

end Go.Proofs.YtbnekeomdhljhaaDoor.F

namespace Go.Proofs.YtbnekeomdhljhaaDoor.F
open Go.RowKit W

set_option maxRecDepth 100000 in
set_option maxHeartbeats 4000000 in
theorem great_no (v : FV) (w : World) (hs : SmF v) : Calls Tryd.prog 6 #[v.val] w fun e w' => e = .returned (.int .i64 0) ∧ Keep NoB w w' := by
  obtain ⟨s0, A, na, ca, B, nb, cb, L, nl, cl, D, nd, cd⟩ := v
  obtain ⟨h1, h2, h3, h4, h5⟩ := hs
  dsimp only at h1 h2 h3 h4 h5
  have k0 := (Keep.refl NoB w).alloc (.cells (FV.cells ⟨s0, A, na, ca, B, nb, cb, L, nl, cl, D, nd, cd⟩) 27)
  have HG := Lib.hid (fun w => S.great_no none A B 0 0 na ca nb cb w (Nat.zero_le _) h2 h3)
  unfold FV.val FV.cells at *
  go_enter Tryd.func6, Tryd.ntmps6
  go_wp2_with (go_at_call 18; refine (HG.out _).mono ?_; rintro e w1 ⟨rfl, k1⟩)
  go_ret
  exact ⟨rfl, keepN k0 k1⟩
theorem not_small {v : FV} (hs : ¬ SmF v) : 100 < v.S.size ∨ (v.S.size ≤ 100 ∧ 100 < v.nl) ∨ (v.S.size ≤ 100 ∧ v.nl ≤ 100 ∧ 600 < v.nd) ∨ (v.S.size ≤ 100 ∧ v.nl ≤ 100 ∧ v.nd ≤ 600 ∧ ¬ (0 ≤ 100 ∧ v.na ≤ 100 ∧ v.nb ≤ 100)) := by
  by_cases h1 : v.S.size ≤ 100
  · by_cases h2 : v.nl ≤ 100
    · by_cases h3 : v.nd ≤ 600
      · exact .inr (.inr (.inr ⟨h1, h2, h3, fun h => hs ⟨h1, h.2.1, h.2.2, h2, h3⟩⟩))
      · exact .inr (.inr (.inl ⟨h1, h2, by omega⟩))
    · exact .inr (.inl ⟨h1, by omega⟩)
  · exact .inl (by omega)
set_option maxRecDepth 100000 in
set_option maxHeartbeats 4000000 in
theorem great_yes (v : FV) (w : World) (hs : ¬ SmF v) : Calls Tryd.prog 6 #[v.val] w fun e w' => e = .returned (.int .i64 1) ∧ Keep NoB w w' := by
  have hn := not_small hs
  obtain ⟨s0, A, na, ca, B, nb, cb, L, nl, cl, D, nd, cd⟩ := v
  dsimp only at hn
  have k0 := (Keep.refl NoB w).alloc (.cells (FV.cells ⟨s0, A, na, ca, B, nb, cb, L, nl, cl, D, nd, cd⟩) 27)
  unfold FV.val FV.cells at *
  clear hs
  rcases hn with h1 | ⟨h1, h2⟩ | ⟨h1, h2, h3⟩ | ⟨h1, h2, h3, h4⟩
  · go_enter Tryd.func6, Tryd.ntmps6
    go_wp2
    go_ret
    exact ⟨rfl, k0⟩
  · go_enter Tryd.func6, Tryd.ntmps6
    go_wp2
    go_ret
    exact ⟨rfl, k0⟩
  · go_enter Tryd.func6, Tryd.ntmps6
    go_wp2
    go_ret
    exact ⟨rfl, k0⟩
  · have HG := Lib.hid (fun w => S.great_yes none A B 0 0 na ca nb cb w h4)
    clear h4
    go_enter Tryd.func6, Tryd.ntmps6
    go_wp2_with (go_at_call 18; refine (HG.out _).mono ?_; rintro e w1 ⟨rfl, k1⟩)
    go_ret
    exact ⟨rfl, keepN k0 k1⟩

theorem fun_size : (Tryd.prog.info? 27).map (·.size) = some 5 := by kernel_rfl
theorem ret_fun {fn : Func} {p : Tmp} {tmps : Array Value} {w : World} {g : Nat} {v : FV} (h : fn.results = #[.cell p 27]) (hp : tmps.getD p undef = .pointer (some ⟨g, 0, none⟩)) (hb : Blk w g 27 v.cells) :
    (results fn tmps).run Tryd.prog w = .ok v.val w :=
  results_cell_row h tmps w g 27 v.cells (0, 0) _ hp hb Tryd.underlying27 rfl fun_size

/-- The laws' own function. -/
def fSome : Fu := ⟨[102], [1, 4], [2], [3], [(24, 0, 0)]⟩
theorem some_I : C.AllI [(24, 0, 0)] := fun x hx => by rw [List.mem_singleton.1 hx]; exact ⟨show O.I64 0 by unfold O.I64; omega, show O.I64 0 by unfold O.I64; omega⟩
/-- A function that is small, and reads as one. -/
def FnV (f : Fu) (v : FV) (w : World) : Prop := FnAt w v f ∧ SmF v
theorem FnV.keepN {f : Fu} {v : FV} {w w' : World} (h : FnV f v w) (hk : Keep NoB w w') : FnV f v w' := ⟨h.1.keepN hk, h.2⟩
set_option maxRecDepth 100000 in
set_option maxHeartbeats 4000000 in
theorem some_any (w : World) : Calls Tryd.prog 16 #[] w fun e w' => ∃ v : FV, e = .returned v.val ∧ FnV fSome v w' ∧ Keep NoB w w' := by
  obtain ⟨v, hv⟩ : ∃ v : FV, v = ⟨⟨#[102]⟩, some ⟨w.heap.size + 1, 0, none⟩, 2, 2, some ⟨w.heap.size + 1 + 1, 0, none⟩, 1, 1, some ⟨w.heap.size + 1 + 1 + 1, 0, none⟩, 1, 1, some ⟨w.heap.size + 1 + 1 + 1 + 1, 0, none⟩, 1, 1⟩ := ⟨_, rfl⟩
  have HV := Lib.hid hv
  have hb0 := ((((Blk.new w 27 v.cells).alloc (.cells #[.int .i64 1, .int .i64 4] 3)).alloc (.cells #[.int .i64 2] 3)).alloc (.cells #[.int .i64 3] 3)).alloc (.cells #[.int .i64 24, .int .i64 0, .int .i64 0] 69)
  have h1 := rd_new (w.alloc (.cells v.cells 27)) 3 #[.int .i64 1, .int .i64 4]
  have k1 := ((((Keep.refl NoB (w.alloc (.cells v.cells 27))).alloc (.cells #[.int .i64 1, .int .i64 4] 3)).alloc (.cells #[.int .i64 2] 3)).alloc (.cells #[.int .i64 3] 3)).alloc (.cells #[.int .i64 24, .int .i64 0, .int .i64 0] 69)
  have h2 := rd_new ((w.alloc (.cells v.cells 27)).alloc (.cells #[.int .i64 1, .int .i64 4] 3)) 3 #[.int .i64 2]
  have h3 := rd_new (((w.alloc (.cells v.cells 27)).alloc (.cells #[.int .i64 1, .int .i64 4] 3)).alloc (.cells #[.int .i64 2] 3)) 3 #[.int .i64 3]
  have h4 := rd_new ((((w.alloc (.cells v.cells 27)).alloc (.cells #[.int .i64 1, .int .i64 4] 3)).alloc (.cells #[.int .i64 2] 3)).alloc (.cells #[.int .i64 3] 3)) 69 #[.int .i64 24, .int .i64 0, .int .i64 0]
  simp only [World.size_alloc] at h1 h2 h3 h4
  have HF : Hid (FnV fSome v (((((w.alloc (.cells v.cells 27)).alloc (.cells #[.int .i64 1, .int .i64 4] 3)).alloc (.cells #[.int .i64 2] 3)).alloc (.cells #[.int .i64 3] 3)).alloc (.cells #[.int .i64 24, .int .i64 0, .int .i64 0] 69))) := by
    subst hv
    refine ⟨⟨rfl, ?_, ?_, ?_, h4, rfl, rfl, rfl, rfl, some_I⟩, ⟨Nat.le_of_ble_eq_true rfl, Nat.le_of_ble_eq_true rfl, Nat.le_of_ble_eq_true rfl, Nat.le_of_ble_eq_true rfl, Nat.le_of_ble_eq_true rfl⟩⟩
    · exact h1.keepN ((((Keep.refl NoB _).alloc _).alloc _).alloc _)
    · exact h2.keepN (((Keep.refl NoB _).alloc _).alloc _)
    · exact h3.keepN ((Keep.refl NoB _).alloc _)
  have HB := Lib.hid hb0
  have HK := Lib.hid (keepN ((Keep.refl NoB w).alloc _) k1)
  subst hv
  unfold FV.cells at *
  clear hb0 h1 h2 h3 h4 k1 HV
  go_enter Tryd.func16, Tryd.ntmps16
  go_wp2
  refine bodyPost_ret (ret_fun (v := ⟨⟨#[102]⟩, some ⟨w.heap.size + 1, 0, none⟩, 2, 2, some ⟨w.heap.size + 1 + 1, 0, none⟩, 1, 1, some ⟨w.heap.size + 1 + 1 + 1, 0, none⟩, 1, 1, some ⟨w.heap.size + 1 + 1 + 1 + 1, 0, none⟩, 1, 1⟩) rfl rfl HB.out) rfl ?_
  exact ⟨⟨⟨#[102]⟩, some ⟨w.heap.size + 1, 0, none⟩, 2, 2, some ⟨w.heap.size + 1 + 1, 0, none⟩, 1, 1, some ⟨w.heap.size + 1 + 1 + 1, 0, none⟩, 1, 1, some ⟨w.heap.size + 1 + 1 + 1 + 1, 0, none⟩, 1, 1⟩, rfl, HF.out, HK.out⟩

end Go.Proofs.YtbnekeomdhljhaaDoor.F

namespace Go.Proofs.YtbnekeomdhljhaaDoor
open Go.RowKit Go.Shelf

section
variable {P : Program} {n : Nat}

theorem Keep.grows {W W' : World} (h : Keep NoB W W') : W.grownBy W' none := ⟨h.os, h.tape, h.output, h.size, fun k hk _ => h.block k hk id⟩
theorem ownFrom_keeps {β : Type} {B : Nat} {I : β → World → Prop} (hI : OwnFrom B I) {s : β} {W W' : World} (h : I s W) (hk : Keep NoB W W') : I s W' := hI s W W' none h hk.grows (fun r e => by cases e)
theorem keepsFrom_keep {B : Nat} {W W' : World} (hk : Keep NoB W W') : KeepsFrom B W W' := ⟨hk.size, fun k _ _ h _ => (hk.block k (Array.getElem?_eq_some_iff.1 h).1 id).trans h⟩

/-- One round, out of the walks of the assignments and of the body, if the body comes to its end. -/
theorem yieldAt_end {L m : Nat} {r : Loop} {args : Array Value} {W : World} {R : World → Prop} (hl : W.heap[L]? = some (.loop r)) (hr : r.state = .ready) (hp : r.pending = none) (hs : args.size = r.params.size)
    (h : r.assign.wpIn (Fence.wide.inRound L) m P (Exit.then (fun a₁ W₁ => W₁.heap[L]? = some (.loop r) ∧
        r.body.wpIn (Fence.wide.inRound L) m P (fun e _ W₃ => e = .normal ∧ W₃.heap[L]? = some (.loop { r with state := .busy }) ∧ R (W₃.putObj L (.loop r))) a₁ (W₁.putObj L (.loop { r with state := .busy })))
        (fun _ _ _ => False)) { tmps := (r.params.zip args).foldl (fun t (p, v) => t.setIfInBounds p v) r.tmps, defers := [] } W) :
    YieldAt Fence.wide m P L args W fun e W' => e = .returned (.bool true) ∧ R W' := by
  refine ⟨r.fn, _, r.assign, r.body, run_yield hl hs, roundIn_of_wpIn trivial (wpIn_mono h ?_)⟩
  intro e a₁ W₁ hq
  cases e with
  | normal =>
    obtain ⟨h1, h2⟩ := hq
    refine ⟨_, run_beginRound h1 hr, wpIn_mono h2 ?_⟩
    rintro e₃ a₃ W₃ ⟨rfl, h3, h4⟩
    refine ⟨_, _, run_endRound none h3, rfl, ?_⟩
    have hb : ({ r with state := .busy } : Loop) = { r with state := .busy } := rfl
    have he : ({ ({ r with state := .busy } : Loop) with state := if (none : Option Code).isNone then LoopState.ready else .done, pending := none } : Loop) = r := by
      cases r; simp_all
    rw [he]; exact h4
  | exit id => exact hq
  | goto t => exact hq
  | ret => exact hq
  | panic c => exact hq
  | outgrown => exact hq

/-- What is asked of the iterator. -/
def Brings {α : Type} (P : Program) (m k : Nat) (gf : Nat) (lb : Array Value) (encs : α → Array Value) (I : List α → World → Prop) (En : List α → α → World → Prop) (S : List α → Prop) : Prop :=
  ∀ (L : Nat) (J : List α → World → Prop), (∀ pre W W', J pre W → Keep NoB W W' → J pre W') → (∀ pre W, J pre W → I pre W) →
    (∀ pre x W, J pre W → En pre x W → YieldAt Fence.wide m P L (encs x) W fun e W' => e = .returned (.bool true) ∧ J (pre ++ [x]) W') →
    ∀ W, J [] W → CallsIn Fence.wide k P gf (#[.func (.yield L) #[] #[]] ++ lb) W fun e W' => (∃ v, e = .returned v) ∧ ∃ xs, S xs ∧ J xs W'

theorem wpIn_rangeFunc_brings {α : Type} {g : Operand} {ps : Array Tmp} {assign body : Code} {Q : Exit → Act → World → Prop} {a : Act} {w : World} {m : Nat}
    {gf : Nat} {lb : Array Value} (hg : a.eval g = .func (.func gf) #[] lb) (eg : ∀ args w, (callFunc gf args).run P w = .ok (.enter gf args) w)
    {encs : α → Array Value} {I : List α → World → Prop} {En : List α → α → World → Prop} {S : List α → Prop} (hit : Brings P m (n - 1) gf lb encs I En S) (hps : ∀ x, (encs x).size = ps.size)
    (hI : OwnFrom w.heap.size I) (h0 : I [] w) (Ax : List α → α → Act → World → Prop) (hAx : ∀ pre x a', OwnFrom w.heap.size (fun (_ : Unit) W => Ax pre x a' W))
    (hassign : ∀ (l : Nat) (pre : List α) (x : α) (W : World), I pre W → En pre x W →
      assign.wpIn (Fence.wide.inRound l) m P (Exit.then (fun a' W' => Ax pre x a' W' ∧ KeepsFrom w.heap.size W W') (fun _ _ _ => False)) { tmps := (ps.zip (encs x)).foldl (fun t (p, v) => t.setIfInBounds p v) a.tmps, defers := [] } W)
    (hbody : ∀ (l : Nat) (pre : List α) (x : α) (a' : Act) (W : World), Ax pre x a' W → body.wpIn (Fence.wide.inRound l) m P (fun e _ W' => e = .normal ∧ I (pre ++ [x]) W' ∧ KeepsFrom w.heap.size W W') a' W)
    (hdone : ∀ (D : Nat) (xs : List α) (W : World), w.heap.size ≤ D → S xs → I xs W → W.heap[D]? = some (.deferred (some [])) → Q .normal { a with defers := { target := .collected D, args := #[] } :: a.defers } W) :
    (Code.rangeFunc g ps assign body).wpIn Fence.wide n P Q a w := by
  refine wpIn_rangeFunc fun fn _ => ?_
  obtain ⟨r, hr⟩ : ∃ r : Loop, r = { state := .ready, pending := none, fn, tmps := a.tmps, params := ps, assign, body, defers := w.heap.size } := ⟨_, rfl⟩
  obtain ⟨W1, hW1⟩ : ∃ W1, (w.alloc (.deferred (some []))).alloc (.loop r) = W1 := ⟨_, rfl⟩
  have hL1 : W1.heap[w.heap.size + 1]? = some (.loop r) := by
    rw [← hW1]; have := World.alloc_heap_new (w.alloc (.deferred (some []))) (.loop r); rwa [World.size_alloc] at this
  have hD1 : W1.heap[w.heap.size]? = some (.deferred (some [])) := by
    rw [← hW1]; exact (Below.heap_alloc _ _ _ (by simp)).trans (World.alloc_heap_new w _)
  refine ⟨w.heap.size + 1, [{ target := .collected w.heap.size, args := #[] }], W1, { target := .fn (.func gf) lb, args := #[.func (.yield (w.heap.size + 1)) #[] #[]] }, W1, gf,
    #[.func (.yield (w.heap.size + 1)) #[] #[]] ++ lb, W1, ?_, ?_, fun _ _ => trivial, ?_, (fun h => by cases h), ?_⟩
  · rw [← hW1, hr]; exact run_enterLoop_outer _ _ _ _ _
  · simp only [resolve, hg]
    simp [go_sem]
  · simp [invoke, go_sem, eg]
  refine (hit (w.heap.size + 1) (fun pre W => I pre W ∧ W.heap[w.heap.size + 1]? = some (.loop r) ∧ W.heap[w.heap.size]? = some (.deferred (some []))) ?_ (fun _ _ h => h.1) ?_ W1 ⟨by rw [← hW1]; exact hI.alloc _ (hI.alloc _ h0), hL1, hD1⟩).mono ?_
  · rintro pre W W' ⟨h1, h2, h3⟩ hk
    exact ⟨ownFrom_keeps hI h1 hk, (hk.block _ (Array.getElem?_eq_some_iff.1 h2).1 id).trans h2, (hk.block _ (Array.getElem?_eq_some_iff.1 h3).1 id).trans h3⟩
  · clear hL1 hW1 hD1
    subst hr
    rintro pre x W ⟨h1, h2, h3⟩ hen
    refine yieldAt_end h2 rfl rfl (hps x) ?_
    have ha := hassign (w.heap.size + 1) pre x W h1 hen
    refine wpIn_mono ha ?_
    intro e a₁ Wa hq
    cases e with
    | normal =>
      obtain ⟨hax, hka⟩ := hq
      have l2 := hka.same _ _ (by omega) h2 rfl
      have d2 := hka.same _ _ (Nat.le_refl _) h3 rfl
      refine ⟨l2, ?_⟩
      have lt2 := (Array.getElem?_eq_some_iff.1 l2).1
      refine wpIn_mono (hbody _ pre x a₁ _ ((hAx pre x a₁).putObj (s := ()) _ hax (by omega) l2 rfl)) ?_
      rintro e₃ a₃ W₃ ⟨rfl, h4, h5⟩
      have l3 := h5.same (w.heap.size + 1) _ (by omega) (World.putObj_heap_same lt2) rfl
      have d3 := h5.same w.heap.size _ (Nat.le_refl _) ((World.putObj_heap_other (by omega)).trans d2) rfl
      refine ⟨rfl, l3, hI.putObj _ h4 (by omega) l3 rfl, World.putObj_heap_same (Array.getElem?_eq_some_iff.1 l3).1, (World.putObj_heap_other (by omega)).trans d3⟩
    | exit id => exact hq
    | goto t => exact hq
    | ret => exact hq
    | panic c => exact hq
    | outgrown => exact hq
  · rintro e W2 ⟨⟨v, rfl⟩, xs, hS, h1, h2, h3⟩
    have hp : r.pending = none := by rw [hr]
    exact ⟨none, _, by have := run_endLoop (P := P) h2 (by rw [hr]; simp); rw [hp] at this; exact this, hdone _ xs _ (Nat.le_refl _) hS (hI.putObj _ h1 (by omega) h2 rfl) ((World.putObj_heap_other (by omega)).trans h3)⟩
end
end Go.Proofs.YtbnekeomdhljhaaDoor

namespace Go.Proofs.YtbnekeomdhljhaaDoor.F
open Go.RowKit Go.Shelf W
attribute [local go_sem] Oper.semAt_some

/-- What comes: a slot's number, what it is, and its type. -/
abbrev slA (f : Fu) (i : Nat) : Array Value := #[.int .i64 (i : Int), .agg #[.int .i64 (wh f i), .int .i64 (ty f i)]]
/-- The lists read. -/
def Ls (v : FV) (f : Fu) (W : World) : Prop := Rd W v.A (ivs f.ar) ∧ Rd W v.B (ivs f.rs) ∧ Rd W v.L (ivs f.lc)
theorem Ls.of {v : FV} {f : Fu} {W : World} (h : FnAt W v f) : Ls v f W := ⟨h.ra, h.rb, h.rl⟩
theorem Ls.keepN {v : FV} {f : Fu} {W W' : World} (h : Ls v f W) (hk : Keep NoB W W') : Ls v f W' := ⟨h.1.keepN hk, h.2.1.keepN hk, h.2.2.keepN hk⟩
/-- What a round keeps: the lists. -/
def LsK (v : FV) (f : Fu) (W W' : World) : Prop := Ls v f W → Ls v f W'
theorem LsK.trans {v : FV} {f : Fu} {X Y Z : World} (h : LsK v f X Y) (h' : LsK v f Y Z) : LsK v f X Z := fun hr => h' (h hr)
theorem rd_putObj {A : Option Addr} {xs : List Value} (W : World) (l : Nat) (o o' : Obj) (hl : W.heap[l]? = some o) (ho : o.isCells = false) (hr : Rd W A xs) : Rd (W.putObj l o') A xs := fun h0 => by
  obtain ⟨g, off, e, hc⟩ := hr h0
  refine ⟨g, off, e, fun j u hu => ?_⟩
  have h1 := hc j u hu
  have hne : g ≠ l := by
    intro e2
    unfold World.cell? at h1
    dsimp only at h1
    rw [e2, hl] at h1
    cases o with
    | cells cs t f => cases ho
    | _ => simp at h1
  exact (World.cell?_of_block (World.putObj_heap_other (show (⟨g, off + j, none⟩ : Addr).block ≠ l from hne))).trans h1
theorem LsK.putObj {v : FV} {f : Fu} (W : World) (l : Nat) (o o' : Obj) (hl : W.heap[l]? = some o) (ho : o.isCells = false) : LsK v f W (W.putObj l o') := fun h =>
  ⟨rd_putObj W l o o' hl ho h.1, rd_putObj W l o o' hl ho h.2.1, rd_putObj W l o o' hl ho h.2.2⟩
/-- Each list lies below a bound. -/
def LsB (v : FV) (f : Fu) (B : Nat) : Prop := (∀ ad, v.A = some ad → 0 < f.ar.length → ad.block < B) ∧ (∀ ad, v.B = some ad → 0 < f.rs.length → ad.block < B) ∧ (∀ ad, v.L = some ad → 0 < f.lc.length → ad.block < B)
theorem rd_lt {W : World} {A : Option Addr} {xs : List Value} (h : Rd W A xs) {ad : Addr} (e : A = some ad) (h0 : 0 < xs.length) : ad.block < W.heap.size := by
  obtain ⟨g, off, e2, hc⟩ := h h0
  rw [e] at e2
  injection e2 with e2
  subst e2
  exact World.block_lt_of_cell? W _ (hc 0 _ (List.getElem?_eq_getElem h0))
theorem Ls.bound {v : FV} {f : Fu} {W : World} (h : Ls v f W) : LsB v f W.heap.size :=
  ⟨fun ad e h0 => rd_lt h.1 e (by simpa using h0), fun ad e h0 => rd_lt h.2.1 e (by simpa using h0), fun ad e h0 => rd_lt h.2.2 e (by simpa using h0)⟩
theorem rd_below {A : Option Addr} {l : List Int} {B : Nat} {W W' : World} (hA : ∀ ad, A = some ad → 0 < l.length → ad.block < B) (h : Below B W W') (hr : Rd W A (ivs l)) : Rd W' A (ivs l) := fun h0 => by
  obtain ⟨g, off, e, hc⟩ := hr h0
  have hb : g < B := hA ⟨g, off, none⟩ e (by simpa using h0)
  exact ⟨g, off, e, fun j u hu => (World.cell?_of_block (show W'.heap[(⟨g, off + j, none⟩ : Addr).block]? = W.heap[(⟨g, off + j, none⟩ : Addr).block]? from h.block g hb)).trans (hc j u hu)⟩
theorem lsK_below {v : FV} {f : Fu} {B : Nat} {W W' : World} (hA : LsB v f B) (h : Below B W W') : LsK v f W W' := fun hr => ⟨rd_below hA.1 h hr.1, rd_below hA.2.1 h hr.2.1, rd_below hA.2.2 h hr.2.2⟩

/-- How many have come ahead of the lists of one kind. -/
def cum (f : Fu) (j : Nat) : Nat := if j ≤ 1 then 0 else if j = 2 then f.ar.length else if j = 3 then f.ar.length + f.rs.length else f.ar.length + f.rs.length + f.lc.length
def kindsV (v : FV) : Array Value := #[.slice none 0 0, .slice v.A v.na v.ca, .slice v.B v.nb v.cb, .slice v.L v.nl v.cl]
theorem index_kind (v : FV) (j : Nat) (hj : j < 4) (w : World) : (Instr.index 78 (.agg (kindsV v)) (.int .i64 (j : Int))).run Tryd.prog w = .ok ((kindsV v).getD j undef) w := by
  have hs : (sizeOf 22).run Tryd.prog w = .ok 1 w := Tryd.sizeOf22 w
  unfold Instr.index kindsV
  obtain rfl | rfl | rfl | rfl : j = 0 ∨ j = 1 ∨ j = 2 ∨ j = 3 := by omega
  all_goals simp [run_underlying Tryd.underlying78, asIntOf, hs, part]
/-- A kind's list. -/
theorem kind_at (v : FV) (f : Fu) (j : Nat) (hj : j < 4) (h1 : f.ar.length = v.na) (h2 : f.rs.length = v.nb) (h3 : f.lc.length = v.nl) (hs : SmF v) : ∃ A n c l, (kindsV v).getD j undef = .slice A n c ∧ l.length = n ∧ n ≤ 100 ∧ cum f (j + 1) = cum f j + n ∧ (∀ W, Ls v f W → Rd W A (ivs l)) ∧
    ∀ r (h : r < l.length), ty f (cum f j + r) = l[r] ∧ wh f (cum f j + r) = (j : Int) := by
  obtain rfl | rfl | rfl | rfl : j = 0 ∨ j = 1 ∨ j = 2 ∨ j = 3 := by omega
  · exact ⟨_, _, _, [], rfl, rfl, by omega, rfl, fun W _ => Rd.none_ _ _, fun r h => absurd h (by simp)⟩
  · exact ⟨_, _, _, f.ar, rfl, h1, hs.na, by simp [cum, h1], fun W h => h.1, fun r h => by simpa [cum] using ty_ar h⟩
  · exact ⟨_, _, _, f.rs, rfl, h2, hs.nb, by simp [cum, h2], fun W h => h.2.1, fun r h => by simpa [cum] using ty_rs h⟩
  · exact ⟨_, _, _, f.lc, rfl, h3, hs.nl, by simp [cum, h3], fun W h => h.2.2, fun r h => by simpa [cum] using ty_lc h⟩
theorem cum_le (f : Fu) (j : Nat) : cum f j ≤ (sl f).length := by
  rw [sl_length]
  unfold cum
  split
  · omega
  · split
    · omega
    · split <;> omega
theorem cum_all (f : Fu) : cum f 4 = (sl f).length := by rw [sl_length]; rfl

set_option maxRecDepth 100000 in
set_option maxHeartbeats 4000000 in
theorem slots1_in (m l : Nat) (hm : 1 ≤ m) (bb : Nat) (v : FV) (f : Fu) (h1 : f.ar.length = v.na) (h2 : f.rs.length = v.nb) (h3 : f.lc.length = v.nl) (hs : SmF v) (J Jx : List Nat → World → Prop)
    (hY : ∀ pre x W, J pre W → pre.length < (sl f).length → YieldAt Fence.wide (m - 1) Tryd.prog l (slA f x) W fun e W' =>
      (e = .returned (.bool true) ∧ J (pre ++ [x]) W' ∧ LsK v f W W') ∨ (e = .returned (.bool false) ∧ Jx (pre ++ [x]) W'))
    (W : World) (hx : Blk W bb 78 (kindsV v)) (hr : Ls v f W) (h0 : J [] W) :
    CallsIn Fence.wide m Tryd.prog 46 #[.func (.yield l) #[] #[], .pointer (some ⟨bb, 0, none⟩)] W fun e W' => (∃ v, e = .returned v) ∧
      ((∃ ys : List Nat, ys = List.range (sl f).length ∧ J ys W') ∨ (∃ pre : List Nat, (∃ k, k ≤ (sl f).length ∧ pre = List.range k) ∧ Jx pre W')) := by
  have hn : (sl f).length ≤ 300 := by rw [sl_length]; have := hs.na; have := hs.nb; have := hs.nl; omega
  have HI := Lib.hid (fun j hj w => index_kind v j hj w)
  have HK := Lib.hid (fun j hj => kind_at v f j hj h1 h2 h3 hs)
  have cb0 : W.cell? ⟨bb, 0, none⟩ = some (.slice none 0 0) := hx.cell 0
  have cb1 : W.cell? ⟨bb, 1, none⟩ = some (.slice v.A v.na v.ca) := hx.cell 1
  have cb2 : W.cell? ⟨bb, 2, none⟩ = some (.slice v.B v.nb v.cb) := hx.cell 2
  have cb3 : W.cell? ⟨bb, 3, none⟩ = some (.slice v.L v.nl v.cl) := hx.cell 3
  have HR := Lib.hid hr
  clear hr hx h1 h2 h3
  refine callsIn_of_wp Tryd.func46 rfl trivial ?_ rfl
  simp only [Tryd.ntmps46, List.size_toArray, List.length_cons, List.length_nil, Nat.reduceAdd, Nat.reduceSub, Array.replicate_succ, Array.replicate_zero, List.push_toArray, List.append_toArray, List.nil_append, List.cons_append]
  gi_wp2
  gi_loopw [3, 9] (fun i p wr => ∃ j : Nat, j ≤ 4 ∧ p = .int .i64 (j : Int) ∧ i = .int .i64 (cum f j : Nat) ∧ J (List.range (cum f j)) wr ∧ Hid (Ls v f wr)) (fun _ p _ => 4 - (intOf p).toNat)
  case atStart => exact ⟨0, by omega, rfl, rfl, h0, HR.out⟩
  case round =>
    clear h0 HR cb0 cb1 cb2 cb3
    obtain ⟨j, hj, rfl, rfl, hJ, hL⟩ := hrel
    by_cases hlt : j < 4
    · obtain ⟨A, n, c, ls, hA, hln, hn1, hcu, hrd, hat⟩ := HK.out j hlt
      have hix := HI.out j hlt
      rw [hA] at hix
      unfold kindsV at hix
      have HCU := Lib.hid hcu
      have HRD := Lib.hid hrd
      have HAT := Lib.hid hat
      have HLN := Lib.hid hln
      have hcl := cum_le f (j + 1)
      rw [hcu] at hcl
      clear hA hat hrd hcu hln
      have hq4 : decide ((j : Int) < 4) = true := decide_eq_true (by omega)
      gi_wp2
      gi_loopw [3, 15] (fun i p wr => ∃ r : Nat, r ≤ n ∧ p = .int .i64 (r : Int) ∧ i = .int .i64 ((cum f j + r : Nat) : Int) ∧ J (List.range (cum f j + r)) wr ∧ Hid (Ls v f wr)) (fun _ p _ => n - (intOf p).toNat)
      case atStart => exact ⟨0, by omega, rfl, by simp, hJ, hL⟩
      case round =>
        clear hJ hL hix
        obtain ⟨r, hrn, rfl, rfl, hJ, hL⟩ := hrel
        by_cases hrl : r < n
        · have hrl2 : r < ls.length := by rw [HLN.out]; exact hrl
          obtain ⟨g, off, rfl, hc⟩ := rdI_at (HRD.out _ hL.out) (by omega)
          have cr := hc r hrl2
          have HY := Lib.hid (hY (List.range (cum f j + r)) (cum f j + r) _ hJ (by simp; omega))
          obtain ⟨e1, e2⟩ := HAT.out r hrl2
          dsimp only [slA] at HY
          rw [e1, e2] at HY
          have HE : Hid (List.range (cum f j + r) ++ [cum f j + r] = List.range (cum f j + (r + 1))) := by show _ = _; rw [← Nat.add_assoc, List.range_succ]
          clear hc e1 e2 hJ
          generalize ls[r] = t at cr HY
          obtain ⟨fn, tmps, assign, body, hy, hRun⟩ := HY.out
          clear HY
          generalize cum f j = q at *
          push_cast at hy
          gi_wp2
          refine hRun.mono ?_
          rintro e W3 (⟨rfl, hJ3, hk3⟩ | ⟨rfl, hJx3⟩)
          · have hL3 := hk3 hL.out
            rw [HE.out] at hJ3
            gi_wp2
            go_roundw
            case rel => exact ⟨r + 1, by omega, by go_num, by go_num, hJ3, hL3⟩
            case measure => simp [intOf]; omega
          · rw [HE.out] at hJx3
            gi_wp2
            refine bodyPost_ret (results_none rfl _ _ _) rfl ?_
            exact ⟨⟨_, rfl⟩, .inr ⟨_, ⟨_, by omega, rfl⟩, hJx3⟩⟩
        · obtain rfl : r = n := by omega
          gi_wp2
          go_roundw
          case rel => exact ⟨j + 1, by omega, by go_num, by rw [HCU.out], by rw [HCU.out]; exact hJ, hL⟩
          case measure => simp [intOf]; omega
    · obtain rfl : j = 4 := by omega
      gi_wp2
      go_end0
      exact ⟨⟨_, rfl⟩, .inl ⟨_, by rw [cum_all], hJ⟩⟩

theorem slots_stops (m : Nat) (hm : 1 ≤ m) (bb : Nat) (v : FV) (f : Fu) (h1 : f.ar.length = v.na) (h2 : f.rs.length = v.nb) (h3 : f.lc.length = v.nl) (hs : SmF v) (w : World) (hx : Blk w bb 78 (kindsV v)) (hr : Ls v f w) :
    SeqStopsK Fence.wide m Tryd.prog 46 #[.pointer (some ⟨bb, 0, none⟩)] (slA f) (LsK v f) (fun ys : List Nat => ys = List.range (sl f).length) (fun pre : List Nat => ∃ k, k ≤ (sl f).length ∧ pre = List.range k) (sl f).length w := fun l J Jx W hb _ _ hY h0 =>
  slots1_in m l hm bb v f h1 h2 h3 hs J Jx hY W (Blk.keep hx (Keep.of_below (O := NoB) hb) id) (hr.keepN (Keep.of_below (O := NoB) hb)) h0

set_option maxRecDepth 100000 in
theorem slots_any (m : Nat) (v : FV) (w : World) :
    CallsIn Fence.wide m Tryd.prog 33 #[v.val] w fun e w' => e = .returned (.func (.func 46) #[] #[.pointer (some ⟨w.heap.size + 1, 0, none⟩)]) ∧
      w' = (w.alloc (.cells v.cells 27)).alloc (.cells (kindsV v) 78) := by
  obtain ⟨S, A, na, ca, B, nb, cb, L, nl, cl, D, nd, cd⟩ := v
  dsimp only [FV.val, FV.cells, kindsV]
  refine callsIn_of_wp Tryd.func33 rfl trivial ?_ rfl
  simp only [Tryd.ntmps33, List.size_toArray, List.length_cons, List.length_nil, Nat.reduceAdd, Nat.reduceSub, Array.replicate_succ, Array.replicate_zero, List.push_toArray, List.append_toArray, List.nil_append, List.cons_append]
  gi_wp2
  go_ret
  exact ⟨rfl, rfl⟩

end Go.Proofs.YtbnekeomdhljhaaDoor.F

namespace Go.Proofs.YtbnekeomdhljhaaDoor.F
open Go.RowKit Go.Shelf W
attribute [local go_sem] Oper.semAt_some

theorem blk_own {β : Type} (B : Nat) (t : TypeId) (cs : Array Value) : Go.Own (fun (_ : β) W => Blk W B t cs) := by
  rintro s X Y row h hg hrow
  refine Blk.grown h hg fun e => ?_
  obtain ⟨o, ho, hc⟩ := hrow B e.symm
  unfold Blk at h
  rw [h] at ho; cases ho; cases hc
theorem keep_put {O : Nat → Prop} {w W : World} {D : Nat} {o : Obj} (h : Keep O w W) (hD : w.heap.size ≤ D) : Keep O w (W.putObj D o) := h.grown (grownBy_putObj' W D o) (fun g e hl => by cases e; omega)

/-- What the walk of types keeps. -/
def typI (f : Fu) (w : World) (bl : Nat) (pre : List Nat) (W : World) : Prop :=
  (∃ u, Boxed W bl 22 u ∧ W.ownsRow w.heap.size 3 1 u pre.length (ivs (pre.map (ty f))) ∧ True) ∧ Below w.heap.size w W
theorem typI_own (f : Fu) (w : World) (bl B : Nat) (hB : w.heap.size ≤ B) : OwnFrom B (typI f w bl) :=
  OwnFrom.and (Own.from (holdsRow_own w.heap.size bl 22 3 1 (fun pre : List Nat => pre.length) (fun pre : List Nat => ivs (pre.map (ty f))) (fun _ _ => True)) _) (ownFrom_below (Nat.le_refl _) hB)
theorem typ_step {f : Fu} {v : FV} {w W w1 : World} {bl x : Nat} {pre : List Nat} {u u' : Value} {tmp : Obj} (hA : LsB v f w.heap.size) (hv : Boxed W bl 22 u) (hrow : W.ownsRow w.heap.size 3 1 u pre.length (ivs (pre.map (ty f)))) (hB : Below w.heap.size w W)
    (hbb : w.heap.size ≤ bl) (hown' : w1.ownsRow w.heap.size 3 1 u' (pre.length + 1) (ivs (pre.map (ty f)) ++ [.int .i64 (ty f x)])) (hgrow : (W.alloc tmp).grownBy w1 u.ownBlock) :
    KeepsOthers W (w1.setCell ⟨bl, 0, none⟩ u') ∧ LsK v f W (w1.setCell ⟨bl, 0, none⟩ u') ∧ typI f w bl (pre ++ [x]) (w1.setCell ⟨bl, 0, none⟩ u') := by
  obtain ⟨hv1, hv2, hr2, hk2, hb2⟩ := hv.appended (by decide) hrow hB.size hbb hown' hgrow
  refine ⟨hk2, lsK_below hA hb2, ⟨u', hv2, ?_, trivial⟩, hB.trans hb2⟩
  simpa using hr2
/-- The frame when a slot has come. -/
def typA (v : FV) (f : Fu) (b : Nat) (x Bx : Nat) : Act := { tmps := #[v.val, .pointer (some ⟨b, 0, none⟩), .slice none 0 0, .pointer (some ⟨b + 1, 0, none⟩), undef, .pointer (some ⟨Bx, 0, none⟩), v.val, .func (.func 46) #[] #[.pointer (some ⟨b + 1 + 1 + 1, 0, none⟩)],
  .int .i64 (x : Int), .agg #[.int .i64 (wh f x), .int .i64 (ty f x)], undef, undef, undef, undef, undef, undef], defers := [] }

set_option maxRecDepth 100000 in
set_option maxHeartbeats 4000000 in
theorem types_any (v : FV) (f : Fu) (w : World) (h : FnAt w v f) (hs : SmF v) :
    Calls Tryd.prog 19 #[v.val] w fun e w' => ∃ u, e = .returned u ∧ Own w' 3 1 (Fresh w) u (sl f).length (ivs (sl f)) ∧ Keep NoB w w' := by
  obtain ⟨i0, hi, hz0, hz1, hz2⟩ := info_parts int_info
  have hl := Ls.of h
  have hA := Lib.hid hl.bound
  have hst := Lib.hid (fun m hm bb w hx hr => slots_stops m hm bb v f h.la h.lb h.ll hs w hx hr)
  have hn : (sl f).length ≤ 300 := by rw [sl_length, h.la, h.lb, h.ll]; have := hs.na; have := hs.nb; have := hs.nl; omega
  have hk1 := ((Keep.refl NoB w).alloc (.cells v.cells 27)).alloc (.cells #[.slice none 0 0] 22)
  have hk2 := (hk1.alloc (.cells v.cells 27)).alloc (.cells (kindsV v) 78)
  have HL := Lib.hid (hl.keepN hk2)
  have HSl := Lib.hid (fun m w => slots_any m v w)
  have HI0 : Hid (typI f w (w.heap.size + 1) [] ((((w.alloc (.cells v.cells 27)).alloc (.cells #[.slice none 0 0] 22)).alloc (.cells v.cells 27)).alloc (.cells (kindsV v) 78))) := by
    have bL := Boxed.new (w.alloc (.cells v.cells 27)) 22 (.slice none 0 0)
    rw [World.size_alloc] at bL
    exact ⟨⟨_, (bL.alloc _).alloc _, World.ownsRow_nil _ _ _ _, trivial⟩, hk2.toBelow⟩
  have HP := Lib.hid (Blk.new (((w.alloc (.cells v.cells 27)).alloc (.cells #[.slice none 0 0] 22)).alloc (.cells v.cells 27)) 78 (kindsV v))
  have HA := Lib.hid (show typA v f w.heap.size = typA v f w.heap.size from rfl)
  clear h hs hl hk1 hk2
  obtain ⟨S, A, na, ca, B, nb, cb, L, nl, cl, D, nd, cd⟩ := v
  unfold FV.val FV.cells at *
  refine (callsIn_wide (n := 4)).1 ?_
  refine callsIn_of_wp_marks Tryd.func19 rfl trivial ?_ rfl
  simp only [Tryd.ntmps19, List.size_toArray, List.length_cons, List.length_nil, Nat.reduceAdd, Nat.reduceSub, Array.replicate_succ, Array.replicate_zero, List.push_toArray, List.append_toArray, List.nil_append, List.cons_append]
  gi_wp2_with (refine ⟨trivial, ?_⟩; gi_at_call 33; refine (HSl.out _ _).mono ?_; rintro e w' ⟨rfl, rfl⟩)
  refine wpIn_rangeFunc_ownH rfl (by omega) (gf := 46) (lb := #[.pointer (some ⟨w.heap.size + 1 + 1 + 1, 0, none⟩)]) rfl trivial (enters_of Tryd.func46 (by kernel_rfl) rfl)
    (hst.out _ (by omega) (w.heap.size + 1 + 1 + 1) _ (by simpa using HP.out) HL.out) (fun h h' => LsK.trans h h') (fun W l o o' _ hl ho _ => LsK.putObj W l o o' hl ho) (Below.refl _ _) (fun _ => rfl)
    (typI f w (w.heap.size + 1)) (fun _ _ _ => False) (typI_own f w _ _ (by simp; omega)) (fun _ _ _ _ _ hf _ _ => hf) HI0.out
    (fun x a' W => ∃ Bx, Blk W Bx 67 #[.int .i64 (wh f x), .int .i64 (ty f x)] ∧ a' = typA ⟨S, A, na, ca, B, nb, cb, L, nl, cl, D, nd, cd⟩ f w.heap.size x Bx) ?hax ?assign ?body ?done ?stop
  case hax =>
    rintro x a' s X Y row ⟨Bx, h1, h2⟩ hg hrow
    exact ⟨Bx, blk_own (β := Unit) _ _ _ () _ _ _ h1 hg (fun r e => (hrow r e).2), h2⟩
  case assign =>
    intro l pre x W K hi hK
    have HI := Lib.hid (fun W' hk => typI_own f w (w.heap.size + 1) w.heap.size (Nat.le_refl _) pre W W' none hi (Keep.grows hk) (fun r e => by cases e))
    have HB := Lib.hid (Blk.new W 67 #[.int .i64 (wh f x), .int .i64 (ty f x)])
    gi_wp2
    exact hK _ _ (keepsFrom_keep ((Keep.refl NoB W).alloc _)) (fun h => h.keepN ((Keep.refl NoB W).alloc _)) (HI.out _ ((Keep.refl NoB W).alloc _)) ⟨_, HB.out, rfl⟩
  case body =>
    rintro l pre x a' W hl _ ⟨⟨u, hv, hrow, _⟩, hB⟩ ⟨Bx, hb, rfl⟩ hlt
    have HST := Lib.hid (fun u' w1' tmp hown' hgrow => typ_step (x := x) (u' := u') (w1 := w1') (tmp := tmp) hA.out hv hrow hB (Nat.le_succ _) hown' hgrow)
    have cv := hv.cell
    have cx : W.cell? ⟨Bx, 1, none⟩ = some (.int .i64 (ty f x)) := hb.cell 1
    obtain ⟨A0, c0, rfl⟩ := own_form hrow
    have hv2 := hv
    obtain ⟨xs, hxs⟩ : ∃ xs, ivs (pre.map (ty f)) = xs := ⟨_, rfl⟩
    have hxl : xs.length = pre.length := by rw [← hxs]; simp
    rw [hxs] at hrow HST
    have hBs := hB.size
    have hWs := hv.lt
    dsimp only [typA]
    clear hxs hv hb hB
    generalize ty f x = t at cx HST
    generalize wh f x = u at *
    gi_wp2_with (gi_at_builtin; refine wpListIn_append_own _ rfl _ _ 22 rfl w.heap.size 3 i0 (.int .i64 0) 1 8 Tryd.underlying22 hi hz0 hz1 hz2 rfl (by decide) _ _ _ rfl (hrow.alloc _) ⟨W.heap.size, 0, none⟩ 1 1 [.int .i64 t] rfl rfl (cell_one_new _ _ _) (by simp [Value.oneCell']) (by unfold maxLen; omega) (by omega) (by simp; omega) ?_; intro u' w2 hown' hgrow _; obtain ⟨g', cap', rfl⟩ := ownsRow_succ hown'; have hst := HST.out _ _ _ hown' hgrow; have hv3 := (hv2.alloc _).kept hgrow (hv2.not_row (by decide) hrow); have hc1 := hv3.cell; have hf1 := hv3.frozen)
    exact ⟨hst.1.from _, hst.2⟩
  case done =>
    rintro D ys W hD rfl ⟨⟨u, hv, hrow, _⟩, hB⟩ hDf
    have cv := hv.cell
    gi_wp2
    refine ⟨by simp, .inl ⟨_, _, rfl, run_takeDeferred hDf, ?_⟩⟩
    refine ⟨_, results_tmp rfl _ _ _, ?_⟩
    rw [ty_range, List.length_range] at hrow
    exact ⟨u, rfl, Own.of_row (ownsRow_putObj hrow _ hDf rfl) (fun j hj => hj), keep_put (Keep.of_below hB) (by simp at hD; omega)⟩
  case stop =>
    rintro D c pre W _ _ hf _
    exact hf.elim

set_option maxRecDepth 100000 in
set_option maxHeartbeats 2000000 in
theorem slotsF_any (v : FV) (f : Fu) (w : World) (h : FnAt w v f) (hs : SmF v) :
    Calls Tryd.prog 12 #[v.val] w fun e w' => ∃ u, e = .returned u ∧ Own w' 3 1 (Fresh w) u (slF f).length (ivs (slF f)) ∧ Keep NoB w w' := by
  have bx := Blk.new w 27 v.cells
  have k0 := (Keep.refl NoB w).alloc (.cells v.cells 27)
  have HF := Lib.hid (h.keepN k0)
  cases ho : okF f
  · have HC := Lib.hid (check_any v f _ HF.out hs 70 (chkF_no ho))
    rw [slF_no ho]
    have HX := Lib.hid bx
    obtain ⟨S, A, na, ca, B, nb, cb, L, nl, cl, D, nd, cd⟩ := v
    unfold FV.val FV.cells at *
    clear bx h hs ho
    go_enter Tryd.func12, Tryd.ntmps12
    go_wp2_with fail
    refine HC.out.mono ?_
    rintro e w1 ⟨rfl, k1⟩
    go_wp2
    go_ret
    exact ⟨_, rfl, Own.nil _ _ _ _, keepN k0 k1⟩
  · have HC := Lib.hid (check_any v f _ HF.out hs 0 (chkF_ok ho))
    have HT := Lib.hid (fun w1 hk => types_any v f w1 (HF.out.keepN hk) hs)
    rw [slF_ok ho]
    have HX := Lib.hid bx
    obtain ⟨S, A, na, ca, B, nb, cb, L, nl, cl, D, nd, cd⟩ := v
    unfold FV.val FV.cells at *
    clear bx h hs ho
    go_enter Tryd.func12, Tryd.ntmps12
    go_wp2_with fail
    refine HC.out.mono ?_
    rintro e w1 ⟨rfl, k1⟩
    have hx1 := HX.out.keep k1 id
    obtain ⟨c0, c1, c2, c3, c4⟩ := blk5 (v := ⟨S, A, na, ca, B, nb, cb, L, nl, cl, D, nd, cd⟩) hx1
    clear hx1
    go_wp2_with fail
    refine (HT.out _ k1).mono ?_
    rintro e w2 ⟨u, rfl, hO, k2⟩
    have HO := Lib.hid (hO.mono (O' := Fresh w) (fun k hf _ => Nat.le_trans (keepN k0 k1).size hf))
    clear hO
    go_wp2
    go_ret
    exact ⟨_, rfl, HO.out, keepN (keepN k0 k1) k2⟩

end Go.Proofs.YtbnekeomdhljhaaDoor.F

namespace Go.Proofs.YtbnekeomdhljhaaDoor.F
open Go.RowKit Go.Shelf W
attribute [local go_sem] Oper.semAt_some

/-- The three results lie in cells. -/
def RsC (W : World) (b : Nat) (x y z : Int) : Prop := Blk W b 3 #[.int .i64 x] ∧ Blk W (b + 1) 3 #[.int .i64 y] ∧ Blk W (b + 1 + 1) 31 #[.int .i64 z]
theorem RsC.keep {W W' : World} {b : Nat} {x y z : Int} (h : RsC W b x y z) (hk : Keep NoB W W') : RsC W' b x y z := ⟨h.1.keep hk id, h.2.1.keep hk id, h.2.2.keep hk id⟩
theorem RsC.grown {W W' : World} {row : Option Nat} {b : Nat} {x y z : Int} (h : RsC W b x y z) (hb : W.grownBy W' row) (h0 : some b ≠ row) (h1 : some (b + 1) ≠ row) (h2 : some (b + 1 + 1) ≠ row) : RsC W' b x y z := ⟨h.1.grown hb h0, h.2.1.grown hb h1, h.2.2.grown hb h2⟩
theorem RsC.cells {W : World} {b : Nat} {x y z : Int} (h : RsC W b x y z) : W.cell? ⟨b, 0, none⟩ = some (.int .i64 x) ∧ W.cell? ⟨b + 1, 0, none⟩ = some (.int .i64 y) ∧ W.cell? ⟨b + 1 + 1, 0, none⟩ = some (.int .i64 z) := ⟨h.1.cell 0, h.2.1.cell 0, h.2.2.cell 0⟩
theorem ret3 {tmps : Array Value} {W : World} {b : Nat} {x y z : Int} (h : RsC W b x y z) (h4 : tmps.getD 4 undef = .pointer (some ⟨b, 0, none⟩)) (h5 : tmps.getD 5 undef = .pointer (some ⟨b + 1, 0, none⟩)) (h6 : tmps.getD 6 undef = .pointer (some ⟨b + 1 + 1, 0, none⟩)) :
    (results Tryd.f15 tmps).run Tryd.prog W = .ok (.tuple #[.int .i64 x, .int .i64 y, .int .i64 z]) W := by
  obtain ⟨c0, c1, c2⟩ := h.cells
  simp only [Array.getD_eq_getD_getElem?] at h4 h5 h6
  simp [results, Tryd.results15, go_sem, h4, h5, h6, c0, c1, c2]

theorem RsC.put {W : World} {b : Nat} {x y z : Int} (h : RsC W b x y z) (x' y' z' : Int) :
    RsC (((W.setCell ⟨b, 0, none⟩ (.int .i64 x')).setCell ⟨b + 1, 0, none⟩ (.int .i64 y')).setCell ⟨b + 1 + 1, 0, none⟩ (.int .i64 z')) b x' y' z' :=
  ⟨((h.1.put 0 _).far (p := ⟨b + 1, 0, none⟩) (show b ≠ b + 1 by omega) _).far (p := ⟨b + 1 + 1, 0, none⟩) (show b ≠ b + 1 + 1 by omega) _,
    ((h.2.1.far (p := ⟨b, 0, none⟩) (show b + 1 ≠ b by omega) _).put 0 _).far (p := ⟨b + 1 + 1, 0, none⟩) (show b + 1 ≠ b + 1 + 1 by omega) _,
    ((h.2.2.far (p := ⟨b, 0, none⟩) (show b + 1 + 1 ≠ b by omega) _).far (p := ⟨b + 1, 0, none⟩) (show b + 1 + 1 ≠ b + 1 by omega) _).put 0 _⟩
theorem keep_put3 {w W : World} {b : Nat} (h : Keep NoB w W) (hb : w.heap.size ≤ b) (x y z : Value) : Keep NoB w (((W.setCell ⟨b, 0, none⟩ x).setCell ⟨b + 1, 0, none⟩ y).setCell ⟨b + 1 + 1, 0, none⟩ z) :=
  ((h.setCell (fun h => absurd h (by simp; omega)) x).setCell (fun h => absurd h (by simp; omega)) y).setCell (fun h => absurd h (by simp; omega)) z
/-- What the walk keeps; and what it leaves behind. -/
def sltI (w : World) (b : Nat) (i : Int) (pre : List Nat) (W : World) : Prop := (RsC W b 0 0 0 ∧ Blk W (w.heap.size + 1) 3 #[.int .i64 i]) ∧ Keep NoB w W ∧ ∀ y ∈ pre, (y : Int) ≠ i
def sltX (f : Fu) (w : World) (b : Nat) (i : Int) (c : Code) (pre : List Nat) (W : World) : Prop := c = .ret ∧ ∃ (x : Nat) (q : List Nat), (x : Int) = i ∧ pre = q ++ [x] ∧ RsC W b (wh f x) (ty f x) 0 ∧ Keep NoB w W
theorem blk_ofrom {β : Type} (B g : Nat) (t : TypeId) (cs : Array Value) : OwnFrom B (fun (_ : β) W => Blk W g t cs) := Own.from (blk_own (β := β) g t cs) _
theorem rsc_own {β : Type} (B b : Nat) (x y z : Int) : OwnFrom B (fun (_ : β) W => RsC W b x y z) := OwnFrom.and (blk_ofrom _ _ _ _) (OwnFrom.and (blk_ofrom _ _ _ _) (blk_ofrom _ _ _ _))
theorem sltI_own (w : World) (b B : Nat) (i : Int) (hB : w.heap.size ≤ B) : OwnFrom B (sltI w b i) := by
  rintro s X Y row ⟨⟨h1, h2⟩, h3, h4⟩ hg hr
  exact ⟨⟨rsc_own (β := Unit) B b 0 0 0 () X Y row h1 hg hr, blk_ofrom (β := Unit) B _ _ _ () X Y row h2 hg hr⟩, h3.grown hg (fun g e hl => by have := (hr g e).1; omega), h4⟩
theorem sltX_own (f : Fu) (w : World) (b B : Nat) (i : Int) (c : Code) (hB : w.heap.size ≤ B) : OwnFrom B (sltX f w b i c) := by
  rintro s X Y row ⟨h1, x, q, h2, h3, h4, h5⟩ hg hr
  exact ⟨h1, x, q, h2, h3, rsc_own (β := Unit) B b _ _ _ () X Y row h4 hg hr, h5.grown hg (fun g e hl => by have := (hr g e).1; omega)⟩
/-- The frame when a slot has come. -/
def sltA (v : FV) (b bw : Nat) (i a t : Int) (x Bx : Nat) : Act := { tmps := #[v.val, .int .i64 i, .pointer (some ⟨b, 0, none⟩), .pointer (some ⟨b + 1, 0, none⟩), .pointer (some ⟨b + 1 + 1, 0, none⟩), .pointer (some ⟨b + 1 + 1 + 1, 0, none⟩), .pointer (some ⟨b + 1 + 1 + 1 + 1, 0, none⟩), .int .i64 (x : Int), .pointer (some ⟨Bx, 0, none⟩), v.val, .int .i64 0, .bool false, v.val,
  .func (.func 46) #[] #[.pointer (some ⟨bw + 1, 0, none⟩)], .int .i64 (x : Int), .agg #[.int .i64 a, .int .i64 t], undef, undef, undef, undef, undef, undef, undef], defers := [] }
theorem slot_miss {f : Fu} {i : Int} (h : ∀ y ∈ List.range (sl f).length, (y : Int) ≠ i) : ¬ (okF f = true ∧ 0 ≤ i ∧ i < (sl f).length) := by
  rintro ⟨_, h0, h1⟩
  exact h i.toNat (List.mem_range.2 (by omega)) (by omega)
theorem slot_hit {f : Fu} {i : Int} {k x : Nat} {pre q : List Nat} (ho : okF f = true) (hk : k ≤ (sl f).length) (hp : pre = List.range k) (hq : pre = q ++ [x]) (hx : (x : Int) = i) : slW f i = wh f x ∧ slT f i = ty f x ∧ slE f i = 0 := by
  have hm : x ∈ List.range k := by rw [← hp, hq]; simp
  have := List.mem_range.1 hm
  subst hx
  exact slot_yes ho (by omega)

set_option maxRecDepth 100000 in
set_option maxHeartbeats 8000000 in
theorem slot_any (v : FV) (f : Fu) (i : Int) (w : World) (h : FnAt w v f) (hs : SmF v) (A0 T0 E0 : Int) (hR : Hid (slW f i = A0 ∧ slT f i = T0 ∧ slE f i = E0)) :
    Calls Tryd.prog 15 #[v.val, .int .i64 i] w fun e w' => e = .returned (.tuple #[.int .i64 A0, .int .i64 T0, .int .i64 E0]) ∧ Keep NoB w w' := by
  have bx := Blk.new w 27 v.cells
  have k0 := ((((Keep.refl NoB w).alloc (.cells v.cells 27)).alloc (.cells #[.int .i64 i] 3)).alloc (.cells #[.int .i64 0] 3)).alloc (.cells #[.int .i64 0] 3) |>.alloc (.cells #[.int .i64 0] 31)
  have HF := Lib.hid (h.keepN k0)
  have HX := Lib.hid ((((bx.alloc (.cells #[.int .i64 i] 3)).alloc (.cells #[.int .i64 0] 3)).alloc (.cells #[.int .i64 0] 3)).alloc (.cells #[.int .i64 0] 31))
  have HRC : Hid (RsC (((((w.alloc (.cells v.cells 27)).alloc (.cells #[.int .i64 i] 3)).alloc (.cells #[.int .i64 0] 3)).alloc (.cells #[.int .i64 0] 3)).alloc (.cells #[.int .i64 0] 31)) (w.heap.size + 1 + 1) 0 0 0 ∧
      Blk (((((w.alloc (.cells v.cells 27)).alloc (.cells #[.int .i64 i] 3)).alloc (.cells #[.int .i64 0] 3)).alloc (.cells #[.int .i64 0] 3)).alloc (.cells #[.int .i64 0] 31)) (w.heap.size + 1) 3 #[.int .i64 i]) := by
    have b1 := ((Blk.new (w.alloc (.cells v.cells 27)) 3 #[.int .i64 i]).alloc (.cells #[.int .i64 0] 3)).alloc (.cells #[.int .i64 0] 3) |>.alloc (.cells #[.int .i64 0] 31)
    have b2 := ((Blk.new ((w.alloc (.cells v.cells 27)).alloc (.cells #[.int .i64 i] 3)) 3 #[.int .i64 0]).alloc (.cells #[.int .i64 0] 3)).alloc (.cells #[.int .i64 0] 31)
    have b3 := (Blk.new (((w.alloc (.cells v.cells 27)).alloc (.cells #[.int .i64 i] 3)).alloc (.cells #[.int .i64 0] 3)) 3 #[.int .i64 0]).alloc (.cells #[.int .i64 0] 31)
    have b4 := Blk.new ((((w.alloc (.cells v.cells 27)).alloc (.cells #[.int .i64 i] 3)).alloc (.cells #[.int .i64 0] 3)).alloc (.cells #[.int .i64 0] 3)) 31 #[.int .i64 0]
    simp only [World.size_alloc] at b1 b2 b3 b4
    exact ⟨⟨b2, b3, b4⟩, b1⟩
  have K0 := Lib.hid k0
  cases ho : okF f
  · have HC := Lib.hid (check_any v f _ HF.out hs 70 (chkF_no ho))
    obtain ⟨e1, e2, e3⟩ := slot_no (f := f) (i := i) (by rw [ho]; simp)
    obtain ⟨rfl, rfl, rfl⟩ : 0 = A0 ∧ 0 = T0 ∧ 72 = E0 := ⟨e1.symm.trans hR.out.1, e2.symm.trans hR.out.2.1, e3.symm.trans hR.out.2.2⟩
    obtain ⟨S, A, na, ca, B, nb, cb, L, nl, cl, D, nd, cd⟩ := v
    unfold FV.val FV.cells at *
    obtain ⟨c0, c1, c2, c3, c4⟩ := blk5 (v := ⟨S, A, na, ca, B, nb, cb, L, nl, cl, D, nd, cd⟩) HX.out
    dsimp only at c0 c1 c2 c3 c4
    clear bx h hs ho hR e1 e2 e3 k0 HF
    refine (callsIn_wide (n := 4)).1 ?_
    refine callsIn_of_wp_marks Tryd.func15 rfl trivial ?_ rfl
    simp only [Tryd.ntmps15, List.size_toArray, List.length_cons, List.length_nil, Nat.reduceAdd, Nat.reduceSub, Array.replicate_succ, Array.replicate_zero, List.push_toArray, List.append_toArray, List.nil_append, List.cons_append]
    gi_wp2_with fail
    gi_wp2_with (refine ⟨trivial, ?_⟩; gi_at_call 8; refine (callsIn_wide.2 HC.out).mono ?_; rintro e w1 ⟨rfl, k1⟩; have hr1 := HRC.out.1.keep k1; have fa := hr1.1.frozen 0; have fb := hr1.2.1.frozen 0; have fc := hr1.2.2.frozen 0; obtain ⟨r0, r1, r2⟩ := hr1.cells)
    exact ⟨_, ret3 (hr1.put 0 0 72) rfl rfl rfl, rfl, keep_put3 (keepN K0.out k1) (by omega) _ _ _⟩
  · have HC := Lib.hid (check_any v f _ HF.out hs 0 (chkF_ok ho))
    have hst := Lib.hid (fun m hm bb w hx hr => slots_stops m hm bb v f h.la h.lb h.ll hs w hx hr)
    have HSl := Lib.hid (fun m w => slots_any m v w)
    have HMI := Lib.hid (fun hm => slot_no (slot_miss (f := f) (i := i) hm))
    have HHI := Lib.hid (fun k x pre q hk hp hq hx => slot_hit (f := f) (i := i) (k := k) (x := x) (pre := pre) (q := q) ho hk hp hq hx)
    have HV : Hid (∀ w1, Keep NoB (((((w.alloc (.cells v.cells 27)).alloc (.cells #[.int .i64 i] 3)).alloc (.cells #[.int .i64 0] 3)).alloc (.cells #[.int .i64 0] 3)).alloc (.cells #[.int .i64 0] 31)) w1 →
        sltI w (w.heap.size + 1 + 1) i [] ((w1.alloc (.cells v.cells 27)).alloc (.cells (kindsV v) 78)) ∧
        Ls v f ((w1.alloc (.cells v.cells 27)).alloc (.cells (kindsV v) 78)) ∧
        Blk ((w1.alloc (.cells v.cells 27)).alloc (.cells (kindsV v) 78)) (w1.heap.size + 1) 78 (kindsV v)) := fun w1 hk => by
      have hl := Ls.of (HF.out.keepN hk)
      have hk3 := ((Keep.refl NoB w1).alloc (.cells v.cells 27)).alloc (.cells (kindsV v) 78)
      have bk := Blk.new (w1.alloc (.cells v.cells 27)) 78 (kindsV v)
      have hk4 := keepN hk hk3
      refine ⟨⟨⟨HRC.out.1.keep hk4, HRC.out.2.keep hk4 id⟩, keepN K0.out hk4, fun y hy => absurd hy (by simp)⟩, hl.keepN hk3, ?_⟩
      simpa using bk
    obtain ⟨S, A, na, ca, B, nb, cb, L, nl, cl, D, nd, cd⟩ := v
    unfold FV.val FV.cells at *
    obtain ⟨c0, c1, c2, c3, c4⟩ := blk5 (v := ⟨S, A, na, ca, B, nb, cb, L, nl, cl, D, nd, cd⟩) HX.out
    dsimp only at c0 c1 c2 c3 c4
    clear bx h hs ho k0 HF
    refine (callsIn_wide (n := 4)).1 ?_
    refine callsIn_of_wp_marks Tryd.func15 rfl trivial ?_ rfl
    simp only [Tryd.ntmps15, List.size_toArray, List.length_cons, List.length_nil, Nat.reduceAdd, Nat.reduceSub, Array.replicate_succ, Array.replicate_zero, List.push_toArray, List.append_toArray, List.nil_append, List.cons_append]
    gi_wp2_with fail
    gi_wp2_with (refine ⟨trivial, ?_⟩; gi_at_call 8; refine (callsIn_wide.2 HC.out).mono ?_; rintro e w1 ⟨rfl, k1⟩; have hx1 := HX.out.keep k1 id; obtain ⟨c0, c1, c2, c3, c4⟩ := blk5 (v := ⟨S, A, na, ca, B, nb, cb, L, nl, cl, D, nd, cd⟩) hx1; dsimp only at c0 c1 c2 c3 c4; obtain ⟨hI0, hL0, hP0⟩ := HV.out _ k1; have HI0 := Lib.hid hI0; have HL0 := Lib.hid hL0; have HP0 := Lib.hid hP0; have hKw := keepN K0.out k1; clear hx1 hI0 hL0 hP0 HV HC)
    gi_wp2_with (refine ⟨trivial, ?_⟩; gi_at_call 33; refine (HSl.out _ _).mono ?_; rintro e w' ⟨rfl, rfl⟩)
    have hw1 := K0.out.size
    have hw2 := hKw.size
    simp only [World.size_alloc] at hw1
    have hw3 := k1.size
    simp only [World.size_alloc] at hw3
    refine wpIn_rangeFunc_ownH rfl (by omega) (gf := 46) (lb := #[.pointer (some ⟨w1.heap.size + 1, 0, none⟩)]) rfl trivial (enters_of Tryd.func46 (by kernel_rfl) rfl)
      (hst.out _ (by omega) (w1.heap.size + 1) _ HP0.out HL0.out) (fun h h' => LsK.trans h h') (fun W l o o' _ hl ho _ => LsK.putObj W l o o' hl ho) (Below.refl _ _) (fun _ => rfl)
      (sltI w (w.heap.size + 1 + 1) i) (sltX f w (w.heap.size + 1 + 1) i) (sltI_own w _ _ i (by simp; omega)) (fun c => sltX_own f w _ _ i c (by simp; omega)) HI0.out
      (fun x a' W => ∃ Bx, Blk W Bx 67 #[.int .i64 (wh f x), .int .i64 (ty f x)] ∧ a' = sltA ⟨S, A, na, ca, B, nb, cb, L, nl, cl, D, nd, cd⟩ w.heap.size w1.heap.size i (wh f x) (ty f x) x Bx) ?hax ?assign ?body ?done ?stop
    case hax =>
      rintro x a' s X Y row ⟨Bx, h1, h2⟩ hg hrow
      exact ⟨Bx, blk_own (β := Unit) _ _ _ () _ _ _ h1 hg (fun r e => (hrow r e).2), h2⟩
    case assign =>
      intro l pre x W K hi hK
      have HI := Lib.hid (fun W' hk => sltI_own w (w.heap.size + 1 + 1) w.heap.size i (Nat.le_refl _) pre W W' none hi (Keep.grows hk) (fun r e => by cases e))
      have HB := Lib.hid (Blk.new W 67 #[.int .i64 (wh f x), .int .i64 (ty f x)])
      gi_wp2
      exact hK _ _ (keepsFrom_keep ((Keep.refl NoB W).alloc _)) (fun h => h.keepN ((Keep.refl NoB W).alloc _)) (HI.out _ ((Keep.refl NoB W).alloc _)) ⟨_, HB.out, rfl⟩
    case body =>
      rintro l pre x a' W hl _ ⟨⟨hrs, hbi⟩, hKW, hne⟩ ⟨Bx, hb, rfl⟩ hlt
      have ci : W.cell? ⟨w.heap.size + 1, 0, none⟩ = some (.int .i64 i) := hbi.cell 0
      have cx0 : W.cell? ⟨Bx, 0, none⟩ = some (.int .i64 (wh f x)) := hb.cell 0
      have cx1 : W.cell? ⟨Bx, 1, none⟩ = some (.int .i64 (ty f x)) := hb.cell 1
      have fa := hrs.1.frozen 0
      have fb := hrs.2.1.frozen 0
      have fc := hrs.2.2.frozen 0
      obtain ⟨r0, r1, r2⟩ := hrs.cells
      have hbb : ∀ u, (W.setCell ⟨w.heap.size + 1 + 1, 0, none⟩ u).cell? ⟨Bx, 1, none⟩ = some (.int .i64 (ty f x)) := fun u => (hb.far (p := ⟨w.heap.size + 1 + 1, 0, none⟩) (Blk.ne hb hrs.1 (by decide)) u).cell 1
      by_cases hxi : (x : Int) = i
      · have HXX : Hid (sltX f w (w.heap.size + 1 + 1) i .ret (pre ++ [x]) (((W.drew.setCell ⟨w.heap.size + 1 + 1, 0, none⟩ (.int .i64 (wh f x))).setCell ⟨w.heap.size + 1 + 1 + 1, 0, none⟩ (.int .i64 (ty f x))).setCell ⟨w.heap.size + 1 + 1 + 1 + 1, 0, none⟩ (.int .i64 0))) :=
          ⟨rfl, x, pre, hxi, rfl, RsC.put (W := W.drew) hrs _ _ _, keep_put3 hKW.drew (by omega) _ _ _⟩
        have hq : ((x : Int) == i) = true := by rw [beq_iff_eq]; exact hxi
        clear hxi hrs hbi hKW hne
        generalize ty f x = t at *
        generalize wh f x = a at *
        have hmix : Tryd.prog.follows .mixedOrders = true := by kernel_rfl
        dsimp only [sltA]
        gi_wp2
        gi_region
        all_goals gi_wp2
        all_goals
          refine ⟨⟨?_, ?_⟩, HXX.out⟩
          · simp
          · intro k o hk1 hk2 hk3
            simp only [World.size_alloc] at hk1
            exact (((Below.heap_setCell _ _ _ _ (by show k ≠ w.heap.size + 1 + 1 + 1 + 1; omega)).trans (Below.heap_setCell _ _ _ _ (by show k ≠ w.heap.size + 1 + 1 + 1; omega))).trans (Below.heap_setCell _ _ _ _ (by show k ≠ w.heap.size + 1 + 1; omega))).trans hk2
      · have HXX : Hid (sltI w (w.heap.size + 1 + 1) i (pre ++ [x]) W) := ⟨⟨hrs, hbi⟩, hKW, fun y hy => by
          rcases List.mem_append.1 hy with h | h
          · exact hne y h
          · rw [List.mem_singleton.1 h]; exact hxi⟩
        have hq : ((x : Int) == i) = false := by rw [beq_eq_false_iff_ne]; exact hxi
        clear hxi hrs hbi hKW hne
        generalize ty f x = t at *
        generalize wh f x = a at *
        dsimp only [sltA]
        gi_wp2
        exact ⟨KeepsFrom.refl _ _, id, HXX.out⟩
    case done =>
      rintro D ys W hD rfl ⟨⟨hrs, hbi⟩, hKW, hne⟩ hDf
      obtain ⟨e1, e2, e3⟩ := HMI.out hne
      obtain ⟨rfl, rfl, rfl⟩ : 0 = A0 ∧ 0 = T0 ∧ 72 = E0 := ⟨e1.symm.trans hR.out.1, e2.symm.trans hR.out.2.1, e3.symm.trans hR.out.2.2⟩
      have fa := hrs.1.frozen 0
      have fb := hrs.2.1.frozen 0
      have fc := hrs.2.2.frozen 0
      obtain ⟨r0, r1, r2⟩ := hrs.cells
      have HD : Hid ((((W.setCell ⟨w.heap.size + 1 + 1, 0, none⟩ (.int .i64 0)).setCell ⟨w.heap.size + 1 + 1 + 1, 0, none⟩ (.int .i64 0)).setCell ⟨w.heap.size + 1 + 1 + 1 + 1, 0, none⟩ (.int .i64 72)).heap[D]? = some (.deferred (some []))) := by
        simp only [World.size_alloc] at hD
        exact (((Below.heap_setCell _ _ _ _ (by show D ≠ w.heap.size + 1 + 1 + 1 + 1; omega)).trans (Below.heap_setCell _ _ _ _ (by show D ≠ w.heap.size + 1 + 1 + 1; omega))).trans (Below.heap_setCell _ _ _ _ (by show D ≠ w.heap.size + 1 + 1; omega))).trans hDf
      clear hR e1 e2 e3 hne
      gi_wp2
      refine ⟨by simp, .inl ⟨_, _, rfl, run_takeDeferred HD.out, ?_⟩⟩
      simp only [World.size_alloc] at hD
      exact ⟨_, ret3 ((hrs.put 0 0 72).grown (grownBy_putObj' _ D _) (by simp; omega) (by simp; omega) (by simp; omega)) rfl rfl rfl, rfl, keep_put (keep_put3 hKW (by omega) _ _ _) (by omega)⟩
    case stop =>
      rintro D c pre W hD ⟨k, hk, hp⟩ ⟨rfl, x, q, hx, hq, hrs, hKW⟩ hDf
      obtain ⟨e1, e2, e3⟩ := HHI.out k x pre q hk hp hq hx
      obtain ⟨rfl, rfl, rfl⟩ : wh f x = A0 ∧ ty f x = T0 ∧ 0 = E0 := ⟨e1.symm.trans hR.out.1, e2.symm.trans hR.out.2.1, e3.symm.trans hR.out.2.2⟩
      gi_wp2
      refine ⟨by simp, .inl ⟨_, _, rfl, run_takeDeferred hDf, ?_⟩⟩
      simp only [World.size_alloc] at hD
      exact ⟨_, ret3 (hrs.grown (grownBy_putObj' _ D _) (by simp; omega) (by simp; omega) (by simp; omega)) rfl rfl rfl, rfl, keep_put hKW (by omega)⟩

end Go.Proofs.YtbnekeomdhljhaaDoor.F

namespace Go.Proofs.YtbnekeomdhljhaaDoor.F
open Go.RowKit Go.Shelf W
attribute [local go_sem] Oper.semAt_some

/-- Is a slot an argument, or a local, of type P? Those among the slots that have come. -/
def pB (f : Fu) (i : Nat) : Bool := (wh f i == 1 && ty f i == 4) || (wh f i == 3 && ty f i == 4)
def pL (f : Fu) (pre : List Nat) : List Int := (pre.filter (pB f)).map fun i : Nat => (i : Int)
theorem pL_yes {f : Fu} {pre : List Nat} {x : Nat} (h : pB f x = true) : ivs (pL f (pre ++ [x])) = ivs (pL f pre) ++ [.int .i64 (x : Int)] := by unfold pL; rw [List.filter_append]; simp [h]
theorem pL_no {f : Fu} {pre : List Nat} {x : Nat} (h : pB f x = false) : pL f (pre ++ [x]) = pL f pre := by unfold pL; rw [List.filter_append]; simp [h]
theorem pL_len (f : Fu) (pre : List Nat) : (pL f pre).length ≤ pre.length := by unfold pL; rw [List.length_map]; exact List.length_filter_le _ _
/-- The numbers of its slots of type P. -/
def ptZ (f : Fu) : List Int := (ptrF f).map fun i : Nat => (i : Int)
theorem pL_all {f : Fu} (h : okF f = true) : pL f (List.range (sl f).length) = ptZ f := by
  unfold ptZ pL
  rw [ptrF_ok h]
  congr 1
  unfold ptr
  apply List.filter_congr
  intro i hi
  exact (ptr_held h (List.mem_range.1 hi)).symm

/-- What the walk keeps. -/
def ptI (f : Fu) (w0 : World) (bl : Nat) (pre : List Nat) (W : World) : Prop :=
  (∃ u, Boxed W bl 22 u ∧ W.ownsRow w0.heap.size 3 1 u (pL f pre).length (ivs (pL f pre)) ∧ True) ∧ Below w0.heap.size w0 W
theorem ptI_own (f : Fu) (w0 : World) (bl B : Nat) (hB : w0.heap.size ≤ B) : OwnFrom B (ptI f w0 bl) :=
  OwnFrom.and (Own.from (holdsRow_own w0.heap.size bl 22 3 1 (fun pre : List Nat => (pL f pre).length) (fun pre : List Nat => ivs (pL f pre)) (fun _ _ => True)) _) (ownFrom_below (Nat.le_refl _) hB)
theorem pt_step {f : Fu} {v : FV} {w0 W w1 : World} {bl x : Nat} {pre : List Nat} {u u' : Value} {tmp : Obj} (hA : LsB v f w0.heap.size) (hv : Boxed W bl 22 u) (hrow : W.ownsRow w0.heap.size 3 1 u (pL f pre).length (ivs (pL f pre))) (hB : Below w0.heap.size w0 W)
    (hbb : w0.heap.size ≤ bl) (hp : pB f x = true) (hown' : w1.ownsRow w0.heap.size 3 1 u' ((pL f pre).length + 1) (ivs (pL f pre) ++ [.int .i64 (x : Int)])) (hgrow : (W.alloc tmp).grownBy w1 u.ownBlock) :
    KeepsOthers W (w1.setCell ⟨bl, 0, none⟩ u') ∧ LsK v f W (w1.setCell ⟨bl, 0, none⟩ u') ∧ ptI f w0 bl (pre ++ [x]) (w1.setCell ⟨bl, 0, none⟩ u') := by
  obtain ⟨hv1, hv2, hr2, hk2, hb2⟩ := hv.appended (by decide) hrow hB.size hbb hown' hgrow
  refine ⟨hk2, lsK_below hA hb2, ⟨u', hv2, ?_, trivial⟩, hB.trans hb2⟩
  rw [pL_yes hp]
  have e : (pL f (pre ++ [x])).length = (pL f pre).length + 1 := by have := congrArg List.length (pL_yes (pre := pre) hp); simpa using this
  rw [e]; exact hr2
/-- The frame when a slot has come. -/
def ptA (v : FV) (b bl : Nat) (a t : Int) (x Bx : Nat) : Act := { tmps := #[v.val, .pointer (some ⟨b, 0, none⟩), .slice none 0 0, .pointer (some ⟨bl, 0, none⟩), .int .i64 (x : Int), .pointer (some ⟨Bx, 0, none⟩), v.val, .int .i64 0, .bool false, v.val,
  .func (.func 46) #[] #[.pointer (some ⟨bl + 1 + 1, 0, none⟩)], .int .i64 (x : Int), .agg #[.int .i64 a, .int .i64 t], undef, undef, undef, undef, undef, undef, undef, undef, undef, undef, undef, undef, undef], defers := [] }

set_option maxRecDepth 100000 in
set_option maxHeartbeats 8000000 in
theorem pointers_any (v : FV) (f : Fu) (w : World) (h : FnAt w v f) (hs : SmF v) :
    Calls Tryd.prog 14 #[v.val] w fun e w' => ∃ u, e = .returned u ∧ Own w' 3 1 (Fresh w) u (ptZ f).length (ivs (ptZ f)) ∧ Keep NoB w w' := by
  have bx := Blk.new w 27 v.cells
  have k0 := (Keep.refl NoB w).alloc (.cells v.cells 27)
  have HF := Lib.hid (h.keepN k0)
  have HX := Lib.hid bx
  cases ho : okF f
  · have HC := Lib.hid (check_any v f _ HF.out hs 70 (chkF_no ho))
    have hp : ptZ f = [] := by unfold ptZ; rw [ptrF_no ho]; rfl
    rw [hp]
    obtain ⟨S, A, na, ca, B, nb, cb, L, nl, cl, D, nd, cd⟩ := v
    unfold FV.val FV.cells at *
    clear bx h hs ho hp
    refine (callsIn_wide (n := 4)).1 ?_
    refine callsIn_of_wp_marks Tryd.func14 rfl trivial ?_ rfl
    simp only [Tryd.ntmps14, List.size_toArray, List.length_cons, List.length_nil, Nat.reduceAdd, Nat.reduceSub, Array.replicate_succ, Array.replicate_zero, List.push_toArray, List.append_toArray, List.nil_append, List.cons_append]
    gi_wp2
    refine V.wpIn_scope_wide ?_
    gi_wp2_with (refine ⟨trivial, ?_⟩; gi_at_call 8; refine (callsIn_wide.2 HC.out).mono ?_; rintro e w1 ⟨rfl, k1⟩)
    exact ⟨_, results_tmp rfl _ _ _, _, rfl, Own.nil _ _ _ _, keepN k0 k1⟩
  · obtain ⟨i0, hi, hz0, hz1, hz2⟩ := info_parts int_info
    have HC := Lib.hid (check_any v f _ HF.out hs 0 (chkF_ok ho))
    have hst := Lib.hid (fun m hm bb w hx hr => slots_stops m hm bb v f h.la h.lb h.ll hs w hx hr)
    have hn : (sl f).length ≤ 300 := by rw [sl_length, h.la, h.lb, h.ll]; have := hs.na; have := hs.nb; have := hs.nl; omega
    have HSl := Lib.hid (fun m w => slots_any m v w)
    have HPA := Lib.hid (pL_all ho)
    have HV : Hid (∀ w1, Keep NoB (w.alloc (.cells v.cells 27)) w1 → LsB v f w1.heap.size ∧ ptI f w1 w1.heap.size [] (((w1.alloc (.cells #[.slice none 0 0] 22)).alloc (.cells v.cells 27)).alloc (.cells (kindsV v) 78)) ∧
        Ls v f (((w1.alloc (.cells #[.slice none 0 0] 22)).alloc (.cells v.cells 27)).alloc (.cells (kindsV v) 78)) ∧
        Blk (((w1.alloc (.cells #[.slice none 0 0] 22)).alloc (.cells v.cells 27)).alloc (.cells (kindsV v) 78)) (w1.heap.size + 1 + 1) 78 (kindsV v)) := fun w1 hk => by
      have hl := Ls.of (HF.out.keepN hk)
      have hk3 := (((Keep.refl NoB w1).alloc (.cells #[.slice none 0 0] 22)).alloc (.cells v.cells 27)).alloc (.cells (kindsV v) 78)
      have bL := Boxed.new w1 22 (.slice none 0 0)
      have bk := Blk.new ((w1.alloc (.cells #[.slice none 0 0] 22)).alloc (.cells v.cells 27)) 78 (kindsV v)
      refine ⟨hl.bound, ⟨⟨_, (bL.alloc _).alloc _, World.ownsRow_nil _ _ _ _, trivial⟩, hk3.toBelow⟩, hl.keepN hk3, ?_⟩
      simpa using bk
    have K0 := Lib.hid k0
    obtain ⟨S, A, na, ca, B, nb, cb, L, nl, cl, D, nd, cd⟩ := v
    unfold FV.val FV.cells at *
    clear bx h hs ho k0 HF
    refine (callsIn_wide (n := 4)).1 ?_
    refine callsIn_of_wp_marks Tryd.func14 rfl trivial ?_ rfl
    simp only [Tryd.ntmps14, List.size_toArray, List.length_cons, List.length_nil, Nat.reduceAdd, Nat.reduceSub, Array.replicate_succ, Array.replicate_zero, List.push_toArray, List.append_toArray, List.nil_append, List.cons_append]
    gi_wp2
    refine V.wpIn_scope_wide ?_
    gi_wp2_with (refine ⟨trivial, ?_⟩; gi_at_call 8; refine (callsIn_wide.2 HC.out).mono ?_; rintro e w1 ⟨rfl, k1⟩)
    have hx1 := (HX.out.keep k1 id).alloc (.cells #[.slice none 0 0] 22)
    obtain ⟨c0, c1, c2, c3, c4⟩ := blk5 (v := ⟨S, A, na, ca, B, nb, cb, L, nl, cl, D, nd, cd⟩) hx1
    dsimp only at c0 c1 c2 c3 c4
    obtain ⟨hA, hI0, hL0, hP0⟩ := HV.out _ k1
    have HA := Lib.hid hA
    have HI0 := Lib.hid hI0
    have HL0 := Lib.hid hL0
    have HP0 := Lib.hid hP0
    have hKw := keepN K0.out k1
    clear hx1 hA hI0 hL0 hP0 HV HC
    refine wpIn_label ?_
    gi_wp2_with (refine ⟨trivial, ?_⟩; gi_at_call 33; refine (HSl.out _ _).mono ?_; rintro e w' ⟨rfl, rfl⟩)
    refine wpIn_rangeFunc_ownH rfl (by omega) (gf := 46) (lb := #[.pointer (some ⟨w1.heap.size + 1 + 1, 0, none⟩)]) rfl trivial (enters_of Tryd.func46 (by kernel_rfl) rfl)
      (hst.out _ (by omega) (w1.heap.size + 1 + 1) _ HP0.out HL0.out) (fun h h' => LsK.trans h h') (fun W l o o' _ hl ho _ => LsK.putObj W l o o' hl ho) (Below.refl _ _) (fun _ => rfl)
      (ptI f w1 w1.heap.size) (fun _ _ _ => False) (ptI_own f w1 _ _ (by simp; omega)) (fun _ _ _ _ _ hf _ _ => hf) HI0.out
      (fun x a' W => ∃ Bx, Blk W Bx 67 #[.int .i64 (wh f x), .int .i64 (ty f x)] ∧ a' = ptA ⟨S, A, na, ca, B, nb, cb, L, nl, cl, D, nd, cd⟩ w.heap.size w1.heap.size (wh f x) (ty f x) x Bx) ?hax ?assign ?body ?done ?stop
    case hax =>
      rintro x a' s X Y row ⟨Bx, h1, h2⟩ hg hrow
      exact ⟨Bx, blk_own (β := Unit) _ _ _ () _ _ _ h1 hg (fun r e => (hrow r e).2), h2⟩
    case assign =>
      intro l pre x W K hi hK
      have HI := Lib.hid (fun W' hk => ptI_own f w1 w1.heap.size w1.heap.size (Nat.le_refl _) pre W W' none hi (Keep.grows hk) (fun r e => by cases e))
      have HB := Lib.hid (Blk.new W 67 #[.int .i64 (wh f x), .int .i64 (ty f x)])
      gi_wp2
      exact hK _ _ (keepsFrom_keep ((Keep.refl NoB W).alloc _)) (fun h => h.keepN ((Keep.refl NoB W).alloc _)) (HI.out _ ((Keep.refl NoB W).alloc _)) ⟨_, HB.out, rfl⟩
    case body =>
      rintro l pre x a' W hl _ ⟨⟨u, hv, hrow, _⟩, hB⟩ ⟨Bx, hb, rfl⟩ hlt
      have HST := Lib.hid (fun hp u' w1' tmp hown' hgrow => pt_step (x := x) (u' := u') (w1 := w1') (tmp := tmp) HA.out hv hrow hB (Nat.le_refl _) hp hown' hgrow)
      have HNO : Hid (pB f x = false → ptI f w1 w1.heap.size (pre ++ [x]) W) := fun hp => ⟨⟨u, hv, by rw [pL_no hp]; exact hrow, trivial⟩, hB⟩
      have HPB : Hid (pB f x = ((wh f x == 1 && ty f x == 4) || (wh f x == 3 && ty f x == 4))) := rfl
      have cv := hv.cell
      have cx0 : W.cell? ⟨Bx, 0, none⟩ = some (.int .i64 (wh f x)) := hb.cell 0
      have cx1 : W.cell? ⟨Bx, 1, none⟩ = some (.int .i64 (ty f x)) := hb.cell 1
      obtain ⟨A0, c0, rfl⟩ := own_form hrow
      have hv2 := hv
      have hpl := pL_len f pre
      obtain ⟨xs, hxs⟩ : ∃ xs, pL f pre = xs := ⟨_, rfl⟩
      rw [hxs] at hrow HST hpl cv hv hv2
      have hBs := hB.size
      have hWs := hv.lt
      dsimp only [ptA]
      clear hxs hv hb hB
      generalize ty f x = t at cx1 HPB
      generalize wh f x = a at cx0 HPB
      by_cases hyes : (a = 1 ∨ a = 3) ∧ t = 4
      · obtain ⟨ha, rfl⟩ := hyes
        have hp : pB f x = true := by rw [HPB.out]; rcases ha with rfl | rfl <;> rfl
        have HS2 := Lib.hid (HST.out hp)
        clear HST HNO HPB hp
        rcases ha with rfl | rfl
        all_goals
          gi_wp2_with (gi_at_builtin; refine wpListIn_append_own _ rfl _ _ 22 rfl w1.heap.size 3 i0 (.int .i64 0) 1 8 Tryd.underlying22 hi hz0 hz1 hz2 rfl (by decide) _ _ _ rfl (hrow.alloc _) ⟨W.heap.size, 0, none⟩ 1 1 [.int .i64 (x : Int)] rfl rfl (cell_one_new _ _ _) (by simp [Value.oneCell']) (by unfold maxLen; omega) (by omega) (by simp; omega) ?_; intro u' w2 hown' hgrow _; obtain ⟨g', cap', rfl⟩ := ownsRow_succ hown'; have hst := HS2.out _ _ _ hown' hgrow; have hv3 := (hv2.alloc _).kept hgrow (hv2.not_row (by decide) hrow); have hc1 := hv3.cell; have hf1 := hv3.frozen)
          exact ⟨hst.1.from _, hst.2⟩
      · have hp : pB f x = false := by
          rw [HPB.out]
          cases h4 : t == 4
          · simp
          · rw [beq_iff_eq] at h4
            have h1 : (a == 1) = false := by rw [beq_eq_false_iff_ne]; exact fun e => hyes ⟨.inl e, h4⟩
            have h3 : (a == 3) = false := by rw [beq_eq_false_iff_ne]; exact fun e => hyes ⟨.inr e, h4⟩
            rw [h1, h3]; rfl
        have HI2 := Lib.hid (HNO.out hp)
        clear HST HNO HPB hp hrow
        by_cases ht : t = 4
        · have q1 : (a == 1) = false := by rw [beq_eq_false_iff_ne]; exact fun e => hyes ⟨.inl e, ht⟩
          have q3 : (a == 3) = false := by rw [beq_eq_false_iff_ne]; exact fun e => hyes ⟨.inr e, ht⟩
          subst ht
          clear hyes
          gi_wp2
          exact ⟨KeepsFrom.refl _ _, id, HI2.out⟩
        · have qt : (t == 4) = false := by rw [beq_eq_false_iff_ne]; exact ht
          clear ht hyes
          by_cases ha1 : a = 1
          · subst ha1
            gi_wp2
            exact ⟨KeepsFrom.refl _ _, id, HI2.out⟩
          · have q1 : (a == 1) = false := by rw [beq_eq_false_iff_ne]; exact ha1
            clear ha1
            by_cases ha3 : a = 3
            · subst ha3
              gi_wp2
              exact ⟨KeepsFrom.refl _ _, id, HI2.out⟩
            · have q3 : (a == 3) = false := by rw [beq_eq_false_iff_ne]; exact ha3
              clear ha3
              gi_wp2
              exact ⟨KeepsFrom.refl _ _, id, HI2.out⟩
    case done =>
      rintro D ys W hD rfl ⟨⟨u, hv, hrow, _⟩, hB⟩ hDf
      have cv := hv.cell
      gi_wp2
      refine ⟨by simp, .inl ⟨_, _, rfl, run_takeDeferred hDf, ?_⟩⟩
      refine ⟨_, results_tmp rfl _ _ _, ?_⟩
      rw [HPA.out] at hrow
      exact ⟨u, rfl, Own.of_row (ownsRow_putObj hrow _ hDf rfl) (fun j hj => Nat.le_trans hKw.size hj), keepN hKw (keep_put (Keep.of_below hB) (by simp at hD; omega))⟩
    case stop =>
      rintro D c pre W _ _ hf _
      exact hf.elim

end Go.Proofs.YtbnekeomdhljhaaDoor.F
