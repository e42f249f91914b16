/-
  Which functions may be: what Check answers. Conditions: the function's lists lie in memory, and are no longer than statements go through.
  What the laws ask ahead: whether a function is more than statements go through; and the laws' own function. No conditions but those of each statement.
  The plain mathematics of heads and stretches: which places are noted as heads, how often, and where a stretch ends. No program, no conditions.
  The plain mathematics of what is put in and taken out, of counts, and of stretches one behind the other. No program, no conditions.
  What shifted of layer code answers: a new list, in which those that go to a place behind one go so much farther. Conditions: the list lies in memory, of 1 to 512 instructions; by 1, or -1.
  What Insert of layer code answers: a new body with one more, or ErrCode. Conditions: the list lies in memory.
  What Delete of layer code answers: a new body without one, or ErrCode. Conditions: the list lies in memory.
  What the program's Decode answers. Conditions: a Reel stands on the bytes; they are not too many.
  What the document's Decode answers. Conditions: its Reel stands on the bytes; they are not too many.
  What Decode of layer code answers, the program's and the document's: the body at a Reel's place, and the place behind it. Conditions: the Reel reads bytes in memory, no more than 2^47.
  What the document's Decode of layer code answers: the body at its Reel's place, and the place behind it. Conditions: the Reel reads bytes in memory, no more than 2^47.
  Functions at a Reel's place: what Decode answers. Conditions: the Reel reads bytes in memory, no more than 2^47.
  What Decode of layer function answers: the function at a Reel's place, and the place behind it. Conditions: the Reel reads bytes in memory, no more than 2^47.
  An argument that is a slice of bytes, opened: an address from which a list of bytes stands. No conditions.
  Functions that are no greater than statements go through; small facts that the laws share. No conditions.
-/
import Derived.IntWalk
import Derived.Laws.CopyOwn
import Derived.OpenShut
import Derived.OwnWalk
import Derived.ProofKit
import Derived.SizedLaws
import Derived.Test.YtgifflfjhockaaaGreatDoorQ7
import Derived.Test.YtgifflfjhockaaaGreatDoorQ5
import Derived.Test.YtgifflfjhockaaaGreatDoorQ4
import Derived.Test.YtgifflfjhockaaaGreatDoorQ3
import Derived.Test.YtgifflfjhockaaaGreatDoorQ2
namespace Go.Proofs.YtgifflfjhockaaaGreatDoor.F
open Go.RowKit W

/-- What each of the questions is answered. -/
def bsF (v : FV) (f : Fu) (i : Nat) : Bool := match i with
  | 0 => decide (v.na + v.nb + v.nl ≤ 64)
  | 1 => okN f.nm
  | 2 => S.okG f.ar f.rs
  | 3 => S.okG f.lc []
  | _ => C.okB f.bd
theorem bsF_all {v : FV} {f : Fu} {w : World} (h : FnAt w v f) (hb : ∀ i, i < 5 → bsF v f i = true) : okF f = true := by
  have h0 := of_decide_eq_true (hb 0 (by omega))
  have h1 : okN f.nm = true := hb 1 (by omega)
  have h2 : S.okG f.ar f.rs = true := hb 2 (by omega)
  have h3 : S.okG f.lc [] = true := hb 3 (by omega)
  have h4 : C.okB f.bd = true := hb 4 (by omega)
  rw [← h.la, ← h.lb, ← h.ll] at h0
  exact (okF_iff f).2 ⟨h1, h2, ((okG_one _).1 h3).2, h4, h0⟩
theorem bsF_not {v : FV} {f : Fu} {w : World} (h : FnAt w v f) (hb : ∃ i, i < 5 ∧ bsF v f i = false) : okF f = false := by
  refine okF_not fun ⟨h1, h2, h3, h4, h5⟩ => ?_
  obtain ⟨i, hi, hb⟩ := hb
  rw [h.la, h.lb, h.ll] at h5
  have hl : S.okG f.lc [] = true := (okG_one _).2 ⟨by rw [h.ll]; omega, h3⟩
  have hi : i = 0 ∨ i = 1 ∨ i = 2 ∨ i = 3 ∨ i = 4 := by omega
  rcases hi with rfl | rfl | rfl | rfl | rfl
  · exact absurd h5 (of_decide_eq_false hb)
  · rw [show bsF v f 1 = okN f.nm from rfl, h1] at hb; cases hb
  · rw [show bsF v f 2 = S.okG f.ar f.rs from rfl, h2] at hb; cases hb
  · rw [show bsF v f 3 = S.okG f.lc [] from rfl, hl] at hb; cases hb
  · rw [show bsF v f 4 = C.okB f.bd from rfl, h4] at hb; cases hb
theorem few_eq (v : FV) (f : Fu) : (((if v.na + v.nb + v.nl ≤ 64 then (0 : Int) else 70)) == 0) = bsF v f 0 := by
  show _ = decide _
  by_cases h : v.na + v.nb + v.nl ≤ 64
  · rw [if_pos h, decide_eq_true h]; rfl
  · rw [if_neg h, decide_eq_false h]; rfl
theorem chkN_eq (s : List UInt8) : (chkN s == 0) = okN s := by
  cases h : okN s
  · rw [chkN_no h]; rfl
  · rw [chkN_ok h]; rfl
theorem chkG_eq (a r : List Int) : (S.chkG a r == 0) = S.okG a r := by
  cases h : S.okG a r
  · rw [S.chkG_no h]; rfl
  · rw [S.chkG_ok h]; rfl
theorem chkB_eq (l : List C.I3) : (C.chkB l == 0) = C.okB l := by
  cases h : C.okB l
  · rw [C.chkB_no h]; rfl
  · rw [C.chkB_ok h]; rfl
set_option maxRecDepth 100000 in
set_option maxHeartbeats 4000000 in
theorem checks_any (v : FV) (f : Fu) (w : World) (h : FnAt w v f) (hs : SmF v) (g : Nat) (u0 u1 u2 u3 u4 : Value) (hb : Blk w g 69 #[u0, u1, u2, u3, u4])
    (a0 : AskV 160 89 61 (fnV 118) (v.cells) u0 w)
    (a1 : AskV 161 181 9 (fnV 120) (#[.string v.S]) u1 w)
    (a2 : AskV 164 183 57 (fnV 122) (#[.slice v.A v.na v.ca, .slice v.B v.nb v.cb]) u2 w)
    (a3 : AskV 164 183 57 (fnV 122) (#[.slice v.L v.nl v.cl, .slice none 0 0]) u3 w)
    (a4 : AskV 166 186 59 (fnV 125) (#[.slice v.D v.nd v.cd]) u4 w) :
    Calls Tryz.prog 116 #[.slice (some ⟨g, 0, none⟩) 5 5] w fun e w' => e = .returned (.bool (okF f)) ∧ Keep NoB w w' := by
  obtain ⟨c0, p0, rfl, a0, b0⟩ := a0
  obtain ⟨c1, p1, rfl, a1, b1⟩ := a1
  obtain ⟨c2, p2, rfl, a2, b2⟩ := a2
  obtain ⟨c3, p3, rfl, a3, b3⟩ := a3
  obtain ⟨c4, p4, rfl, a4, b4⟩ := a4
  refine (every_any (some ⟨g, 0, none⟩) [(160, #[.pointer (some ⟨c0, 0, none⟩), .pointer (some ⟨p0, 0, none⟩)]), (161, #[.pointer (some ⟨c1, 0, none⟩), .pointer (some ⟨p1, 0, none⟩)]), (164, #[.pointer (some ⟨c2, 0, none⟩), .pointer (some ⟨p2, 0, none⟩)]), (164, #[.pointer (some ⟨c3, 0, none⟩), .pointer (some ⟨p3, 0, none⟩)]), (166, #[.pointer (some ⟨c4, 0, none⟩), .pointer (some ⟨p4, 0, none⟩)])] 5 5 w rfl (by decide) (bsF v f) (fun _ W => Keep NoB w W) (fun W => Keep NoB w W) ?hcf ?hr ?hq (Keep.refl _ _)).mono ?_
  case hcf =>
    intro q hq
    simp only [List.mem_cons, List.not_mem_nil, or_false] at hq
    rcases hq with rfl | rfl | rfl | rfl | rfl
    · exact enters_of Tryz.func160 (by kernel_rfl) rfl
    · exact enters_of Tryz.func161 (by kernel_rfl) rfl
    · exact enters_of Tryz.func164 (by kernel_rfl) rfl
    · exact enters_of Tryz.func164 (by kernel_rfl) rfl
    · exact enters_of Tryz.func166 (by kernel_rfl) rfl
  case hr =>
    intro i W hK _
    refine ⟨g, 0, rfl, fun j u hu => ?_⟩
    rw [Nat.zero_add, (hb.keep hK id).cell j]
    simpa using hu
  case hq =>
    intro i hi W hK
    have hf := h.keepN hK
    have hi : i = 0 ∨ i = 1 ∨ i = 2 ∨ i = 3 ∨ i = 4 := by simp at hi; omega
    rcases hi with rfl | rfl | rfl | rfl | rfl
    · refine (askedFun_any 118 (enters_of Tryz.func118 (by kernel_rfl) rfl) v c0 p0 W (a0.keep hK id) (b0.keep hK id) _ (bsF v f 0) (few_eq v f) (few_any v W hs _ rfl)).mono ?_
      rintro e W' ⟨rfl, hk⟩
      exact ⟨rfl, fun _ => keepN hK hk, fun _ => keepN hK hk⟩
    · refine (askedStr_any 120 (enters_of Tryz.func120 (by kernel_rfl) rfl) v.S c1 p1 W (a1.keep hK id) (b1.keep hK id) (chkN f.nm) (bsF v f 1) (chkN_eq _) ?_).mono ?_
      · refine (named_any v.S f.nm W hf.nm (by have := hs.sz; omega) _ rfl).mono ?_
        rintro e W' ⟨rfl, rfl⟩
        exact ⟨rfl, Keep.refl _ _⟩
      rintro e W' ⟨rfl, hk⟩
      exact ⟨rfl, fun _ => keepN hK hk, fun _ => keepN hK hk⟩
    · refine (askedSig_any 122 (enters_of Tryz.func122 (by kernel_rfl) rfl) _ _ c2 p2 W (a2.keep hK id) (b2.keep hK id) (S.chkG f.ar f.rs) (bsF v f 2) (chkG_eq _ _) (S.chkG_any v.A f.ar v.na v.ca v.B f.rs v.nb v.cb W hf.ra hf.rb hf.la hf.lb (by have := hs.na; omega) (by have := hs.nb; omega) _ rfl)).mono ?_
      rintro e W' ⟨rfl, hk⟩
      exact ⟨rfl, fun _ => keepN hK hk, fun _ => keepN hK hk⟩
    · refine (askedSig_any 122 (enters_of Tryz.func122 (by kernel_rfl) rfl) _ _ c3 p3 W (a3.keep hK id) (b3.keep hK id) (S.chkG f.lc []) (bsF v f 3) (chkG_eq _ _) (S.chkG_any v.L f.lc v.nl v.cl none [] 0 0 W hf.rl (Rd.none_ _ _) hf.ll rfl (by have := hs.nl; omega) (by omega) _ rfl)).mono ?_
      rintro e W' ⟨rfl, hk⟩
      exact ⟨rfl, fun _ => keepN hK hk, fun _ => keepN hK hk⟩
    · refine (askedBod_any 125 (enters_of Tryz.func125 (by kernel_rfl) rfl) v.D v.nd v.cd c4 p4 W (a4.keep hK id) (b4.keep hK id) (C.chkB f.bd) (bsF v f 4) (chkB_eq _) (C.cchk_any v.D f.bd v.nd v.cd W hf.rd hf.ld (by have := hs.nd; omega) _ rfl)).mono ?_
      rintro e W' ⟨rfl, hk⟩
      exact ⟨rfl, fun _ => keepN hK hk, fun _ => keepN hK hk⟩
  rintro e w' (⟨rfl, hb, hk⟩ | ⟨rfl, hb, hk⟩)
  · exact ⟨by rw [bsF_all h hb], hk⟩
  · exact ⟨by rw [bsF_not h hb], hk⟩

/-- What the values are that Check's region yields. -/
def SC (v : FV) (f : Fu) (b : Nat) : Nat → Value → World → Prop
  | 0 => fun u _ => u = v.val
  | 1 => AskV 160 89 61 (fnV 118) (v.cells)
  | 2 => fun u _ => u = .pointer (some ⟨b, 0, none⟩)
  | 3 => fun u _ => u = .string v.S
  | 4 => AskV 161 181 9 (fnV 120) (#[.string v.S])
  | 5 => fun u _ => u = .pointer (some ⟨b, 1, none⟩)
  | 6 => fun u _ => u = .agg #[.slice v.A v.na v.ca, .slice v.B v.nb v.cb]
  | 7 => AskV 164 183 57 (fnV 122) (#[.slice v.A v.na v.ca, .slice v.B v.nb v.cb])
  | 8 => fun u _ => u = .pointer (some ⟨b, 3, none⟩)
  | 9 => fun u _ => u = .slice v.L v.nl v.cl
  | 10 => fun u _ => u = .agg #[.slice v.L v.nl v.cl, .slice none 0 0]
  | 11 => AskV 164 183 57 (fnV 122) (#[.slice v.L v.nl v.cl, .slice none 0 0])
  | 12 => fun u _ => u = .pointer (some ⟨b, 4, none⟩)
  | 13 => fun u _ => u = .slice v.D v.nd v.cd
  | 14 => AskV 166 186 59 (fnV 125) (#[.slice v.D v.nd v.cd])
  | 15 => fun u w => ∃ g u0 u1 u2 u3 u4, u = .slice (some ⟨g, 0, none⟩) 5 5 ∧ Blk w g 69 #[u0, u1, u2, u3, u4] ∧ AskV 160 89 61 (fnV 118) (v.cells) u0 w ∧ AskV 161 181 9 (fnV 120) (#[.string v.S]) u1 w ∧ AskV 164 183 57 (fnV 122) (#[.slice v.A v.na v.ca, .slice v.B v.nb v.cb]) u2 w ∧ AskV 164 183 57 (fnV 122) (#[.slice v.L v.nl v.cl, .slice none 0 0]) u3 w ∧ AskV 166 186 59 (fnV 125) (#[.slice v.D v.nd v.cd]) u4 w
  | 16 => fun u _ => u = .bool (okF f)
  | 17 => fun u _ => u = .bool (!okF f)
  | _ => fun _ _ => True
theorem SC_stable (v : FV) (f : Fu) (b : Nat) : ∀ i u w w', SC v f b i u w → Keep NoB w w' → SC v f b i u w'
  | 0, _, _, _, h, _ => h
  | 1, _, _, _, h, hk => AskV.keep h hk
  | 2, _, _, _, h, _ => h
  | 3, _, _, _, h, _ => h
  | 4, _, _, _, h, hk => AskV.keep h hk
  | 5, _, _, _, h, _ => h
  | 6, _, _, _, h, _ => h
  | 7, _, _, _, h, hk => AskV.keep h hk
  | 8, _, _, _, h, _ => h
  | 9, _, _, _, h, _ => h
  | 10, _, _, _, h, _ => h
  | 11, _, _, _, h, hk => AskV.keep h hk
  | 12, _, _, _, h, _ => h
  | 13, _, _, _, h, _ => h
  | 14, _, _, _, h, hk => AskV.keep h hk
  | 15, _, _, _, ⟨g, u0, u1, u2, u3, u4, e, hb, a0, a1, a2, a3, a4⟩, hk => ⟨g, u0, u1, u2, u3, u4, e, hb.keep hk id, a0.keep hk, a1.keep hk, a2.keep hk, a3.keep hk, a4.keep hk⟩
  | 16, _, _, _, h, _ => h
  | 17, _, _, _, h, _ => h
  | _ + 18, _, _, _, h, _ => h

set_option maxRecDepth 100000 in
set_option maxHeartbeats 8000000 in
theorem check_any (v : FV) (f : Fu) (w : World) (h : FnAt w v f) (hs : SmF v) (R : Int) (hR : Hid (chkF f = R)) :
    Calls Tryz.prog 76 #[v.val] w fun e w' => e = .returned (.int .i64 R) ∧ Keep NoB w w' := by
  have bx := Blk.new w 61 v.cells
  have k0 := (Keep.refl NoB w).alloc (.cells v.cells 61)
  have HF := Lib.hid (h.keepN k0)
  obtain ⟨S, A, na, ca, B, nb, cb, L, nl, cl, D, nd, cd⟩ := v
  have HE := Lib.hid (fun W hf g u0 u1 u2 u3 u4 hb a0 a1 a2 a3 a4 => checks_any _ f W hf hs g u0 u1 u2 u3 u4 hb a0 a1 a2 a3 a4)
  obtain ⟨q0, q1, q2, q3, q4⟩ := blk5 bx
  dsimp only [FV.val, FV.cells] at bx k0 HF q0 q1 q2 q3 q4 ⊢
  have HX := Lib.hid bx
  clear h hs bx
  generalize hw1 : w.alloc (.cells #[.string S, .slice A na ca, .slice B nb cb, .slice L nl cl, .slice D nd cd] 61) = w1 at k0 HF q0 q1 q2 q3 q4 HX
  go_enter Tryz.func76, Tryz.ntmps76
  go_wp2_with fail
  clear hw1
  refine wp_region_props2 3 99 (NoB) (by kernel_rfl) (by kernel_rfl) (SC ⟨S, A, na, ca, B, nb, cb, L, nl, cl, D, nd, cd⟩ f w.heap.size) (fun i u x y _ h hk => SC_stable _ _ _ i u x y h hk) (of_decide_eq_true rfl) ?step ?spec ?fin
  case step =>
    intro i o a w' ho hic hF hK hA
    have hi : i < 18 := by simpa using (Array.getElem?_eq_some_iff.1 ho).1
    by_cases h0 : i = 0
    · subst h0
      simp only [List.getElem?_toArray, List.getElem?_cons_zero, Option.some.injEq] at ho
      subst ho
      have e1 : a.tmps.getD 1 undef = .pointer (some ⟨w.heap.size, 0, none⟩) := hF.2.2 1 (.inl (by decide))
      have c0 := Keep.cell hK q0 id
      have c1 := Keep.cell hK q1 id
      have c2 := Keep.cell hK q2 id
      have c3 := Keep.cell hK q3 id
      have c4 := Keep.cell hK q4 id
      refine Does.plain rfl ?_
      unfold yieldsK
      go_simp
      exact ⟨rfl, Keep.refl _ _⟩
    by_cases h1 : i = 1
    · subst h1
      simp only [List.getElem?_toArray, List.getElem?_cons_zero, List.getElem?_cons_succ, Option.some.injEq] at ho
      subst ho
      have e3 : a.tmps.getD 3 undef = .agg #[.string S, .slice A na ca, .slice B nb cb, .slice L nl cl, .slice D nd cd] := hA ⟨0, .data⟩ (by simp) rfl
      refine Does.plain rfl ?_
      unfold yieldsK
      go_simp
      refine (passesFun_any 118 ⟨S, A, na, ca, B, nb, cb, L, nl, cl, D, nd, cd⟩ w').mono ?_
      rintro e w2 ⟨u, rfl, h1, h2⟩
      exact ⟨_, rfl, h1, h2⟩
    by_cases h2 : i = 2
    · subst h2
      simp only [List.getElem?_toArray, List.getElem?_cons_zero, List.getElem?_cons_succ, Option.some.injEq] at ho
      subst ho
      have e1 : a.tmps.getD 1 undef = .pointer (some ⟨w.heap.size, 0, none⟩) := hF.2.2 1 (.inl (by decide))
      refine Does.plain rfl ?_
      unfold yieldsK
      go_simp
      exact ⟨rfl, Keep.refl _ _⟩
    by_cases h3 : i = 3
    · subst h3
      simp only [List.getElem?_toArray, List.getElem?_cons_zero, List.getElem?_cons_succ, Option.some.injEq] at ho
      subst ho
      have e5 : a.tmps.getD 5 undef = .pointer (some ⟨w.heap.size, 0, none⟩) := hA ⟨2, .data⟩ (by simp) rfl
      have c0 := Keep.cell hK q0 id
      refine Does.plain rfl ?_
      unfold yieldsK
      go_simp
      exact ⟨rfl, Keep.refl _ _⟩
    by_cases h4 : i = 4
    · subst h4
      simp only [List.getElem?_toArray, List.getElem?_cons_zero, List.getElem?_cons_succ, Option.some.injEq] at ho
      subst ho
      have e6 : a.tmps.getD 6 undef = .string S := hA ⟨3, .data⟩ (by simp) rfl
      refine Does.plain rfl ?_
      unfold yieldsK
      go_simp
      refine (passesStr_any 120 S w').mono ?_
      rintro e w2 ⟨u, rfl, h1, h2⟩
      exact ⟨_, rfl, h1, h2⟩
    by_cases h5 : i = 5
    · subst h5
      simp only [List.getElem?_toArray, List.getElem?_cons_zero, List.getElem?_cons_succ, Option.some.injEq] at ho
      subst ho
      have e1 : a.tmps.getD 1 undef = .pointer (some ⟨w.heap.size, 0, none⟩) := hF.2.2 1 (.inl (by decide))
      refine Does.plain rfl ?_
      unfold yieldsK
      go_simp
      exact ⟨rfl, Keep.refl _ _⟩
    by_cases h6 : i = 6
    · subst h6
      simp only [List.getElem?_toArray, List.getElem?_cons_zero, List.getElem?_cons_succ, Option.some.injEq] at ho
      subst ho
      have e8 : a.tmps.getD 8 undef = .pointer (some ⟨w.heap.size, 1, none⟩) := hA ⟨5, .data⟩ (by simp) rfl
      have c1 := Keep.cell hK q1 id
      have c2 := Keep.cell hK q2 id
      refine Does.plain rfl ?_
      unfold yieldsK
      go_simp
      exact ⟨rfl, Keep.refl _ _⟩
    by_cases h7 : i = 7
    · subst h7
      simp only [List.getElem?_toArray, List.getElem?_cons_zero, List.getElem?_cons_succ, Option.some.injEq] at ho
      subst ho
      have e9 : a.tmps.getD 9 undef = .agg #[.slice A na ca, .slice B nb cb] := hA ⟨6, .data⟩ (by simp) rfl
      refine Does.plain rfl ?_
      unfold yieldsK
      go_simp
      refine (passesSig_any 122 (.slice A na ca) (.slice B nb cb) w').mono ?_
      rintro e w2 ⟨u, rfl, h1, h2⟩
      exact ⟨_, rfl, h1, h2⟩
    by_cases h8 : i = 8
    · subst h8
      simp only [List.getElem?_toArray, List.getElem?_cons_zero, List.getElem?_cons_succ, Option.some.injEq] at ho
      subst ho
      have e1 : a.tmps.getD 1 undef = .pointer (some ⟨w.heap.size, 0, none⟩) := hF.2.2 1 (.inl (by decide))
      refine Does.plain rfl ?_
      unfold yieldsK
      go_simp
      exact ⟨rfl, Keep.refl _ _⟩
    by_cases h9 : i = 9
    · subst h9
      simp only [List.getElem?_toArray, List.getElem?_cons_zero, List.getElem?_cons_succ, Option.some.injEq] at ho
      subst ho
      have e11 : a.tmps.getD 11 undef = .pointer (some ⟨w.heap.size, 3, none⟩) := hA ⟨8, .data⟩ (by simp) rfl
      have c3 := Keep.cell hK q3 id
      refine Does.plain rfl ?_
      unfold yieldsK
      go_simp
      exact ⟨rfl, Keep.refl _ _⟩
    by_cases h10 : i = 10
    · subst h10
      simp only [List.getElem?_toArray, List.getElem?_cons_zero, List.getElem?_cons_succ, Option.some.injEq] at ho
      subst ho
      have e12 : a.tmps.getD 12 undef = .slice L nl cl := hA ⟨9, .data⟩ (by simp) rfl
      refine Does.plain rfl ?_
      unfold yieldsK
      go_simp
      refine (taking_any L nl cl w').mono ?_
      rintro e w2 ⟨rfl, h2⟩
      exact ⟨_, rfl, rfl, h2⟩
    by_cases h11 : i = 11
    · subst h11
      simp only [List.getElem?_toArray, List.getElem?_cons_zero, List.getElem?_cons_succ, Option.some.injEq] at ho
      subst ho
      have e13 : a.tmps.getD 13 undef = .agg #[.slice L nl cl, .slice none 0 0] := hA ⟨10, .data⟩ (by simp) rfl
      refine Does.plain rfl ?_
      unfold yieldsK
      go_simp
      refine (passesSig_any 122 (.slice L nl cl) (.slice none 0 0) w').mono ?_
      rintro e w2 ⟨u, rfl, h1, h2⟩
      exact ⟨_, rfl, h1, h2⟩
    by_cases h12 : i = 12
    · subst h12
      simp only [List.getElem?_toArray, List.getElem?_cons_zero, List.getElem?_cons_succ, Option.some.injEq] at ho
      subst ho
      have e1 : a.tmps.getD 1 undef = .pointer (some ⟨w.heap.size, 0, none⟩) := hF.2.2 1 (.inl (by decide))
      refine Does.plain rfl ?_
      unfold yieldsK
      go_simp
      exact ⟨rfl, Keep.refl _ _⟩
    by_cases h13 : i = 13
    · subst h13
      simp only [List.getElem?_toArray, List.getElem?_cons_zero, List.getElem?_cons_succ, Option.some.injEq] at ho
      subst ho
      have e15 : a.tmps.getD 15 undef = .pointer (some ⟨w.heap.size, 4, none⟩) := hA ⟨12, .data⟩ (by simp) rfl
      have c4 := Keep.cell hK q4 id
      refine Does.plain rfl ?_
      unfold yieldsK
      go_simp
      exact ⟨rfl, Keep.refl _ _⟩
    by_cases h14 : i = 14
    · subst h14
      simp only [List.getElem?_toArray, List.getElem?_cons_zero, List.getElem?_cons_succ, Option.some.injEq] at ho
      subst ho
      have e16 : a.tmps.getD 16 undef = .slice D nd cd := hA ⟨13, .data⟩ (by simp) rfl
      refine Does.plain rfl ?_
      unfold yieldsK
      go_simp
      refine (passesBod_any 125 D nd cd w').mono ?_
      rintro e w2 ⟨u, rfl, h1, h2⟩
      exact ⟨_, rfl, h1, h2⟩
    by_cases h15 : i = 15
    · subst h15
      simp only [List.getElem?_toArray, List.getElem?_cons_zero, List.getElem?_cons_succ, Option.some.injEq] at ho
      subst ho
      obtain ⟨c0, p0, e4, a0, b0⟩ := hA ⟨1, .data⟩ (by simp) rfl
      have e4 : a.tmps.getD 4 undef = askV 160 #[.pointer (some ⟨c0, 0, none⟩), .pointer (some ⟨p0, 0, none⟩)] := e4
      obtain ⟨c1, p1, e7, a1, b1⟩ := hA ⟨4, .data⟩ (by simp) rfl
      have e7 : a.tmps.getD 7 undef = askV 161 #[.pointer (some ⟨c1, 0, none⟩), .pointer (some ⟨p1, 0, none⟩)] := e7
      obtain ⟨c2, p2, e10, a2, b2⟩ := hA ⟨7, .data⟩ (by simp) rfl
      have e10 : a.tmps.getD 10 undef = askV 164 #[.pointer (some ⟨c2, 0, none⟩), .pointer (some ⟨p2, 0, none⟩)] := e10
      obtain ⟨c3, p3, e14, a3, b3⟩ := hA ⟨11, .data⟩ (by simp) rfl
      have e14 : a.tmps.getD 14 undef = askV 164 #[.pointer (some ⟨c3, 0, none⟩), .pointer (some ⟨p3, 0, none⟩)] := e14
      obtain ⟨c4, p4, e17, a4, b4⟩ := hA ⟨14, .data⟩ (by simp) rfl
      have e17 : a.tmps.getD 17 undef = askV 166 #[.pointer (some ⟨c4, 0, none⟩), .pointer (some ⟨p4, 0, none⟩)] := e17
      refine Does.plain rfl ?_
      unfold yieldsK
      unfold askV at *
      simp only [Array.getD_eq_getD_getElem?] at e4 e7 e10 e14 e17
      go_simp
      refine ⟨⟨w'.heap.size, _, _, _, _, _, rfl, Blk.new _ _ _, ⟨c0, p0, rfl, a0.alloc _, b0.alloc _⟩, ⟨c1, p1, rfl, a1.alloc _, b1.alloc _⟩, ⟨c2, p2, rfl, a2.alloc _, b2.alloc _⟩, ⟨c3, p3, rfl, a3.alloc _, b3.alloc _⟩, ⟨c4, p4, rfl, a4.alloc _, b4.alloc _⟩⟩, (Keep.refl _ _).alloc _⟩
    by_cases h16 : i = 16
    · subst h16
      simp only [List.getElem?_toArray, List.getElem?_cons_zero, List.getElem?_cons_succ, Option.some.injEq] at ho
      subst ho
      obtain ⟨g, u0, u1, u2, u3, u4, e18, hb, a0, a1, a2, a3, a4⟩ := hA ⟨15, .data⟩ (by simp) rfl
      have e18 : a.tmps.getD 18 undef = .slice (some ⟨g, 0, none⟩) 5 5 := e18
      refine Does.plain rfl ?_
      unfold yieldsK
      go_simp
      refine (HE.out w' (HF.out.keepN hK) g u0 u1 u2 u3 u4 hb a0 a1 a2 a3 a4).mono ?_
      rintro e w2 ⟨rfl, h2⟩
      exact ⟨_, rfl, rfl, h2⟩
    by_cases h17 : i = 17
    · subst h17
      simp only [List.getElem?_toArray, List.getElem?_cons_zero, List.getElem?_cons_succ, Option.some.injEq] at ho
      subst ho
      have e19 : a.tmps.getD 19 undef = .bool (okF f) := hA ⟨16, .data⟩ (by simp) rfl
      refine Does.plain rfl ?_
      unfold yieldsK
      go_simp
      exact ⟨rfl, Keep.refl _ _⟩
    omega
  case spec =>
    intro o a w' ho
    simp at ho
  case fin =>
    intro a w' hF gK hA
    have e20 : a.tmps.getD (3 + 17) undef = .bool (!okF f) := hA 17 (by decide)
    have ha := frame_fill (n := 18) hF (of_decide_eq_true rfl)
    rw [ha]
    rw [show List.range 18 = [0, 1, 2, 3, 4, 5, 6, 7, 8, 9, 10, 11, 12, 13, 14, 15, 16, 17] from rfl]
    simp only [List.map_cons, List.map_nil, e20]
    generalize a.tmps.getD (3 + 0) undef = u0
    generalize a.tmps.getD (3 + 1) undef = u1
    generalize a.tmps.getD (3 + 2) undef = u2
    generalize a.tmps.getD (3 + 3) undef = u3
    generalize a.tmps.getD (3 + 4) undef = u4
    generalize a.tmps.getD (3 + 5) undef = u5
    generalize a.tmps.getD (3 + 6) undef = u6
    generalize a.tmps.getD (3 + 7) undef = u7
    generalize a.tmps.getD (3 + 8) undef = u8
    generalize a.tmps.getD (3 + 9) undef = u9
    generalize a.tmps.getD (3 + 10) undef = u10
    generalize a.tmps.getD (3 + 11) undef = u11
    generalize a.tmps.getD (3 + 12) undef = u12
    generalize a.tmps.getD (3 + 13) undef = u13
    generalize a.tmps.getD (3 + 14) undef = u14
    generalize a.tmps.getD (3 + 15) undef = u15
    generalize a.tmps.getD (3 + 16) undef = u16
    simp only [fillT, List.setIfInBounds_toArray, List.set_cons_zero, List.set_cons_succ]
    have HR := Lib.hid (keepN k0 gK)
    clear gK k0 hA hF ha e20 HE HF HX q0 q1 q2 q3 q4
    cases ho : okF f
    · obtain rfl : 70 = R := by rw [← hR.out]; exact (chkF_no ho).symm
      clear hR ho
      go_wp2
      go_ret
      exact ⟨rfl, HR.out⟩
    · obtain rfl : 0 = R := by rw [← hR.out]; exact (chkF_ok ho).symm
      clear hR ho
      go_wp2
      go_ret
      exact ⟨rfl, HR.out⟩

end Go.Proofs.YtgifflfjhockaaaGreatDoor.F

namespace Go.Proofs.YtgifflfjhockaaaGreatDoor.F
open Go.RowKit W

theorem fun_size : (Tryz.prog.info? 61).map (·.size) = some 5 := by kernel_rfl
theorem some_I : C.AllI [(24, 0, 0)] := fun x hx => by rw [List.mem_singleton.1 hx]; exact ⟨show O.I64 0 by unfold O.I64; omega, show O.I64 0 by unfold O.I64; omega⟩
/-- A function that is small, and reads as one. -/
def FnV (f : Fu) (v : FV) (w : World) : Prop := FnAt w v f ∧ SmF v
theorem FnV.keepN {f : Fu} {v : FV} {w w' : World} (h : FnV f v w) (hk : Keep NoB w w') : FnV f v w' := ⟨h.1.keepN hk, h.2⟩
end Go.Proofs.YtgifflfjhockaaaGreatDoor.F

namespace Go.Proofs.YtgifflfjhockaaaGreatDoor.C
open Go.RowKit O

end Go.Proofs.YtgifflfjhockaaaGreatDoor.C

namespace Go.Proofs.YtgifflfjhockaaaGreatDoor.C
open Go.RowKit O

/-! ### counts -/
/-! ### stretches -/
end Go.Proofs.YtgifflfjhockaaaGreatDoor.C

namespace Go.Proofs.YtgifflfjhockaaaGreatDoor.C
open Go.RowKit O

theorem instr_info : (Tryz.prog.info? 63).map (fun i => (i.zero, i.size, i.bytes)) = some (some (.agg #[.int .i64 0, .int .i64 0, .int .i64 0]), 3, 24) := by kernel_rfl
end Go.Proofs.YtgifflfjhockaaaGreatDoor.C

namespace Go.Proofs.YtgifflfjhockaaaGreatDoor.C
open Go.RowKit O

/-- A new row that has the cells. -/
def RowV (w0 : World) (k : Nat) (ys : List Value) (v : Value) (w : World) : Prop := Own w 63 3 (Fresh w0) v k ys
theorem RowV.stable (w0 : World) (k : Nat) (ys : List Value) (v : Value) : StableI (RowV w0 k ys v) := fun _ _ h hk => Own.keepN h hk

end Go.Proofs.YtgifflfjhockaaaGreatDoor.C

namespace Go.Proofs.YtgifflfjhockaaaGreatDoor.C
open Go.RowKit O

/-- The first ones of a block that is known whole, as a row with room. -/
theorem row_take {w : World} {g n k : Nat} {cs : List I3} (h : Blk w g 63 (iis cs).toArray) (hn : cs.length = n) (hk : k ≤ n) (h5 : n ≤ 512) : w.ownsRow 0 63 3 (.slice (some ⟨g, 0, none⟩) k n) k (iis (cs.take k)) := by
  refine ⟨by rw [iis_length, List.length_take]; omega, .inr ⟨g, n, (iis cs).toArray, rfl, Nat.zero_le _, h, hk, by unfold maxLen; omega, by simp [iis_length, hn], ?_⟩⟩
  show (iis cs).take (k * 3) = _
  exact iis_take cs k

end Go.Proofs.YtgifflfjhockaaaGreatDoor.C

namespace Go.Proofs.YtgifflfjhockaaaGreatDoor.O
open Go.RowKit

theorem num_case (l : List UInt8) (p M : Nat) : ∃ n r q : Nat, V.NumR l p M = (n, r, q) ∧ (r = 0 → n ≤ M ∧ n < 18446744073709551616) ∧ (r ≠ 0 → n = 0) := by
  refine ⟨_, _, _, rfl, fun h => ?_, fun h => ?_⟩
  · have := num_ok (l := l) (p := p) (m := M) h; exact ⟨this.2.1, this.2.2.1⟩
  · exact (V.bnd_zero (l.drop p) M h).1
theorem hi_nat {k : Int} (h1 : k ≠ 1) : ∃ M : Nat, hi k = (M : Int) ∧ M ≤ 511 := by
  refine ⟨(hi k).toNat, ?_, ?_⟩ <;> unfold hi <;> rw [if_neg h1] <;> repeat' split
  all_goals simp
theorem keepBr {w w1 w2 : World} {br : Nat} (h : Keep NoB w w1) (h2 : Keep (fun k => k = br) w1 w2) : Keep (fun k => k = br) w w2 := (h.mono (fun _ hf _ => hf.elim)).trans h2 (fun _ ho _ => ho)
theorem blk5 {w : World} {g : Nat} {t : TypeId} {a0 a1 a2 a3 a4 : Value} (h : Blk w g t #[a0, a1, a2, a3, a4]) :
    w.cell? ⟨g, 0, none⟩ = some a0 ∧ w.cell? ⟨g, 1, none⟩ = some a1 ∧ w.cell? ⟨g, 2, none⟩ = some a2 ∧ w.cell? ⟨g, 3, none⟩ = some a3 ∧ w.cell? ⟨g, 4, none⟩ = some a4 := ⟨h.cell 0, h.cell 1, h.cell 2, h.cell 3, h.cell 4⟩
theorem reel_lt {w : World} {br p : Nat} {O : Nat → Prop} {l : List UInt8} (h : V.ReelAt w br O l p) : br < w.heap.size := by
  obtain ⟨A, c, hb, _⟩ := h.cells
  exact hb.lt

set_option maxHeartbeats 2000000 in
theorem read_any (k : Int) (sh gu : Value) (w : World) (br : Nat) (O : Nat → Prop) (l : List UInt8) (p : Nat) (h : V.ReelAt w br O l p) (hlen : l.length ≤ 140737488355328) :
    Calls Tryz.prog 199 #[opV k sh gu, .pointer (some ⟨br, 0, none⟩)] w (V.Reads w br O l (decP k l p).2.2 (.int .i64 (decP k l p).1) (decP k l p).2.1) := by
  have hK := (Keep.refl NoB w).alloc (.cells #[.int .i64 k, .int .i64 (lo k), .int .i64 (hi k), sh, gu] 268)
  have h1 := h.keep hK (fun _ _ => id)
  have hb0 := Blk.new w 268 #[.int .i64 k, .int .i64 (lo k), .int .i64 (hi k), sh, gu]
  have hbr := reel_lt h
  unfold opV
  by_cases h0 : k = 0
  · subst h0
    have HX : Hid (decP 0 l p = (0, 0, p)) := rfl
    clear hb0 hbr
    go_enter Tryz.func199, Tryz.ntmps199
    go_wp2
    go_ret2
    rw [HX.out]
    exact ⟨rfl, h1, hK.mono (fun _ hf _ => hf.elim)⟩
  · have q0 : (k == 0) = false := by rw [beq_eq_false_iff_ne]; exact h0
    by_cases h1k : k = 1
    · subst h1k
      have HS := Lib.hid (V.rsigned_any _ br O l p (lo 1) (hi 1) h1 hlen)
      have HX : Hid (decP 1 l p = V.SigR l p (lo 1) (hi 1)) := rfl
      rw [HX.out]
      generalize V.SigR l p (lo 1) (hi 1) = x at HS ⊢
      clear HX h h1 hb0 hbr
      go_enter Tryz.func199, Tryz.ntmps199
      go_wp2_with fail
      refine HS.out.mono ?_
      rintro e w1 ⟨rfl, h2, k2⟩
      go_wp2
      go_ret2
      exact ⟨rfl, h2, keepBr hK k2⟩
    · have q1 : (k == 1) = false := by rw [beq_eq_false_iff_ne]; exact h1k
      obtain ⟨M, hM, hM5⟩ := hi_nat h1k
      have hw : IntKind.u64.wrap (M : Int) = (M : Int) := by simp [IntKind.wrap, IntKind.bits, IntKind.signed]; omega
      have HS := Lib.hid (V.rnumber_any _ br O l p M h1 hlen)
      obtain ⟨n, r, q, hN, hN0, hN1⟩ := num_case l p M
      have HX : Hid (decP k l p = if r ≠ 0 then (0, r, q) else if inK k n = true then ((n : Int), 0, q) else (0, 40, q)) := by
        show _ = _
        unfold decP
        rw [if_neg h0, if_neg h1k, show (hi k).toNat = M by omega, hN]
      rw [hN] at HS
      have HG := Lib.hid (fun w t ht => has_gen k (n : Int) (opV k sh gu) t w ht ⟨sh, gu, rfl⟩)
      unfold opV at HG
      rw [hM] at hb0 HG HS ⊢
      have hK' : Keep NoB w (w.alloc (.cells #[.int .i64 k, .int .i64 (lo k), .int .i64 (M : Int), sh, gu] 268)) := (Keep.refl NoB w).alloc _
      clear h h1 hK hN hM
      by_cases hr : r = 0
      · subst hr
        obtain ⟨hn1, hn2⟩ := hN0 rfl
        have hwn : IntKind.i64.wrap (n : Int) = (n : Int) := by simp [IntKind.wrap, IntKind.bits, IntKind.signed]; omega
        clear hN0 hN1
        cases hin : inK k (n : Int)
        · have HX2 : Hid (decP k l p = (0, 40, q)) := by show _ = _; rw [HX.out, hin]; simp
          have HH := Lib.hid (fun w => HG.out w false hin)
          clear HX HG hin
          go_enter Tryz.func199, Tryz.ntmps199
          go_wp2_with fail
          refine HS.out.mono ?_
          rintro e w1 ⟨rfl, h2, k2⟩
          have b1 := hb0.keep k2 (fun e => by omega)
          obtain ⟨c0, c1, c2, c3, c4⟩ := blk5 b1
          go_wp2_with fail
          refine (HH.out _).mono ?_
          rintro e w2 ⟨rfl, k3⟩
          go_wp2
          go_ret2
          rw [HX2.out]
          exact ⟨rfl, h2.keep k3 (fun _ _ => id), (keepBr hK' k2).trans (k3.mono (fun _ hf _ => hf.elim)) (fun _ ho _ => ho)⟩
        · have HX2 : Hid (decP k l p = ((n : Int), 0, q)) := by show _ = _; rw [HX.out, hin]; simp
          have HH := Lib.hid (fun w => HG.out w true hin)
          clear HX HG hin
          go_enter Tryz.func199, Tryz.ntmps199
          go_wp2_with fail
          refine HS.out.mono ?_
          rintro e w1 ⟨rfl, h2, k2⟩
          have b1 := hb0.keep k2 (fun e => by omega)
          obtain ⟨c0, c1, c2, c3, c4⟩ := blk5 b1
          go_wp2_with fail
          refine (HH.out _).mono ?_
          rintro e w2 ⟨rfl, k3⟩
          go_wp2
          go_ret2
          rw [HX2.out]
          exact ⟨rfl, h2.keep k3 (fun _ _ => id), (keepBr hK' k2).trans (k3.mono (fun _ hf _ => hf.elim)) (fun _ ho _ => ho)⟩
      · have hr1 : ((r : Int) != 0) = true := by rw [bne_iff_ne]; omega
        have HX2 : Hid (decP k l p = (0, r, q)) := by show _ = _; rw [HX.out, if_pos hr]
        clear HX HG hN0 hN1 hr
        go_enter Tryz.func199, Tryz.ntmps199
        go_wp2_with fail
        refine HS.out.mono ?_
        rintro e w1 ⟨rfl, h2, k2⟩
        have b1 := hb0.keep k2 (fun e => by omega)
        obtain ⟨c0, c1, c2, c3, c4⟩ := blk5 b1
        go_wp2
        go_ret2
        rw [HX2.out]
        exact ⟨rfl, h2, keepBr hK' k2⟩

/-! ### Decode -/

/-- What Decode leaves. -/
def DecR (w : World) (br : Nat) (O : Nat → Prop) (l : List UInt8) (d : Dec) (e : Ending) (w' : World) : Prop :=
  e = .returned (.tuple #[instV d.op d.a d.b, .int .i64 d.er]) ∧ V.ReelAt w' br O l d.pl ∧ Keep (fun k => k = br) w w'
theorem dec_case (k : Int) (l : List UInt8) (p : Nat) : ∃ (a : Int) (r q : Nat), decP k l p = (a, r, q) := ⟨_, _, _, rfl⟩
theorem read_at (k : Int) (v : Value) (w : World) (br : Nat) (O : Nat → Prop) (l : List UInt8) (p : Nat) (a : Int) (r q : Nat) (hd : decP k l p = (a, r, q)) (hv : ∃ sh gu, v = opV k sh gu) (h : V.ReelAt w br O l p) (hlen : l.length ≤ 140737488355328) :
    Calls Tryz.prog 199 #[v, .pointer (some ⟨br, 0, none⟩)] w (V.Reads w br O l q (.int .i64 a) r) := by
  obtain ⟨sh, gu, rfl⟩ := hv
  have := read_any k sh gu w br O l p h hlen
  rw [hd] at this
  exact this
theorem out3 {w w1 : World} {br B : Nat} (hk : Keep (fun k => k = br) w w1) (hB : w.heap.size ≤ B) (u0 u1 u2 : Value) : Keep (fun k => k = br) w (((w1.setCell ⟨B, 0, none⟩ u0).setCell ⟨B, 1, none⟩ u1).setCell ⟨B, 2, none⟩ u2) := by
  have hn : ∀ i, (⟨B, i, none⟩ : Addr).block < w.heap.size → (⟨B, i, none⟩ : Addr).block = br := fun i hl => by have : B < w.heap.size := hl; omega
  exact ((hk.setCell (hn 0) _).setCell (hn 1) _).setCell (hn 2) _
theorem reel3 {w : World} {br B p : Nat} {O : Nat → Prop} {l : List UInt8} (h : V.ReelAt w br O l p) (hB : ¬ O B) (u0 u1 u2 : Value) : V.ReelAt (((w.setCell ⟨B, 0, none⟩ u0).setCell ⟨B, 1, none⟩ u1).setCell ⟨B, 2, none⟩ u2) br O l p := by
  have hs : ∀ (w : World) i u, V.ReelAt w br O l p → V.ReelAt (w.setCell ⟨B, i, none⟩ u) br O l p := fun w i u h =>
    h.keep (O' := fun k => k = B) (Keep.setCell (O := fun k => k = B) (p := ⟨B, i, none⟩) (Keep.refl _ w) (fun _ => rfl) u) (fun k ho e => hB (e ▸ ho))
  exact hs _ 2 u2 (hs _ 1 u1 (hs _ 0 u0 h))
set_option maxHeartbeats 2000000 in
theorem decode_any (w : World) (br : Nat) (O : Nat → Prop) (l : List UInt8) (p : Nat) (hO : ∀ k, O k → k < w.heap.size) (h : V.ReelAt w br O l p) (hlen : l.length ≤ 140737488355328) :
    Calls Tryz.prog 183 #[.pointer (some ⟨br, 0, none⟩)] w (DecR w br O l (decI l p)) := by
  have hK := (Keep.refl NoB w).alloc (.cells #[.int .i64 0, .int .i64 0, .int .i64 0] 63)
  have h1 := h.keep hK (fun _ _ => id)
  have hb0 := Blk.new w 63 #[.int .i64 0, .int .i64 0, .int .i64 0]
  have hnB : ¬ O w.heap.size := fun ho => by have := hO _ ho; omega
  have hbr := reel_lt h
  have HS := Lib.hid (V.rnumber_any _ br O l p 29 h1 hlen)
  obtain ⟨n, r, q, hN, hN0, hN1⟩ := num_case l p 29
  rw [hN] at HS
  clear h h1 hO
  by_cases hr : r = 0
  · subst hr
    obtain ⟨hn1, hn2⟩ := hN0 rfl
    have hwn : IntKind.i64.wrap (n : Int) = (n : Int) := by simp [IntKind.wrap, IntKind.bits, IntKind.signed]; omega
    have hkk := kinds_ok (n : Int)
    have HKn := Lib.hid (fun w => kinds_any (n : Int) w)
    obtain ⟨a, r1, q1, hA⟩ := dec_case (rowAt n).ka l q
    have HOA := Lib.hid (fun w => op_gen (rowAt n).ka ⟨hkk.1, hkk.2.1⟩ w)
    have HRA := Lib.hid (fun v hv w h => read_at (rowAt n).ka v w br O l q a r1 q1 hA hv h hlen)
    have HOB := Lib.hid (fun w => op_gen (rowAt n).kb ⟨hkk.2.2.1, hkk.2.2.2⟩ w)
    have HDB := Lib.hid (fun p => dec_case (rowAt n).kb l p)
    have HRB := Lib.hid (fun p b r2 q2 hB v hv w h => read_at (rowAt n).kb v w br O l p b r2 q2 hB hv h hlen)
    have HD2 := Lib.hid (fun hr => decI_2 (l := l) (p := p) hN hA hr)
    have HD3 := Lib.hid (fun (hr : r1 = 0) b r2 q2 hB hr2 => decI_3 (l := l) (p := p) (b := b) (r2 := r2) (q2 := q2) hN (by rw [hA, hr]) hB hr2)
    have HD4 := Lib.hid (fun (hr : r1 = 0) b q2 hB => decI_4 (l := l) (p := p) (b := b) (q2 := q2) hN (by rw [hA, hr]) hB)
    clear hN0 hN1 hkk hA hN
    generalize (rowAt (n : Int)).ka = ka at *
    generalize (rowAt (n : Int)).kb = kb at *
    go_enter Tryz.func183, Tryz.ntmps183
    go_wp2_with fail
    refine HS.out.mono ?_
    rintro e w1 ⟨rfl, h2, k2⟩
    replace hb0 := hb0.keep k2 (fun e => by omega)
    replace hK := keepBr hK k2
    clear k2
    go_wp2_with fail
    refine (HKn.out _).mono ?_
    rintro e w2 ⟨rfl, k2⟩
    replace hb0 := hb0.keep k2 id
    replace hK := hK.trans (k2.mono (fun _ hf _ => hf.elim)) (fun _ ho _ => ho)
    replace h2 := h2.keep k2 (fun _ _ => id)
    clear k2
    go_wp2_with fail
    refine (HOA.out _).mono ?_
    rintro e w3 ⟨u, rfl, hu, k2⟩
    replace hb0 := hb0.keep k2 id
    replace hK := hK.trans (k2.mono (fun _ hf _ => hf.elim)) (fun _ ho _ => ho)
    replace h2 := h2.keep k2 (fun _ _ => id)
    clear k2
    go_wp2_with fail
    refine (HRA.out u hu _ h2).mono ?_
    rintro e w4 ⟨rfl, h3, k2⟩
    replace hb0 := hb0.keep k2 (fun e => by omega)
    replace hK := hK.trans k2 (fun _ ho _ => ho)
    clear k2 h2 hu
    by_cases hr1 : r1 = 0
    · subst hr1
      obtain ⟨b, r2, q2, hB⟩ := HDB.out q1
      have HRB2 := Lib.hid (HRB.out q1 b r2 q2 hB)
      go_wp2_with fail
      refine (HOB.out _).mono ?_
      rintro e w5 ⟨u2, rfl, hu2, k2⟩
      replace hb0 := hb0.keep k2 id
      replace hK := hK.trans (k2.mono (fun _ hf _ => hf.elim)) (fun _ ho _ => ho)
      replace h3 := h3.keep k2 (fun _ _ => id)
      clear k2
      go_wp2_with fail
      refine (HRB2.out u2 hu2 _ h3).mono ?_
      rintro e w6 ⟨rfl, h4, k2⟩
      replace hb0 := hb0.keep k2 (fun e => by omega)
      replace hK := hK.trans k2 (fun _ ho _ => ho)
      clear k2 h3 hu2 HRB2 HRB
      have hz := hb0.lt
      have f0 := fun i => hb0.frozen i
      by_cases hr2 : r2 = 0
      · subst hr2
        have HX := Lib.hid (HD4.out (by first | rfl | trivial) b q2 hB)
        clear HD2 HD3 HD4 hB
        obtain ⟨x0, x1, x2⟩ := blk_inst hb0
        go_wp2
        refine bodyPost_ret (v := .tuple #[instV n a b, .int .i64 0]) (by simp [results, Tryz.results183, go_sem, x0, x1, x2]) rfl ?_
        rw [HX.out]
        exact ⟨rfl, reel3 h4 hnB _ _ _, out3 hK (Nat.le_refl _) _ _ _⟩
      · have HX := Lib.hid (HD3.out (by first | rfl | trivial) b r2 q2 hB hr2)
        have hr3 : ((r2 : Int) != 0) = true := by rw [bne_iff_ne]; omega
        clear HD2 HD3 HD4 hB hr2
        obtain ⟨x0, x1, x2⟩ := blk_inst hb0
        go_wp2
        refine bodyPost_ret (v := .tuple #[instV 0 0 0, .int .i64 r2]) (by simp [results, Tryz.results183, go_sem, x0, x1, x2]) rfl ?_
        rw [HX.out]
        exact ⟨rfl, reel3 h4 hnB _ _ _, out3 hK (Nat.le_refl _) _ _ _⟩
    · have HX := Lib.hid (HD2.out hr1)
      have hr3 : ((r1 : Int) != 0) = true := by rw [bne_iff_ne]; omega
      clear HD2 HD3 HD4 hr1 HOB HRB HDB HRA HOA
      have hz := hb0.lt
      have f0 := fun i => hb0.frozen i
      obtain ⟨x0, x1, x2⟩ := blk_inst hb0
      go_wp2
      refine bodyPost_ret (v := .tuple #[instV 0 0 0, .int .i64 r1]) (by simp [results, Tryz.results183, go_sem, x0, x1, x2]) rfl ?_
      rw [HX.out]
      exact ⟨rfl, reel3 h3 hnB _ _ _, out3 hK (Nat.le_refl _) _ _ _⟩
  · have HX := Lib.hid (decI_1 hN hr)
    have hr3 : ((r : Int) != 0) = true := by rw [bne_iff_ne]; omega
    clear hN0 hN1 hN hr
    go_enter Tryz.func183, Tryz.ntmps183
    go_wp2_with fail
    refine HS.out.mono ?_
    rintro e w1 ⟨rfl, h2, k2⟩
    replace hb0 := hb0.keep k2 (fun e => by omega)
    replace hK := keepBr hK k2
    clear k2
    have hz := hb0.lt
    have f0 := fun i => hb0.frozen i
    obtain ⟨x0, x1, x2⟩ := blk_inst hb0
    go_wp2
    refine bodyPost_ret (v := .tuple #[instV 0 0 0, .int .i64 r]) (by simp [results, Tryz.results183, go_sem, x0, x1, x2]) rfl ?_
    rw [HX.out]
    exact ⟨rfl, reel3 h2 hnB _ _ _, out3 hK (Nat.le_refl _) _ _ _⟩

end Go.Proofs.YtgifflfjhockaaaGreatDoor.O

namespace Go.Proofs.YtgifflfjhockaaaGreatDoor.O
open Go.RowKit

end Go.Proofs.YtgifflfjhockaaaGreatDoor.O

namespace Go.Proofs.YtgifflfjhockaaaGreatDoor.C
open Go.RowKit O

/-- What is read: the list, the error, the place. -/
def decL (l : List UInt8) (p : Nat) : List I3 := match decB l p with
  | none => []
  | some x => x.1
def decE (l : List UInt8) (p : Nat) : Int := match decB l p with
  | none => 50
  | some _ => 0
def decQ (l : List UInt8) (p : Nat) : Nat := match decB l p with
  | none => 0
  | some x => x.2
theorem dec_no {l : List UInt8} {p : Nat} (h : decB l p = none) : decL l p = [] ∧ decE l p = 50 := by unfold decL decE; rw [h]; exact ⟨rfl, rfl⟩
theorem dec_yes {l : List UInt8} {p q : Nat} {xs : List I3} (h : decB l p = some (xs, q)) : decL l p = xs ∧ decE l p = 0 ∧ decQ l p = q := by unfold decL decE decQ; rw [h]; exact ⟨rfl, rfl, rfl⟩
theorem decB_1 {l : List UInt8} {p n r q : Nat} (h : V.NumR l p 512 = (n, r, q)) (hr : r ≠ 0) : decB l p = none := by unfold decB; rw [h]; exact if_pos hr
theorem decB_2 {l : List UInt8} {p n q : Nat} (h : V.NumR l p 512 = (n, 0, q)) : decB l p = bodyOf (fwd l q n) := by unfold decB; rw [h]; exact if_neg (fun h => h rfl)
theorem body_ok {xs : List I3} {q : Nat} (h : okB xs = true) : bodyOf (some (xs, q)) = some (xs, q) := if_pos h
theorem body_no {xs : List I3} {q : Nat} (h : okB xs = false) : bodyOf (some (xs, q)) = none := if_neg (by rw [h]; decide)
/-- How Decode ends. -/
def BdyR (w : World) (br : Nat) (At : World → Nat → Prop) (xs : List I3) (E : Int) (Q : Nat) (e : Ending) (w' : World) : Prop :=
  ∃ v q, e = .returned (.tuple #[v, .int .i64 E]) ∧ Own w' 63 3 (Fresh w) v xs.length (iis xs) ∧ At w' q ∧ (E = 0 → q = Q) ∧ Keep (fun k => k = br) w w'
theorem bdy_none {w w' : World} {br Q q : Nat} {At : World → Nat → Prop} (h : At w' q) (hk : Keep (fun k => k = br) w w') : BdyR w br At [] 50 Q (.returned (.tuple #[.slice none 0 0, .int .i64 50])) w' :=
  ⟨_, q, rfl, Own.nil _ _ _ _, h, fun e => absurd e (by decide), hk⟩
/-- Three cells put at an element's place. -/
theorem wpList_put3 {ops : Array Oper} {rest : List Oper} {o : Oper} {a : Act} {w : World} {Q : Exit → Act → World → Prop} (hgd : o.guard = none) (x y : Operand) (ho : o.op = .store 63 x y)
    {g k : Nat} {xs : List I3} {u0 u1 u2 : Value} {r : List Value} (hB : Blk w g 63 (iis xs ++ u0 :: u1 :: u2 :: r).toArray) (hk : xs.length = k) (op av bv : Int)
    (hx : a.eval x = .pointer (some ⟨g, k * 3, none⟩)) (hy : a.eval y = instV op av bv)
    (h : ∀ w', Blk w' g 63 (iis (xs ++ [(op, av, bv)]) ++ r).toArray → Keep (fun b => b = g) w w' → wpList Tryz.prog ops Q rest (a.put o.dst undef) w') : wpList Tryz.prog ops Q (o :: rest) a w := by
  refine wpList_plain hgd fun K hK => ?_
  have hst := run_storeCells_at Tryz.prog g (k * 3) 63 [.int .i64 op, .int .i64 av, .int .i64 bv] 0 _ w hB (by rw [← hk]; simp [iis_length]) (by simp [Value.oneCell'])
  have e : (iis xs ++ u0 :: u1 :: u2 :: r).take (k * 3 + 0) ++ [.int .i64 op, .int .i64 av, .int .i64 bv] ++ (iis xs ++ u0 :: u1 :: u2 :: r).drop (k * 3 + 0 + 3) = iis (xs ++ [(op, av, bv)]) ++ r := by
    have hl : (iis xs).length = k * 3 := by rw [iis_length, hk]
    rw [Nat.add_zero, ← hl, List.take_left', List.drop_length_add_append, iis_append, iis_one] <;> rfl
  simp only [List.length_cons, List.length_nil, Nat.zero_add, Nat.reduceAdd] at hst
  rw [e] at hst
  obtain ⟨i0, hi, hz0, hz1, hz2⟩ := info_parts instr_info
  have hrun : (storeVar 63 ⟨g, k * 3, none⟩ (instV op av bv)).run Tryz.prog w = .ok () (w.setRow g (iis (xs ++ [(op, av, bv)]) ++ r).toArray) := by
    simp [storeVar, sizeOf, typeInfo, hi, hz1, Value.cells, hst]
  unfold Oper.wp execOp
  simp only [ho, hx, hy, Instr.storeAt, Instr.sureAddr, Sem.run_bind, Sem.run_pure, Result.andThen_ok, hrun]
  exact hK _ _ (h _ (setRow_heap w g _ _ _ _ hB) ⟨rfl, rfl, rfl, by simp, fun b _ hne => setRow_other w g b _ hne⟩)
theorem three {rest : List Value} {m : Nat} (h : rest.length = m * 3) (h0 : 0 < m) : ∃ u0 u1 u2 r, rest = u0 :: u1 :: u2 :: r ∧ r.length = (m - 1) * 3 := by
  match rest, h with
  | [], h => simp at h; omega
  | [_], h => simp at h; omega
  | [_, _], h => simp at h; omega
  | u0 :: u1 :: u2 :: r, h => exact ⟨u0, u1, u2, r, rfl, by simp at h; omega⟩
theorem made_blk {w w1 : World} {n : Nat} {zs : List Value} (hrow : w1.ownsRow 0 63 3 (.slice (some ⟨w.heap.size, 0, none⟩) n n) n zs) : ∃ rest : List Value, rest.length = n * 3 ∧ Blk w1 w.heap.size 63 (iis [] ++ rest).toArray := by
  obtain ⟨h3, h4⟩ := hrow
  rcases h4 with ⟨h4, _⟩ | ⟨g, cap, cur, h4, _, h6, _, _, h7, _⟩
  · cases h4
  · injection h4 with h4 _ h8
    injection h4 with h4
    injection h4 with h4 _ _
    subst h4 h8
    exact ⟨cur.toList, by simpa using h7, by rw [iis_nil, List.nil_append, Array.toArray_toList]; exact h6⟩

set_option maxRecDepth 100000 in
set_option maxHeartbeats 4000000 in
theorem cdecode_any (w : World) (br : Nat) (Ob : Nat → Prop) (l : List UInt8) (p : Nat) (hO : ∀ k, Ob k → k < w.heap.size) (h : V.ReelAt w br Ob l p) (hlen : l.length ≤ 140737488355328) :
    Calls Tryz.prog 139 #[.pointer (some ⟨br, 0, none⟩)] w (BdyR w br (fun w' q => V.ReelAt w' br Ob l q) (decL l p) (decE l p) (decQ l p)) := by
  have hbr := O.reel_lt h
  have HS := Lib.hid (V.rnumber_any w br Ob l p 512 h hlen)
  obtain ⟨n, r, q, hN, hN0, hN1⟩ := num_case l p 512
  rw [hN] at HS
  clear h
  by_cases hr : r = 0
  · subst hr
    obtain ⟨hn1, hn2⟩ := hN0 rfl
    have HD := Lib.hid (decB_2 hN)
    obtain ⟨i0, hi, hz0, hz1, hz2⟩ := info_parts instr_info
    have HO := Lib.hid hO
    clear hN0 hN1 hN hO
    go_enter Tryz.func139, Tryz.ntmps139
    go_wp2_with fail
    refine HS.out.mono ?_
    rintro e w1 ⟨rfl, h1, k1⟩
    have gs := k1.size
    go_wp2_with (at_make; refine wpList_make_full _ rfl _ _ 59 rfl 0 63 i0 _ 3 Tryz.underlying59 hi hz0 hz1 _ _ _ _ n rfl rfl rfl rfl (by rw [hz2]; omega) (by unfold maxLen; omega) (Nat.zero_le _) ?_; intro w2 hrow2 hg2; obtain ⟨rest, hrl, hB2⟩ := made_blk hrow2; have k2 : Keep NoB w1 w2 := (Keep.refl NoB w1).grown hg2 (fun g e _ => by cases e); clear hrow2 hg2)
    have h2 := h1.keep k2 (fun _ _ => id)
    have gK : Keep (fun k => k = br) w w2 := k1.trans (k2.mono (fun _ hf _ => hf.elim)) (fun _ ho _ => ho)
    clear h1 k1 k2
    go_loopw [19] (fun i wr => ∃ k : Nat, k ≤ n ∧ i = .int .i64 k ∧ ∃ xs qk rest, fwd l q k = some (xs, qk) ∧ rest.length = (n - k) * 3 ∧ Blk wr w1.heap.size 63 (iis xs ++ rest).toArray ∧ V.ReelAt wr br Ob l qk ∧ Keep (fun k => k = br) w wr) (fun i _ => n - (intOf i).toNat)
    case atStart => exact ⟨0, Nat.zero_le _, rfl, [], q, rest, rfl, hrl, hB2, h2, gK⟩
    case round =>
      clear hB2 h2 gK hrl
      obtain ⟨k, hk, rfl, xs, qk, rest, hf, hrl, hB, hA, hK⟩ := hrel
      obtain ⟨_, _, hxl, _⟩ := fwd_ok k hf
      by_cases hlt : k < n
      · obtain ⟨u0, u1, u2, r, rfl, hrl2⟩ := three hrl (by omega)
        have HE := Lib.hid (O.decode_any wr br Ob l qk (fun k h => Nat.lt_of_lt_of_le (HO.out k h) hK.size) hA hlen)
        have HF := Lib.hid (fun he => fwd_step hf he)
        have HG := Lib.hid (fun he => fwd_none (fwd_stop hf he) n (by omega))
        obtain ⟨y, hy⟩ : ∃ y, d3 l qk = y := ⟨_, rfl⟩
        have e0 : ∃ op a b er pl, decI l qk = ⟨op, a, b, er, pl⟩ := ⟨_, _, _, _, _, rfl⟩
        obtain ⟨op, a, b, er, pl, e0⟩ := e0
        have hy2 : d3 l qk = (op, a, b) := by unfold d3; rw [e0]
        rw [e0] at HE HG
        rw [e0, hy2] at HF
        dsimp only at HE HF HG
        clear hf hA hy hy2 e0
        go_wp2_with fail
        refine HE.out.mono ?_
        rintro e w4 ⟨rfl, h4, k4⟩
        dsimp only at h4
        have hB4 := hB.keep k4 (fun e => by omega)
        have hK4 := hK.trans k4 (fun _ ho _ => ho)
        clear hB hK k4
        have hgo : ∀ k, Ob k → ¬ (k = w1.heap.size) := fun k h e => by have := HO.out k h; omega
        have gs4 := hK4.size
        by_cases he : er = 0
        · subst he
          go_wp2_with (refine wpList_put3 rfl _ _ rfl hB4 hxl op a b rfl rfl ?_; intro w6 hB6 k6)
          go_roundw
          case rel => exact ⟨k + 1, by omega, by go_num, xs ++ [(op, a, b)], pl, r, HF.out (by first | rfl | trivial), by omega, hB6, h4.keep k6 hgo, hK4.trans k6 (fun b e hl => by omega)⟩
          case measure => simp [intOf]; omega
        · have hr3 : ((er : Int) != 0) = true := by rw [bne_iff_ne]; omega
          have HD2 := Lib.hid (dec_no (l := l) (p := p) (by rw [HD.out, HG.out he]; rfl))
          go_wp2_with (refine wpList_put3 rfl _ _ rfl hB4 hxl op a b rfl rfl ?_; intro w6 hB6 k6)
          go_ret2
          rw [HD2.out.1, HD2.out.2]
          exact bdy_none (h4.keep k6 hgo) (hK4.trans k6 (fun b e hl => by omega))
      · obtain rfl : k = n := by omega
        obtain rfl : rest = [] := List.length_eq_zero_iff.1 (by rw [hrl]; omega)
        rw [List.append_nil] at hB
        rw [hf] at HD
        have hxh := Lib.hid hxl
        have HI := Lib.hid (fun w h => ifBody_any (some ⟨w1.heap.size, 0, none⟩) xs k k w h hxh (by omega))
        have hown : Own wr 63 3 (Fresh w) (.slice (some ⟨w1.heap.size, 0, none⟩) k k) k (iis xs) := by
          have := row_take hB hxl (Nat.le_refl k) (by omega)
          rw [List.take_of_length_le (by omega)] at this
          exact ⟨this, fun g e => by cases e; exact gs⟩
        have hrd : Rd wr (some ⟨w1.heap.size, 0, none⟩) (iis xs) := by
          obtain ⟨A', c', e, _, _, hr, _⟩ := hown.form
          cases e; exact hr
        clear hf hrl hB hxl
        go_wp2_with (go_at_call 184; refine (HI.out _ hrd).mono ?_; rintro e w5 ⟨rfl, k5⟩)
        have hA5 := hA.keep k5 (fun _ _ => id)
        have hK5 : Keep (fun k => k = br) w w5 := hK.trans (k5.mono (fun _ hf _ => hf.elim)) (fun _ ho _ => ho)
        go_ret2
        cases ho : okB xs
        · obtain ⟨e1, e2⟩ := dec_no (l := l) (p := p) (by rw [HD.out, body_no ho])
          rw [e1, e2, ifV_no ho, chkB_no ho]
          exact bdy_none hA5 hK5
        · obtain ⟨e1, e2, e3⟩ := dec_yes (l := l) (p := p) (by rw [HD.out, body_ok ho])
          rw [e1, e2, e3, ifV_ok ho, chkB_ok ho]
          exact ⟨_, qk, rfl, by rw [hxh.out]; exact hown.keepN k5, hA5, fun _ => rfl, hK5⟩
  · obtain ⟨e1, e2⟩ := dec_no (decB_1 hN hr)
    rw [e1, e2]
    have hr3 : ((r : Int) != 0) = true := by rw [bne_iff_ne]; omega
    clear hN0 hN1 hN hr e1 e2
    go_enter Tryz.func139, Tryz.ntmps139
    go_wp2_with fail
    refine HS.out.mono ?_
    rintro e w1 ⟨rfl, h1, k1⟩
    go_wp2
    go_ret2
    exact bdy_none h1 k1

end Go.Proofs.YtgifflfjhockaaaGreatDoor.C

namespace Go.Proofs.YtgifflfjhockaaaGreatDoor.C
open Go.RowKit O

/-- The numbers of what is read fit. -/
theorem ok1_I {x : I3} (h : ok1 x = true) : O.I64 x.2.1 ∧ O.I64 x.2.2 := ⟨(in_bounds (ok_op h).2.1).1, (in_bounds (ok_op h).2.2).1⟩
end Go.Proofs.YtgifflfjhockaaaGreatDoor.C

namespace Go.Proofs.YtgifflfjhockaaaGreatDoor.F
open Go.RowKit W

/-- A function whose lists are owned: each lies in a block of P. -/
structure OwnF (W : World) (P : Nat → Prop) (v : FV) (f : Fu) : Prop where
  nm : v.S.data.toList = f.nm
  oa : Own W 3 1 P (.slice v.A v.na v.ca) v.na (ivs f.ar)
  ob : Own W 3 1 P (.slice v.B v.nb v.cb) v.nb (ivs f.rs)
  ol : Own W 3 1 P (.slice v.L v.nl v.cl) v.nl (ivs f.lc)
  od : Own W 63 3 P (.slice v.D v.nd v.cd) v.nd (C.iis f.bd)
  hI : C.AllI f.bd
theorem OwnF.keep {W W' : World} {P O : Nat → Prop} {v : FV} {f : Fu} (h : OwnF W P v f) (hk : Keep O W W') (hn : ∀ k, P k → ¬ O k) : OwnF W' P v f :=
  ⟨h.nm, h.oa.keep hk hn, h.ob.keep hk hn, h.ol.keep hk hn, h.od.keep hk hn, h.hI⟩
theorem OwnF.keepN {W W' : World} {P : Nat → Prop} {v : FV} {f : Fu} (h : OwnF W P v f) (hk : Keep NoB W W') : OwnF W' P v f := h.keep hk (fun _ _ => id)
theorem OwnF.mono {W : World} {P P' : Nat → Prop} {v : FV} {f : Fu} (h : OwnF W P v f) (hP : ∀ k, P k → k < W.heap.size → P' k) : OwnF W P' v f :=
  ⟨h.nm, h.oa.mono hP, h.ob.mono hP, h.ol.mono hP, h.od.mono hP, h.hI⟩
theorem own_rdS {w : World} {E size n : Nat} {P : Nat → Prop} {A : Option Addr} {c : Nat} {xs : List Value} (h : Own w E size P (.slice A n c) n xs) : Rd w A xs := by
  obtain ⟨A', c', e, _, _, hr, _⟩ := h.form
  injection e with e1 e2 e3
  subst e1; exact hr
theorem own_lenD {w : World} {O : Nat → Prop} {v : Value} {l : List C.I3} {n : Nat} (h : Own w 63 3 O v n (C.iis l)) : l.length = n := by have := h.1.1; rw [C.iis_length] at this; omega
theorem OwnF.fn {W : World} {P : Nat → Prop} {v : FV} {f : Fu} (h : OwnF W P v f) : FnAt W v f :=
  ⟨h.nm, own_rdS h.oa, own_rdS h.ob, own_rdS h.ol, own_rdS h.od, own_len h.oa, own_len h.ob, own_len h.ol, own_lenD h.od, h.hI⟩
/-- What has been read so far. -/
structure Prt (w0 : World) (F : Nat) (O : Nat → Prop) (At : World → Nat → Prop) (f : Fu) (q : Nat) (v : FV) (W : World) : Prop where
  blk : Blk W F 61 v.cells
  own : OwnF W (Fresh w0) v f
  at_ : At W q
  keep : Keep (fun k => k = F ∨ O k) w0 W
theorem Prt.put {w0 W w1 W' : World} {F q q' : Nat} {O : Nat → Prop} {At : World → Nat → Prop} {f f' : Fu} {v v' : FV} (h : Prt w0 F O At f q v W) (hF : F < w0.heap.size)
    (hAt : ∀ w w' q, At w q → Keep (fun k => k = F) w w' → At w' q) (k1 : Keep O W w1) (hv : OwnF w1 (Fresh w0) v' f') (hat : At w1 q') (k2 : Keep (fun k => k = F) w1 W') (hb : Blk W' F 61 v'.cells) : Prt w0 F O At f' q' v' W' :=
  ⟨hb, hv.keep k2 (fun k hk e => by subst e; unfold Fresh at hk; omega), hAt _ _ _ hat k2, (h.keep.trans k1 (fun k ho _ => .inr ho)).trans k2 (fun k e _ => .inl e)⟩

/-- The function so far, part by part. -/
def stN (l : List UInt8) (x : Fu × Nat) : Option (Fu × Nat) := (nmR l x.2).map fun a => ({ x.1 with nm := a.1 }, a.2)
def stG (l : List UInt8) (x : Fu × Nat) : Option (Fu × Nat) := (S.decG l x.2).map fun g => ({ x.1 with ar := g.1.1, rs := g.1.2 }, g.2)
def stL (l : List UInt8) (x : Fu × Nat) : Option (Fu × Nat) := (lcR l x.2).map fun c => ({ x.1 with lc := c.1 }, c.2)
def stB (l : List UInt8) (x : Fu × Nat) : Option (Fu × Nat) := (C.decB l x.2).map fun d => ({ x.1 with bd := d.1 }, d.2)
def st (l : List UInt8) (p : Nat) : Nat → Option (Fu × Nat)
  | 0 => some (nilF, p)
  | 1 => (some (nilF, p)).bind (stN l)
  | 2 => ((some (nilF, p)).bind (stN l)).bind (stG l)
  | 3 => (((some (nilF, p)).bind (stN l)).bind (stG l)).bind (stL l)
  | _ => ((((some (nilF, p)).bind (stN l)).bind (stG l)).bind (stL l)).bind (stB l)
theorem st_none {l : List UInt8} {p i : Nat} (hi : i < 4) (h : st l p (i + 1) = none) : st l p 4 = none := by
  have hi : i = 0 ∨ i = 1 ∨ i = 2 ∨ i = 3 := by omega
  rcases hi with rfl | rfl | rfl | rfl
  · show ((((some (nilF, p)).bind (stN l)).bind (stG l)).bind (stL l)).bind (stB l) = none
    rw [show (some (nilF, p)).bind (stN l) = none from h]; rfl
  · show ((((some (nilF, p)).bind (stN l)).bind (stG l)).bind (stL l)).bind (stB l) = none
    rw [show ((some (nilF, p)).bind (stN l)).bind (stG l) = none from h]; rfl
  · show ((((some (nilF, p)).bind (stN l)).bind (stG l)).bind (stL l)).bind (stB l) = none
    rw [show (((some (nilF, p)).bind (stN l)).bind (stG l)).bind (stL l) = none from h]; rfl
  · exact h
theorem decF_st (l : List UInt8) (p : Nat) : decF l p = (st l p 4).bind fun x => ifF x.1 x.2 := by
  show decF l p = (((((some (nilF, p)).bind (stN l)).bind (stG l)).bind (stL l)).bind (stB l)).bind fun x => ifF x.1 x.2
  simp only [Option.bind_some, stN]
  cases h1 : nmR l p with
  | none => rw [decF_1 h1]; rfl
  | some a =>
    simp only [Option.map_some, Option.bind_some, stG]
    cases h2 : S.decG l a.2 with
    | none => rw [decF_2 h1 h2]; rfl
    | some g =>
      simp only [Option.map_some, Option.bind_some, stL]
      cases h3 : lcR l g.2 with
      | none => rw [decF_3 h1 h2 h3]; rfl
      | some c =>
        simp only [Option.map_some, Option.bind_some, stB]
        cases h4 : C.decB l c.2 with
        | none => rw [decF_4 h1 h2 h3 h4]; rfl
        | some d => rw [decF_5 h1 h2 h3 h4]; rfl
theorem st_small {l : List UInt8} {p q : Nat} {f : Fu} (h : st l p 4 = some (f, q)) : f.nm.length ≤ 32 ∧ f.ar.length ≤ 64 ∧ f.rs.length ≤ 64 ∧ f.lc.length ≤ 64 ∧ f.bd.length ≤ 512 := by
  replace h : ((((some (nilF, p)).bind (stN l)).bind (stG l)).bind (stL l)).bind (stB l) = some (f, q) := h
  simp only [Option.bind_some, stN] at h
  cases h1 : nmR l p with
  | none => rw [h1] at h; cases h
  | some a =>
    rw [h1] at h
    simp only [Option.map_some, Option.bind_some, stG] at h
    cases h2 : S.decG l a.2 with
    | none => rw [h2] at h; cases h
    | some g =>
      rw [h2] at h
      simp only [Option.map_some, Option.bind_some, stL] at h
      cases h3 : lcR l g.2 with
      | none => rw [h3] at h; cases h
      | some c =>
        rw [h3] at h
        simp only [Option.map_some, Option.bind_some, stB] at h
        cases h4 : C.decB l c.2 with
        | none => rw [h4] at h; cases h
        | some d =>
          rw [h4] at h
          simp only [Option.map_some] at h
          injection h with h
          injection h with e1 e2
          subst e1
          obtain ⟨a, qa⟩ := a
          obtain ⟨⟨ga, gr⟩, qg⟩ := g
          obtain ⟨c, qc⟩ := c
          obtain ⟨d, qd⟩ := d
          obtain ⟨_, _, n1, _⟩ := nmR_ok h1
          have g1 := ((S.okG_iff _ _).1 (S.decG_ok h2).1).1
          have c1 := ((S.okG_iff _ _).1 (S.decG_ok (lcR_ok h3)).1).1
          have d1 := (C.okB_parts (C.decB_ok h4).1).2.1
          dsimp only
          rw [List.length_nil] at c1
          exact ⟨n1, by omega, by omega, by omega, d1⟩

/-- What DecodeSignature and code.Decode answer, in the readers' words. -/
def SgG (w : World) (At : World → Nat → Prop) (R : Option ((List Int × List Int) × Nat)) (A : Option Addr) (n c : Nat) (B : Option Addr) (m d : Nat) (E : Int) (w' : World) : Prop :=
  (R = none ∧ E ≠ 0 ∧ ∃ q, At w' q) ∨ (∃ a r q, R = some ((a, r), q) ∧ E = 0 ∧ Own w' 3 1 (Fresh w) (.slice A n c) n (ivs a) ∧ Own w' 3 1 (Fresh w) (.slice B m d) m (ivs r) ∧ At w' q)
theorem sgG_of {w w' : World} {br : Nat} {At : World → Nat → Prop} {R : Option ((List Int × List Int) × Nat)} {e : Ending} (h : S.SigR w br At R e w') :
    ∃ A n c B m d E, e = .returned (.tuple #[.agg #[.slice A n c, .slice B m d], .int .i64 E]) ∧ SgG w At R A n c B m d E w' ∧ Keep (fun k => k = br) w w' := by
  obtain ⟨v1, v2, q, rfl, h1, h2, h3, h4, hk⟩ := h
  obtain ⟨A1, c1, rfl, _⟩ := h1.form
  obtain ⟨A2, c2, rfl, _⟩ := h2.form
  cases R with
  | none => exact ⟨_, _, _, _, _, _, _, rfl, .inl ⟨rfl, (by decide : (61 : Int) ≠ 0), q, h3⟩, hk⟩
  | some x =>
    obtain ⟨⟨a, r⟩, y⟩ := x
    obtain rfl := h4 _ rfl
    exact ⟨_, _, _, _, _, _, _, rfl, .inr ⟨a, r, _, rfl, rfl, h1, h2, h3⟩, hk⟩
def BdG (w : World) (At : World → Nat → Prop) (R : Option (List C.I3 × Nat)) (A : Option Addr) (n c : Nat) (E : Int) (w' : World) : Prop :=
  (R = none ∧ E ≠ 0 ∧ ∃ q, At w' q) ∨ (∃ xs q, R = some (xs, q) ∧ E = 0 ∧ Own w' 63 3 (Fresh w) (.slice A n c) n (C.iis xs) ∧ C.AllI xs ∧ At w' q)
theorem bdG_of {w w' : World} {br : Nat} {At : World → Nat → Prop} {l : List UInt8} {p : Nat} {e : Ending} (h : C.BdyR w br At (C.decL l p) (C.decE l p) (C.decQ l p) e w') :
    ∃ A n c E, e = .returned (.tuple #[.slice A n c, .int .i64 E]) ∧ BdG w At (C.decB l p) A n c E w' ∧ Keep (fun k => k = br) w w' := by
  obtain ⟨v, q, rfl, h1, h3, h4, hk⟩ := h
  obtain ⟨A1, c1, rfl, _⟩ := h1.form
  cases hd : C.decB l p with
  | none => exact ⟨_, _, _, _, rfl, .inl ⟨rfl, by rw [(C.dec_no hd).2]; decide, q, h3⟩, hk⟩
  | some x =>
    obtain ⟨xs, y⟩ := x
    obtain ⟨e1, e2, e3⟩ := C.dec_yes hd
    obtain rfl : q = y := (h4 e2).trans e3
    rw [e1] at h1 ⊢
    exact ⟨_, _, _, _, rfl, .inr ⟨xs, _, rfl, e2, h1, fun y hy => C.ok1_I (List.all_eq_true.1 (C.all_ok1 (C.decB_ok hd).1) y hy), h3⟩, hk⟩

/-- Not all could be read. -/
def Bad (w0 : World) (F : Nat) (O : Nat → Prop) (At : World → Nat → Prop) (W : World) : Prop := (∃ q, At W q) ∧ Keep (fun k => k = F ∨ O k) w0 W
theorem ne0 {E : Int} (h : E ≠ 0) : (E == 0) = false := beq_eq_false_iff_ne.2 h
theorem keep_one (W : World) (F i : Nat) (u : Value) : Keep (fun k => k = F) W (W.setCell ⟨F, i, none⟩ u) := (Keep.refl (fun k => k = F) W).setCell (p := ⟨F, i, none⟩) (fun _ => rfl) u

set_option maxRecDepth 100000 in
set_option maxHeartbeats 4000000 in
theorem reading_any (w : World) (F br : Nat) (Ob : Nat → Prop) (l : List UInt8) (p : Nat) (v0 : FV) (hbr : Blk w F 61 v0.cells) (hv0 : OwnF w (Fresh w) v0 nilF) (hat : V.ReelAt w br Ob l p) (hO : ∀ k, Ob k → k < w.heap.size ∧ k ≠ F) (hlen : l.length ≤ 140737488355328)
    (g : Nat) (u0 u1 u2 u3 : Value) (hb : Blk w g 69 #[u0, u1, u2, u3])
    (a0 : RdV 176 195 196 (fnV 133) (some ⟨br, 0, none⟩) ⟨F, 0, none⟩ u0 w)
    (a1 : RdV 178 198 199 (fnV 135) (some ⟨br, 0, none⟩) ⟨F, 1, none⟩ u1 w)
    (a2 : RdV 181 201 202 (fnV 137) (some ⟨br, 0, none⟩) ⟨F, 3, none⟩ u2 w)
    (a3 : RdV 182 204 205 (fnV 139) (some ⟨br, 0, none⟩) ⟨F, 4, none⟩ u3 w) :
    Calls Tryz.prog 116 #[.slice (some ⟨g, 0, none⟩) 4 4] w fun e w' =>
      (e = .returned (.bool true) ∧ ∃ f q v, st l p 4 = some (f, q) ∧ Prt w F (fun k => k = br) (fun w' q => V.ReelAt w' br Ob l q) f q v w') ∨ (e = .returned (.bool false) ∧ st l p 4 = none ∧ Bad w F (fun k => k = br) (fun w' q => V.ReelAt w' br Ob l q) w') := by
  obtain ⟨c0, r0, q0, rfl, x0, y0, z0⟩ := a0
  obtain ⟨c1, r1, q1, rfl, x1, y1, z1⟩ := a1
  obtain ⟨c2, r2, q2, rfl, x2, y2, z2⟩ := a2
  obtain ⟨c3, r3, q3, rfl, x3, y3, z3⟩ := a3
  have hFl := hbr.lt
  have hOb := (hO br hat.1)
  obtain ⟨A0, C0, hrb, _⟩ := hat.cells
  have hAt : ∀ (w w' : World) (q : Nat), V.ReelAt w br Ob l q → Keep (fun k => k = F) w w' → V.ReelAt w' br Ob l q := fun w w' q h hk => h.keep hk (fun k h2 e => (hO k h2).2 e)
  have xF0 : c0 ≠ F := x0.ne hbr (by decide)
  have xR0 : c0 ≠ br := x0.ne hrb (by decide)
  have yF0 : r0 ≠ F := y0.ne hbr (by decide)
  have yR0 : r0 ≠ br := y0.ne hrb (by decide)
  have zF0 : q0 ≠ F := z0.ne hbr (by decide)
  have zR0 : q0 ≠ br := z0.ne hrb (by decide)
  have xF1 : c1 ≠ F := x1.ne hbr (by decide)
  have xR1 : c1 ≠ br := x1.ne hrb (by decide)
  have yF1 : r1 ≠ F := y1.ne hbr (by decide)
  have yR1 : r1 ≠ br := y1.ne hrb (by decide)
  have zF1 : q1 ≠ F := z1.ne hbr (by decide)
  have zR1 : q1 ≠ br := z1.ne hrb (by decide)
  have xF2 : c2 ≠ F := x2.ne hbr (by decide)
  have xR2 : c2 ≠ br := x2.ne hrb (by decide)
  have yF2 : r2 ≠ F := y2.ne hbr (by decide)
  have yR2 : r2 ≠ br := y2.ne hrb (by decide)
  have zF2 : q2 ≠ F := z2.ne hbr (by decide)
  have zR2 : q2 ≠ br := z2.ne hrb (by decide)
  have xF3 : c3 ≠ F := x3.ne hbr (by decide)
  have xR3 : c3 ≠ br := x3.ne hrb (by decide)
  have yF3 : r3 ≠ F := y3.ne hbr (by decide)
  have yR3 : r3 ≠ br := y3.ne hrb (by decide)
  have zF3 : q3 ≠ F := z3.ne hbr (by decide)
  have zR3 : q3 ≠ br := z3.ne hrb (by decide)
  have gF : g ≠ F := hb.ne hbr (by decide)
  have gR : g ≠ br := hb.ne hrb (by decide)
  have K0 : Prt w F (fun k => k = br) (fun w' q => V.ReelAt w' br Ob l q) nilF p v0 w := ⟨hbr, hv0, hat, Keep.refl _ _⟩
  refine (every_any (some ⟨g, 0, none⟩) [(176, #[.pointer (some ⟨c0, 0, none⟩), .pointer (some ⟨r0, 0, none⟩), .pointer (some ⟨q0, 0, none⟩)]), (178, #[.pointer (some ⟨c1, 0, none⟩), .pointer (some ⟨r1, 0, none⟩), .pointer (some ⟨q1, 0, none⟩)]), (181, #[.pointer (some ⟨c2, 0, none⟩), .pointer (some ⟨r2, 0, none⟩), .pointer (some ⟨q2, 0, none⟩)]), (182, #[.pointer (some ⟨c3, 0, none⟩), .pointer (some ⟨r3, 0, none⟩), .pointer (some ⟨q3, 0, none⟩)])] 4 4 w rfl (by decide) (fun i => (st l p (i + 1)).isSome)
    (fun i W => ∃ f q v, st l p i = some (f, q) ∧ Prt w F (fun k => k = br) (fun w' q => V.ReelAt w' br Ob l q) f q v W) (fun W => Bad w F (fun k => k = br) (fun w' q => V.ReelAt w' br Ob l q) W) ?hcf ?hr ?hq ⟨_, _, _, rfl, K0⟩).mono ?_
  case hcf =>
    intro q hq
    simp only [List.mem_cons, List.not_mem_nil, or_false] at hq
    rcases hq with rfl | rfl | rfl | rfl
    · exact enters_of Tryz.func176 (by kernel_rfl) rfl
    · exact enters_of Tryz.func178 (by kernel_rfl) rfl
    · exact enters_of Tryz.func181 (by kernel_rfl) rfl
    · exact enters_of Tryz.func182 (by kernel_rfl) rfl
  case hr =>
    rintro i W ⟨f, q, v, _, hP⟩ _
    refine ⟨g, 0, rfl, fun j u hu => ?_⟩
    rw [Nat.zero_add, (hb.keep hP.keep (fun e => e.elim gF gR)).cell j]
    simpa using hu
  case hq =>
    rintro i hi W ⟨f, q, v, hst, hP⟩
    have hOW : ∀ k, Ob k → k < W.heap.size := fun k hk => Nat.lt_of_lt_of_le (hO k hk).1 hP.keep.size
    have hfr : ∀ (w1 : World), Keep (fun k => k = br) W w1 → OwnF w1 (Fresh w) v f := fun w1 k1 => hP.own.keep k1 (fun k hk e => by unfold Fresh at hk; have := hOb.1; omega)
    have hfw : ∀ k, Fresh W k → Fresh w k := fun k hk => Nat.le_trans hP.keep.size hk
    have hi : i = 0 ∨ i = 1 ∨ i = 2 ∨ i = 3 := by simp at hi; omega
    rcases hi with rfl | rfl | rfl | rfl
    · have hst1 : st l p 1 = stN l (f, q) := by
        show (st l p 0).bind (stN l) = _
        rw [hst]; rfl
      refine (readStr_any 133 (enters_of Tryz.func133 (by kernel_rfl) rfl) (fun k => k = br) (some ⟨br, 0, none⟩) c0 r0 q0 F v W (x0.keep hP.keep (fun e => e.elim xF0 xR0)) (y0.keep hP.keep (fun e => e.elim yF0 yR0)) (z0.keep hP.keep (fun e => e.elim zF0 zR0)) hP.blk zR0 (fun e => hOb.2 e.symm)
        (NmG (fun w' q => V.ReelAt w' br Ob l q) (nmR l q)) (decName_any W br Ob l q hP.at_ hlen)).mono ?_
      rintro e W' ⟨x, E, w1, rfl, hG, k1, rfl⟩
      have hw1 := hfr w1 k1
      have hbk := hP.blk.keep k1 (fun e => hOb.2 e.symm)
      have k2 := keep_one w1 F 0 (.string x)
      have hb2 := hbk.put 0 (.string x)
      rcases hG with ⟨hn, hE, q1, h1⟩ | ⟨s, q1, hs, rfl, hS, h1⟩
      · have hs1 : st l p 1 = none := by rw [hst1]; unfold stN; dsimp only; rw [hn]; rfl
        refine ⟨by rw [ne0 hE, show (st l p (0 + 1)).isSome = false by rw [show 0 + 1 = 1 from rfl, hs1]; rfl], fun h => ?_, fun _ => ?_⟩
        · rw [show (st l p (0 + 1)).isSome = false by rw [show 0 + 1 = 1 from rfl, hs1]; rfl] at h; cases h
        · exact ⟨⟨q1, hAt _ _ _ h1 k2⟩, (hP.keep.trans k1 (fun k ho _ => .inr ho)).trans k2 (fun k e _ => .inl e)⟩
      · have hs1 : st l p 1 = some ({ f with nm := s }, q1) := by rw [hst1]; unfold stN; dsimp only; rw [hs]; rfl
        refine ⟨by rw [show (st l p (0 + 1)).isSome = true by rw [show 0 + 1 = 1 from rfl, hs1]; rfl]; rfl, fun _ => ?_, fun h => ?_⟩
        · exact ⟨_, _, { v with S := x }, hs1, hP.put hFl hAt k1 (v' := { v with S := x }) (f' := { f with nm := s }) ⟨hS, hw1.oa, hw1.ob, hw1.ol, hw1.od, hw1.hI⟩ h1 k2 (by simpa [FV.cells] using hb2)⟩
        · rw [show (st l p (0 + 1)).isSome = true by rw [show 0 + 1 = 1 from rfl, hs1]; rfl] at h; cases h
    · have hst1 : st l p 2 = stG l (f, q) := by
        show (st l p 1).bind (stG l) = _
        rw [hst]; rfl
      refine (readSig_any 135 (enters_of Tryz.func135 (by kernel_rfl) rfl) (fun k => k = br) (some ⟨br, 0, none⟩) c1 r1 q1 F v W (x1.keep hP.keep (fun e => e.elim xF1 xR1)) (y1.keep hP.keep (fun e => e.elim yF1 yR1)) (z1.keep hP.keep (fun e => e.elim zF1 zR1)) hP.blk zR1 (fun e => hOb.2 e.symm)
        (SgG W (fun w' q => V.ReelAt w' br Ob l q) (S.decG l q)) ((S.decodeG_any W br Ob l q hOW hP.at_ hlen).mono fun e w1 h => sgG_of h)).mono ?_
      rintro e W' ⟨A, n, c, B, m, d, E, w1, rfl, hG, k1, rfl⟩
      have hw1 := hfr w1 k1
      have hbk := hP.blk.keep k1 (fun e => hOb.2 e.symm)
      have ka : Keep NoB w1 (w1.alloc (.cells #[.slice A n c, .slice B m d] 57)) := (Keep.refl NoB w1).alloc _
      have k2 := (keep_one (w1.alloc (.cells #[.slice A n c, .slice B m d] 57)) F 1 (.slice A n c)).trans (keep_one _ F 2 (.slice B m d)) (fun _ h _ => h)
      have hb2 := ((hbk.alloc (.cells #[.slice A n c, .slice B m d] 57)).put 1 (.slice A n c)).put 2 (.slice B m d)
      rcases hG with ⟨hn, hE, q1, h1⟩ | ⟨a, r, q1, hs, rfl, hA, hB, h1⟩
      · have hs1 : st l p 2 = none := by rw [hst1]; unfold stG; dsimp only; rw [hn]; rfl
        refine ⟨by rw [ne0 hE, show (st l p (1 + 1)).isSome = false by rw [show 1 + 1 = 2 from rfl, hs1]; rfl], fun h => ?_, fun _ => ?_⟩
        · rw [show (st l p (1 + 1)).isSome = false by rw [show 1 + 1 = 2 from rfl, hs1]; rfl] at h; cases h
        · exact ⟨⟨q1, hAt _ _ _ (h1.keep ka (fun _ _ => id)) k2⟩, (hP.keep.trans (k1.trans ka (fun _ hf _ => hf.elim)) (fun k ho _ => .inr ho)).trans k2 (fun k e _ => .inl e)⟩
      · have hs1 : st l p 2 = some ({ f with ar := a, rs := r }, q1) := by rw [hst1]; unfold stG; dsimp only; rw [hs]; rfl
        refine ⟨by rw [show (st l p (1 + 1)).isSome = true by rw [show 1 + 1 = 2 from rfl, hs1]; rfl]; rfl, fun _ => ?_, fun h => ?_⟩
        · exact ⟨_, _, { v with A := A, na := n, ca := c, B := B, nb := m, cb := d }, hs1, hP.put hFl hAt (k1.trans ka (fun _ hf _ => hf.elim)) (v' := { v with A := A, na := n, ca := c, B := B, nb := m, cb := d }) (f' := { f with ar := a, rs := r }) (OwnF.keepN (v := { v with A := A, na := n, ca := c, B := B, nb := m, cb := d }) (f := { f with ar := a, rs := r }) ⟨hw1.nm, hA.mono (fun k hk _ => hfw k hk), hB.mono (fun k hk _ => hfw k hk), hw1.ol, hw1.od, hw1.hI⟩ ka) (h1.keep ka (fun _ _ => id)) k2 (by simpa [FV.cells] using hb2)⟩
        · rw [show (st l p (1 + 1)).isSome = true by rw [show 1 + 1 = 2 from rfl, hs1]; rfl] at h; cases h
    · have hst1 : st l p 3 = stL l (f, q) := by
        show (st l p 2).bind (stL l) = _
        rw [hst]; rfl
      refine (readLoc_any 137 (enters_of Tryz.func137 (by kernel_rfl) rfl) (fun k => k = br) (some ⟨br, 0, none⟩) c2 r2 q2 F v W (x2.keep hP.keep (fun e => e.elim xF2 xR2)) (y2.keep hP.keep (fun e => e.elim yF2 yR2)) (z2.keep hP.keep (fun e => e.elim zF2 zR2)) hP.blk zR2 (fun e => hOb.2 e.symm)
        (LcG W (fun w' q => V.ReelAt w' br Ob l q) (lcR l q)) (decLoc_any W br Ob l q hOW hP.at_ hlen)).mono ?_
      rintro e W' ⟨A, n, c, E, w1, rfl, hG, k1, rfl⟩
      have hw1 := hfr w1 k1
      have hbk := hP.blk.keep k1 (fun e => hOb.2 e.symm)
      have k2 := keep_one w1 F 3 (.slice A n c)
      have hb2 := hbk.put 3 (.slice A n c)
      rcases hG with ⟨hn, hE, q1, h1⟩ | ⟨a, q1, hs, rfl, hA, _, h1⟩
      · have hs1 : st l p 3 = none := by rw [hst1]; unfold stL; dsimp only; rw [hn]; rfl
        refine ⟨by rw [ne0 hE, show (st l p (2 + 1)).isSome = false by rw [show 2 + 1 = 3 from rfl, hs1]; rfl], fun h => ?_, fun _ => ?_⟩
        · rw [show (st l p (2 + 1)).isSome = false by rw [show 2 + 1 = 3 from rfl, hs1]; rfl] at h; cases h
        · exact ⟨⟨q1, hAt _ _ _ h1 k2⟩, (hP.keep.trans k1 (fun k ho _ => .inr ho)).trans k2 (fun k e _ => .inl e)⟩
      · have hs1 : st l p 3 = some ({ f with lc := a }, q1) := by rw [hst1]; unfold stL; dsimp only; rw [hs]; rfl
        refine ⟨by rw [show (st l p (2 + 1)).isSome = true by rw [show 2 + 1 = 3 from rfl, hs1]; rfl]; rfl, fun _ => ?_, fun h => ?_⟩
        · exact ⟨_, _, { v with L := A, nl := n, cl := c }, hs1, hP.put hFl hAt k1 (v' := { v with L := A, nl := n, cl := c }) (f' := { f with lc := a }) ⟨hw1.nm, hw1.oa, hw1.ob, hA.mono (fun k hk _ => hfw k hk), hw1.od, hw1.hI⟩ h1 k2 (by simpa [FV.cells] using hb2)⟩
        · rw [show (st l p (2 + 1)).isSome = true by rw [show 2 + 1 = 3 from rfl, hs1]; rfl] at h; cases h
    · have hst1 : st l p 4 = stB l (f, q) := by
        show (st l p 3).bind (stB l) = _
        rw [hst]; rfl
      refine (readBod_any 139 (enters_of Tryz.func139 (by kernel_rfl) rfl) (fun k => k = br) (some ⟨br, 0, none⟩) c3 r3 q3 F v W (x3.keep hP.keep (fun e => e.elim xF3 xR3)) (y3.keep hP.keep (fun e => e.elim yF3 yR3)) (z3.keep hP.keep (fun e => e.elim zF3 zR3)) hP.blk zR3 (fun e => hOb.2 e.symm)
        (BdG W (fun w' q => V.ReelAt w' br Ob l q) (C.decB l q)) ((C.cdecode_any W br Ob l q hOW hP.at_ hlen).mono fun e w1 h => bdG_of h)).mono ?_
      rintro e W' ⟨A, n, c, E, w1, rfl, hG, k1, rfl⟩
      have hw1 := hfr w1 k1
      have hbk := hP.blk.keep k1 (fun e => hOb.2 e.symm)
      have k2 := keep_one w1 F 4 (.slice A n c)
      have hb2 := hbk.put 4 (.slice A n c)
      rcases hG with ⟨hn, hE, q1, h1⟩ | ⟨xs, q1, hs, rfl, hA, hI, h1⟩
      · have hs1 : st l p 4 = none := by rw [hst1]; unfold stB; dsimp only; rw [hn]; rfl
        refine ⟨by rw [ne0 hE, show (st l p (3 + 1)).isSome = false by rw [show 3 + 1 = 4 from rfl, hs1]; rfl], fun h => ?_, fun _ => ?_⟩
        · rw [show (st l p (3 + 1)).isSome = false by rw [show 3 + 1 = 4 from rfl, hs1]; rfl] at h; cases h
        · exact ⟨⟨q1, hAt _ _ _ h1 k2⟩, (hP.keep.trans k1 (fun k ho _ => .inr ho)).trans k2 (fun k e _ => .inl e)⟩
      · have hs1 : st l p 4 = some ({ f with bd := xs }, q1) := by rw [hst1]; unfold stB; dsimp only; rw [hs]; rfl
        refine ⟨by rw [show (st l p (3 + 1)).isSome = true by rw [show 3 + 1 = 4 from rfl, hs1]; rfl]; rfl, fun _ => ?_, fun h => ?_⟩
        · exact ⟨_, _, { v with D := A, nd := n, cd := c }, hs1, hP.put hFl hAt k1 (v' := { v with D := A, nd := n, cd := c }) (f' := { f with bd := xs }) ⟨hw1.nm, hw1.oa, hw1.ob, hw1.ol, hA.mono (fun k hk _ => hfw k hk), hI⟩ h1 k2 (by simpa [FV.cells] using hb2)⟩
        · rw [show (st l p (3 + 1)).isSome = true by rw [show 3 + 1 = 4 from rfl, hs1]; rfl] at h; cases h
  rintro e w' (⟨rfl, hall, f, q, v, hs, hP⟩ | ⟨rfl, ⟨i, hi, hn⟩, hB⟩)
  · exact .inl ⟨rfl, f, q, v, hs, hP⟩
  · refine .inr ⟨rfl, st_none hi ?_, hB⟩
    cases h : st l p (i + 1) with
    | none => rfl
    | some x => rw [h] at hn; cases hn

end Go.Proofs.YtgifflfjhockaaaGreatDoor.F

namespace Go.Proofs.YtgifflfjhockaaaGreatDoor.F
open Go.RowKit W

def nilV : FV := ⟨⟨#[]⟩, none, 0, 0, none, 0, 0, none, 0, 0, none, 0, 0⟩
theorem nilV_own (W : World) (P : Nat → Prop) : OwnF W P nilV nilF := ⟨rfl, Own.nil _ _ _ _, Own.nil _ _ _ _, Own.nil _ _ _ _, Own.nil _ _ _ _, fun x hx => by cases hx⟩
/-- How Decode ends. -/
def FunR (w : World) (O : Nat → Prop) (At : World → Nat → Prop) (R : Option (Fu × Nat)) (e : Ending) (w' : World) : Prop :=
  (R = none ∧ e = .returned (.tuple #[nilV.val, .int .i64 70]) ∧ (∃ q, At w' q) ∧ Keep O w w') ∨ (∃ f q v, R = some (f, q) ∧ e = .returned (.tuple #[v.val, .int .i64 0]) ∧ OwnF w' (Fresh w) v f ∧ At w' q ∧ Keep O w w')
def put5 (W : World) (g : Nat) (v : FV) : World :=
  let W1 := W.setCell ⟨g, 0, none⟩ (.string v.S)
  let W2 := W1.setCell ⟨g, 1, none⟩ (.slice v.A v.na v.ca)
  let W3 := W2.setCell ⟨g, 2, none⟩ (.slice v.B v.nb v.cb)
  let W4 := W3.setCell ⟨g, 3, none⟩ (.slice v.L v.nl v.cl)
  W4.setCell ⟨g, 4, none⟩ (.slice v.D v.nd v.cd)
theorem blk_put5 {W : World} {g : Nat} {a b c d e : Value} (h : Blk W g 61 #[a, b, c, d, e]) (v : FV) : Blk (put5 W g v) g 61 v.cells := by
  have h0 := h.put 0 (.string v.S)
  have h1 := h0.put 1 (.slice v.A v.na v.ca)
  have h2 := h1.put 2 (.slice v.B v.nb v.cb)
  have h3 := h2.put 3 (.slice v.L v.nl v.cl)
  have h4 := h3.put 4 (.slice v.D v.nd v.cd)
  clear h h0 h1 h2 h3
  simp only [List.setIfInBounds_toArray, List.set_cons_zero, List.set_cons_succ] at h4
  exact h4
theorem keep_at5 (W : World) (g : Nat) (v : FV) : Keep (fun k => k = g) W (put5 W g v) := by
  have h0 := keep_one W g 0 (.string v.S)
  have h1 := h0.trans (keep_one _ g 1 (.slice v.A v.na v.ca)) (fun _ h _ => h)
  have h2 := h1.trans (keep_one _ g 2 (.slice v.B v.nb v.cb)) (fun _ h _ => h)
  have h3 := h2.trans (keep_one _ g 3 (.slice v.L v.nl v.cl)) (fun _ h _ => h)
  exact h3.trans (keep_one _ g 4 (.slice v.D v.nd v.cd)) (fun _ h _ => h)
theorem ret_funE {fn : Func} {tmps : Array Value} {w : World} {g : Nat} {v : FV} {e : Value} (h : fn.results = #[.cell 2 61, .tmp 3]) (hp : tmps.getD 2 undef = .pointer (some ⟨g, 0, none⟩)) (hb : Blk w g 61 v.cells) (he : tmps.getD 3 undef = e) :
    (results fn tmps).run Tryz.prog w = .ok (.tuple #[v.val, e]) w := by
  rw [results_cell_tmp h, hp, he]
  simp only [asAddr, Sem.run_pure, Result.andThen_ok]
  rw [run_loadVar_row w g 61 61 v.cells (0, 0) _ hb Tryz.underlying61 rfl fun_size]
  rfl
theorem smF_of {l : List UInt8} {p q : Nat} {f : Fu} {v : FV} {W : World} {P : Nat → Prop} (h : st l p 4 = some (f, q)) (ho : OwnF W P v f) : SmF v := by
  obtain ⟨h1, h2, h3, h4, h5⟩ := st_small h
  have hf := ho.fn
  have e0 := sz_len hf.nm
  have e1 := hf.la
  have e2 := hf.lb
  have e3 := hf.ll
  have e4 := hf.ld
  exact ⟨by omega, by omega, by omega, by omega, by omega⟩

set_option maxRecDepth 100000 in
set_option maxHeartbeats 8000000 in
theorem decodeF_any (w : World) (br : Nat) (Ob : Nat → Prop) (l : List UInt8) (p : Nat) (hO : ∀ k, Ob k → k < w.heap.size) (h : V.ReelAt w br Ob l p) (hlen : l.length ≤ 140737488355328) :
    Calls Tryz.prog 78 #[.pointer (some ⟨br, 0, none⟩)] w (FunR w (fun k => k = br) (fun w' q => V.ReelAt w' br Ob l q) (decF l p)) := by
  have hbr := S.reel_lt h
  have hD := decF_st l p
  have bz := (Blk.new w 61 nilV.cells).alloc (.cells nilV.cells 61)
  have bf := Blk.new (w.alloc (.cells nilV.cells 61)) 61 nilV.cells
  have k0 := ((Keep.refl NoB w).alloc (.cells nilV.cells 61)).alloc (.cells nilV.cells 61)
  rw [World.size_alloc] at bf
  unfold nilV FV.cells at bz bf k0
  generalize hw0 : (w.alloc (.cells #[.string ⟨#[]⟩, .slice none 0 0, .slice none 0 0, .slice none 0 0, .slice none 0 0] 61)).alloc (.cells #[.string ⟨#[]⟩, .slice none 0 0, .slice none 0 0, .slice none 0 0, .slice none 0 0] 61) = w0 at bz bf k0
  have hsz : w0.heap.size = w.heap.size + 2 := by rw [← hw0]; simp
  have HZ := Lib.hid bz
  have HF := Lib.hid bf
  have HK := Lib.hid k0
  have HR := Lib.hid (h.keep k0 (fun _ _ => id))
  have HOb := Lib.hid hO
  have HD := Lib.hid hD
  clear bz bf k0 h hO hD
  go_enter Tryz.func78, Tryz.ntmps78
  go_wp2_with fail
  clear hw0
  refine (readsStr_any 133 (w.heap.size + 1) 0 (some ⟨br, 0, none⟩) w0).mono ?_
  rintro e w1 ⟨u0, rfl, ⟨c0, r0, q0, rfl, x0, y0, z0⟩, k1⟩
  have gK := keepN HK.out k1
  have gs := k1.size
  have A0 : Hid (RdV 176 195 196 (fnV 133) (some ⟨br, 0, none⟩) ⟨w.heap.size + 1, 0, none⟩ (askV 176 #[.pointer (some ⟨c0, 0, none⟩), .pointer (some ⟨r0, 0, none⟩), .pointer (some ⟨q0, 0, none⟩)]) w1) := ⟨c0, r0, q0, rfl, x0, y0, z0⟩
  replace HZ := Lib.hid (HZ.out.keep k1 id)
  replace HF := Lib.hid (HF.out.keep k1 id)
  replace HR := Lib.hid (HR.out.keep k1 (fun _ _ => id))
  clear x0 y0 z0 k1 HK
  unfold askV
  go_wp2_with fail
  refine (readsSig_any 135 (w.heap.size + 1) 1 (some ⟨br, 0, none⟩) w1).mono ?_
  rintro e w2 ⟨u1, rfl, ⟨c1, r1, q1, rfl, x1, y1, z1⟩, k1⟩
  replace gK := keepN gK k1
  replace gs := Nat.le_trans gs k1.size
  replace A0 := Lib.hid (RdV.keep A0.out k1)
  have A1 : Hid (RdV 178 198 199 (fnV 135) (some ⟨br, 0, none⟩) ⟨w.heap.size + 1, 1, none⟩ (askV 178 #[.pointer (some ⟨c1, 0, none⟩), .pointer (some ⟨r1, 0, none⟩), .pointer (some ⟨q1, 0, none⟩)]) w2) := ⟨c1, r1, q1, rfl, x1, y1, z1⟩
  replace HZ := Lib.hid (HZ.out.keep k1 id)
  replace HF := Lib.hid (HF.out.keep k1 id)
  replace HR := Lib.hid (HR.out.keep k1 (fun _ _ => id))
  clear x1 y1 z1 k1
  unfold askV
  go_wp2_with fail
  refine (readsLoc_any 137 (w.heap.size + 1) 3 (some ⟨br, 0, none⟩) w2).mono ?_
  rintro e w3 ⟨u2, rfl, ⟨c2, r2, q2, rfl, x2, y2, z2⟩, k1⟩
  replace gK := keepN gK k1
  replace gs := Nat.le_trans gs k1.size
  replace A0 := Lib.hid (RdV.keep A0.out k1)
  replace A1 := Lib.hid (RdV.keep A1.out k1)
  have A2 : Hid (RdV 181 201 202 (fnV 137) (some ⟨br, 0, none⟩) ⟨w.heap.size + 1, 3, none⟩ (askV 181 #[.pointer (some ⟨c2, 0, none⟩), .pointer (some ⟨r2, 0, none⟩), .pointer (some ⟨q2, 0, none⟩)]) w3) := ⟨c2, r2, q2, rfl, x2, y2, z2⟩
  replace HZ := Lib.hid (HZ.out.keep k1 id)
  replace HF := Lib.hid (HF.out.keep k1 id)
  replace HR := Lib.hid (HR.out.keep k1 (fun _ _ => id))
  clear x2 y2 z2 k1
  unfold askV
  go_wp2_with fail
  refine (readsBod_any 139 (w.heap.size + 1) 4 (some ⟨br, 0, none⟩) w3).mono ?_
  rintro e w4 ⟨u3, rfl, ⟨c3, r3, q3, rfl, x3, y3, z3⟩, k1⟩
  replace gK := keepN gK k1
  replace gs := Nat.le_trans gs k1.size
  have kb := (Keep.refl NoB w4).alloc (.cells #[askV 176 #[.pointer (some ⟨c0, 0, none⟩), .pointer (some ⟨r0, 0, none⟩), .pointer (some ⟨q0, 0, none⟩)], askV 178 #[.pointer (some ⟨c1, 0, none⟩), .pointer (some ⟨r1, 0, none⟩), .pointer (some ⟨q1, 0, none⟩)], askV 181 #[.pointer (some ⟨c2, 0, none⟩), .pointer (some ⟨r2, 0, none⟩), .pointer (some ⟨q2, 0, none⟩)], askV 182 #[.pointer (some ⟨c3, 0, none⟩), .pointer (some ⟨r3, 0, none⟩), .pointer (some ⟨q3, 0, none⟩)]] 69)
  have bb := Blk.new w4 69 #[askV 176 #[.pointer (some ⟨c0, 0, none⟩), .pointer (some ⟨r0, 0, none⟩), .pointer (some ⟨q0, 0, none⟩)], askV 178 #[.pointer (some ⟨c1, 0, none⟩), .pointer (some ⟨r1, 0, none⟩), .pointer (some ⟨q1, 0, none⟩)], askV 181 #[.pointer (some ⟨c2, 0, none⟩), .pointer (some ⟨r2, 0, none⟩), .pointer (some ⟨q2, 0, none⟩)], askV 182 #[.pointer (some ⟨c3, 0, none⟩), .pointer (some ⟨r3, 0, none⟩), .pointer (some ⟨q3, 0, none⟩)]]
  have A3 : RdV 182 204 205 (fnV 139) (some ⟨br, 0, none⟩) ⟨w.heap.size + 1, 4, none⟩ (askV 182 #[.pointer (some ⟨c3, 0, none⟩), .pointer (some ⟨r3, 0, none⟩), .pointer (some ⟨q3, 0, none⟩)]) w4 := ⟨c3, r3, q3, rfl, x3, y3, z3⟩
  have kc := k1.trans kb (fun _ h _ => h)
  have HE := Lib.hid (reading_any _ (w.heap.size + 1) br Ob l p nilV (HF.out.keep kc id) (nilV_own _ _) (HR.out.keep kc (fun _ _ => id)) (fun k hk => ⟨by have := HOb.out k hk; have := kb.size; omega, by have := HOb.out k hk; omega⟩) hlen w4.heap.size _ _ _ _ bb (RdV.keep A0.out kc) (RdV.keep A1.out kc) (RdV.keep A2.out kc) (RdV.keep A3 kb))
  replace HZ := Lib.hid (HZ.out.keep kc id)
  replace gK := Lib.hid (keepN gK kb)
  replace gs := Nat.le_trans gs kb.size
  clear x3 y3 z3 k1 kb kc bb A0 A1 A2 A3 HF HR
  unfold askV at *
  go_wp2_with fail
  refine HE.out.mono ?_
  rintro e w5 (⟨rfl, f, q, v, hst, hP⟩ | ⟨rfl, hst, ⟨q, hq⟩, hB⟩)
  · rw [hst] at HD
    have hsm := smF_of hst hP.own
    have HC := Lib.hid (check_any v f w5 hP.own.fn hsm _ rfl)
    have kk := (gK.out.mono (O' := fun k => k = br) (fun _ hf _ => hf.elim)).trans hP.keep (fun k e hk => e.elim (fun e => by omega) id)
    have bz5 := HZ.out.keep hP.keep (fun e => e.elim (fun e => by omega) (fun e => by omega))
    have hO5 := hP.own.mono (P' := fun k => w.heap.size < k) (fun k hk _ => by unfold Fresh at hk; have := gs; omega)
    have hat5 := hP.at_
    have hF5 := hP.blk
    have hpl : ∀ (k : Nat), Ob k → ¬ k = w.heap.size := fun k hk e => by have := HOb.out k hk; omega
    obtain ⟨d0, d1, d2, d3, d4⟩ := blk5 hF5
    have HX := Lib.hid (And.intro kk (And.intro bz5 (And.intro hO5 (And.intro hat5 hF5))))
    have HPL := Lib.hid hpl
    clear HE hst hP hsm kk bz5 hO5 hat5 hF5 gK HZ HOb gs hsz hbr hpl
    obtain ⟨S, A, na, ca, B, nb, cb, L, nl, cl, D, nd, cd⟩ := v
    unfold FV.val FV.cells at *
    dsimp only at *
    cases ho : okF f
    · rw [chkF_no ho] at HC
      have HM : Hid (decF l p = none) := HD.out.trans (ifF_no ho)
      clear HD ho
      go_wp2_with fail
      refine HC.out.mono ?_
      rintro e w6 ⟨rfl, k6⟩
      obtain ⟨kk, bz5, hO5, hat5, hF5⟩ := HX.out
      have bz6 := bz5.keep k6 id
      have kk6 := kk.trans k6 (fun _ h _ => h.elim)
      have hat6 := hat5.keep k6 (fun _ _ => id)
      obtain ⟨z0, z1, z2, z3, z4⟩ := blk5 (v := nilV) bz6
      have fz := fun i => bz6.frozen i
      have HB := Lib.hid (blk_put5 bz6 nilV)
      have HK6 := Lib.hid (kk6.trans (keep_at5 w6 w.heap.size nilV) (fun k e hk => by omega))
      have HA6 := Lib.hid (hat6.keep (keep_at5 w6 w.heap.size nilV) HPL.out)
      unfold nilV at z0 z1 z2 z3 z4
      dsimp only at z0 z1 z2 z3 z4
      clear kk bz5 hO5 hat5 hF5 bz6 kk6 hat6 k6 HX HC d0 d1 d2 d3 d4 HPL
      go_wp2
      refine bodyPost_ret (ret_funE (v := nilV) rfl rfl HB.out rfl) rfl ?_
      exact .inl ⟨HM.out, rfl, ⟨_, HA6.out⟩, HK6.out⟩
    · rw [chkF_ok ho] at HC
      have HM : Hid (decF l p = some (f, q)) := HD.out.trans (ifF_ok ho)
      clear HD ho
      go_wp2_with fail
      refine HC.out.mono ?_
      rintro e w6 ⟨rfl, k6⟩
      obtain ⟨kk, bz5, hO5, hat5, hF5⟩ := HX.out
      have bz6 := bz5.keep k6 id
      have hF6 := hF5.keep k6 id
      have kk6 := kk.trans k6 (fun _ h _ => h.elim)
      have hat6 := hat5.keep k6 (fun _ _ => id)
      have hO6 := hO5.keepN k6
      clear d0 d1 d2 d3 d4
      obtain ⟨z0, z1, z2, z3, z4⟩ := blk5 (v := nilV) bz6
      obtain ⟨d0, d1, d2, d3, d4⟩ := blk5 (v := ⟨S, A, na, ca, B, nb, cb, L, nl, cl, D, nd, cd⟩) hF6
      have fz := fun i => bz6.frozen i
      have HB := Lib.hid (blk_put5 bz6 ⟨S, A, na, ca, B, nb, cb, L, nl, cl, D, nd, cd⟩)
      have HK6 := Lib.hid (kk6.trans (keep_at5 w6 w.heap.size ⟨S, A, na, ca, B, nb, cb, L, nl, cl, D, nd, cd⟩) (fun k e hk => by omega))
      have HA6 := Lib.hid (hat6.keep (keep_at5 w6 w.heap.size ⟨S, A, na, ca, B, nb, cb, L, nl, cl, D, nd, cd⟩) HPL.out)
      have HO6 : Hid (OwnF (put5 w6 w.heap.size ⟨S, A, na, ca, B, nb, cb, L, nl, cl, D, nd, cd⟩) (Fresh w) ⟨S, A, na, ca, B, nb, cb, L, nl, cl, D, nd, cd⟩ f) := (hO6.keep (keep_at5 w6 w.heap.size ⟨S, A, na, ca, B, nb, cb, L, nl, cl, D, nd, cd⟩) (fun k hk e => by omega)).mono (fun k hk _ => by unfold Fresh; omega)
      unfold nilV at z0 z1 z2 z3 z4
      dsimp only at z0 z1 z2 z3 z4 d0 d1 d2 d3 d4
      clear kk bz5 hO5 hat5 hF5 bz6 kk6 hat6 k6 HX HC HPL hO6 hF6
      go_wp2
      refine bodyPost_ret (ret_funE (v := ⟨S, A, na, ca, B, nb, cb, L, nl, cl, D, nd, cd⟩) rfl rfl HB.out rfl) rfl ?_
      exact .inr ⟨f, q, _, HM.out, rfl, HO6.out, HA6.out, HK6.out⟩
  · rw [hst] at HD
    have kk := (gK.out.mono (O' := fun k => k = br) (fun _ hf _ => hf.elim)).trans hB (fun k e hk => e.elim (fun e => by omega) id)
    have bz6 := HZ.out.keep hB (fun e => e.elim (fun e => by omega) (fun e => by omega))
    have HM : Hid (decF l p = none) := HD.out
    obtain ⟨z0, z1, z2, z3, z4⟩ := blk5 (v := nilV) bz6
    have fz := fun i => bz6.frozen i
    have HB := Lib.hid (blk_put5 bz6 nilV)
    have HK6 := Lib.hid (kk.trans (keep_at5 w5 w.heap.size nilV) (fun k e hk => by omega))
    have HA6 := Lib.hid (hq.keep (keep_at5 w5 w.heap.size nilV) (fun k hk e => by have := HOb.out k hk; omega))
    unfold nilV at z0 z1 z2 z3 z4
    dsimp only at z0 z1 z2 z3 z4
    clear kk bz6 HD HE hst hq hB gK HZ HOb gs hsz hbr
    go_wp2
    refine bodyPost_ret (ret_funE (v := nilV) rfl rfl HB.out rfl) rfl ?_
    exact .inl ⟨HM.out, rfl, ⟨_, HA6.out⟩, HK6.out⟩

end Go.Proofs.YtgifflfjhockaaaGreatDoor.F

namespace Go.Proofs.YtgifflfjhockaaaGreatDoor.V
open Go.ChangeShapes Go.WideShapes Go.ChangeAt Go.RowKit

section
variable {H : Type} {enc : TypeId × Value → H} {w : World} {base b0 : Nat} {spare : Nat → Bool} {held : Bool} {r : Reach} {v : Value} {d : DataW H} {p : List MemPlace}
end

end Go.Proofs.YtgifflfjhockaaaGreatDoor.V

namespace Go.Proofs.YtgifflfjhockaaaGreatDoor.F
open Go.RowKit Go.ChangeShapes Go.WideShapes W

end Go.Proofs.YtgifflfjhockaaaGreatDoor.F
