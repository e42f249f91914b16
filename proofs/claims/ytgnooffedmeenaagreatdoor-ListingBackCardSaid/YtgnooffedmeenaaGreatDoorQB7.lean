/-
  Part 7 of the proofs of LBackRow, LLabelsRow: what is laid, and what the functions that the law runs answer. Conditions: each theorem names its own.
-/
import Derived.Lib.SlicesCompact
import Derived.Test.YtgnooffedmeenaaGreatDoorQB6
namespace Go.Proofs.YtgnooffedmeenaaGreatDoor.M
open Go.RowKit

/-! ### The words of a text that is written -/

theorem inW_of {c : UInt8} (h : c = 45 ∨ c = 62 ∨ (48 ≤ c.toNat ∧ c.toNat ≤ 57) ∨ (97 ≤ c.toNat ∧ c.toNat ≤ 122) ∨ (65 ≤ c.toNat ∧ c.toNat ≤ 90)) : inW c = true := by
 rw [inW_iff2]
 refine ⟨?_, ?_, ?_, ?_⟩ <;> · rintro rfl; revert h; decide
theorem clean_mk {w : Bs} (h0 : w ≠ []) (h : ∀ c ∈ w, inW c = true) : cleanB w = true := (clean_iff w).2 ⟨h0, List.all_eq_true.2 h⟩
theorem itoa_ne (n : Int) : Lib.itoa n ≠ [] := by
 obtain ⟨c, r, h, _⟩ := W.itoa_cons n
 rw [h]; exact List.cons_ne_nil _ _
theorem itoa_in (n : Int) : ∀ c ∈ Lib.itoa n, c = 45 ∨ (48 ≤ c.toNat ∧ c.toNat ≤ 57) := by
 intro c hc
 rcases Int.lt_or_le n 0 with h | h
 ·rw [W.itoa_minus h] at hc
  rcases List.mem_cons.1 hc with rfl | hc
  ·exact .inl rfl
  ·exact .inr (W.dec_digits _ c hc)
 ·rw [W.itoa_pos h] at hc
  exact .inr (W.dec_digits _ c hc)
theorem itoa_clean (n : Int) : cleanB (Lib.itoa n) = true := clean_mk (itoa_ne n) fun c hc => inW_of (by rcases itoa_in n c hc with h | h; exact .inl h; exact .inr (.inr (.inl h)))
theorem okN_clean {s : Bs} (h : F.okN s = true) : cleanB s = true := by
 obtain ⟨_, h1, h2⟩ := (F.okN_iff s).1 h
 refine clean_mk (fun e => ?_) fun c hc => ?_
 ·subst e; exact absurd h1 (by decide)
 ·have := List.all_eq_true.1 h2 c hc
  unfold F.inB at this
  rw [Bool.or_eq_true, F.letB_iff, F.digB_iff] at this
  exact inW_of (by omega)
theorem let_in {t : Int} : ∀ c ∈ W.letC t, inW c = true := by
 unfold W.letC
 intro c hc
 repeat' split at hc
 all_goals first | (rw [List.mem_singleton] at hc; subst hc; decide) | cases hc
theorem txt_in (l : List Int) : ∀ c ∈ W.txt l, inW c = true := by
 unfold W.txt
 split
 ·intro c hc
  obtain ⟨t, _, hc⟩ := List.mem_flatMap.1 hc
  exact let_in c hc
 ·intro c hc; cases hc
theorem txt_clean {l : List Int} (h0 : l ≠ []) (h1 : l.length ≤ 1024) (h2 : l.all W.knownB = true) : cleanB (W.txt l) = true := by
 refine clean_mk (fun e => h0 ?_) (txt_in l)
 have := W.txt_length h1 h2
 rw [e] at this
 exact List.length_eq_zero_iff.1 this.symm
theorem shS_clean {l : List Int} (h : S.okS l = true) : cleanB (S.shS l) = true := by
 obtain ⟨h1, h2⟩ := (S.okS_iff l).1 h
 unfold S.shS
 rw [if_pos h]
 exact txt_clean (fun e => by subst e; simp at h1) (by omega) (S.all_known h2)
theorem shG_clean {a r : List Int} (h : S.okG a r = true) : cleanB (S.shG a r) = true := by
 unfold S.shG
 rw [if_pos h]
 refine clean_mk (by simp) fun c hc => ?_
 rcases List.mem_append.1 hc with hc | hc
 ·exact txt_in a c hc
 ·rcases List.mem_cons.1 hc with rfl | hc
  ·decide
  ·exact txt_in r c hc
theorem name_clean {op : Int} (h : O.isOp op = true) : cleanB (O.rowAt op).name = true := by
 obtain ⟨hk, e⟩ := O.rowAt_yes h
 rw [e]
 have : O.rowsL.all (fun r => cleanB r.name) = true := by decide
 exact List.all_eq_true.1 this _ (List.getElem_mem hk)
theorem word_clean {k n : Int} (hn : O.inK k n = true) : cleanB (O.word k n) = true := by
 have hd := of_decide_eq_true hn
 unfold O.word
 split
 ·rename_i hk
  have z1 : 1 ≤ n ∧ n ≤ 4 := by unfold O.lo O.hi at hd; rcases hk with rfl | rfl <;> simp at hd <;> omega
  have vb : n = 1 ∨ n = 2 ∨ n = 3 ∨ n = 4 := by omega
  rcases vb with rfl | rfl | rfl | rfl <;> decide
 ·split
  ·rename_i h1 h2
   subst h2
   have z1 : 0 ≤ n ∧ n ≤ 13 := by unfold O.lo O.hi at hd; simpa using hd
   have hlt : n.toNat < A.binNs.length := by rw [show A.binNs.length = 14 from rfl]; omega
   have : A.binNs.all cleanB = true := by decide
   unfold A.nameAt
   rw [if_pos z1.1, A.getD_at hlt]
   exact List.all_eq_true.1 this _ (List.getElem_mem hlt)
  ·split
   ·rename_i h1 h2 h3
    subst h3
    have z1 : 0 ≤ n ∧ n ≤ 8 := by unfold O.lo O.hi at hd; simpa using hd
    have hlt : n.toNat < A.unNs.length := by rw [show A.unNs.length = 9 from rfl]; omega
    have : A.unNs.all cleanB = true := by decide
    unfold A.nameAt
    rw [if_pos z1.1, A.getD_at hlt]
    exact List.all_eq_true.1 this _ (List.getElem_mem hlt)
   ·exact itoa_clean n

def wordP (k n : Int) : List Bs := if k = 0 then [] else [O.word k n]
def wordsX (x : C.I3) : List Bs := (O.rowAt x.1).name :: (wordP (O.rowAt x.1).ka x.2.1 ++ wordP (O.rowAt x.1).kb x.2.2)
theorem row_none (op : Int) : (O.rowAt op).ka = 0 → (O.rowAt op).kb = 0 := by
 have := O.rowAt_all (p := fun r => decide (r.ka = 0 → r.kb = 0)) (by decide) (by decide) op
 exact of_decide_eq_true this
theorem join_words (x : C.I3) : joinW (wordsX x) = O.textI x.1 x.2.1 x.2.2 := by
 have hn := row_none x.1
 unfold wordsX O.textI wordP O.partL
 by_cases h0 : (O.rowAt x.1).ka = 0
 ·rw [if_pos h0, if_pos (hn h0), if_pos h0, if_pos (hn h0)]; simp [joinW]
 ·by_cases h1 : (O.rowAt x.1).kb = 0
  ·rw [if_neg h0, if_pos h1, if_neg h0, if_pos h1]; simp [joinW]
  ·rw [if_neg h0, if_neg h1, if_neg h0, if_neg h1]; simp [joinW]
theorem wordsX_clean {x : C.I3} (h : C.ok1 x = true) : cleanW (wordsX x) = true := by
 obtain ⟨h1, h2, h3⟩ := O.ok_op h
 refine (cleanW_iff _).2 ⟨by unfold wordsX; exact List.cons_ne_nil _ _, fun w hw => ?_⟩
 unfold wordsX wordP at hw
 rcases List.mem_cons.1 hw with rfl | hw
 ·exact name_clean h1
 ·rcases List.mem_append.1 hw with hw | hw
  ·split at hw
   ·cases hw
   ·rw [List.mem_singleton] at hw; subst hw; exact word_clean h2
  ·split at hw
   ·cases hw
   ·rw [List.mem_singleton] at hw; subst hw; exact word_clean h3

/-! ### A line at a time -/

theorem step_1 {st st' : St} {l : Ln} (h : stShape st l = some st') : step st l = some st' := by unfold step; rw [h]; rfl
theorem step_2 {st st' : St} {l : Ln} (h1 : stShape st l = none) (h : stFunc st l = some st') : step st l = some st' := by unfold step; rw [h1, h]; rfl
theorem step_3 {st st' : St} {l : Ln} (h1 : stShape st l = none) (h2 : stFunc st l = none) (h : stLocal st l = some st') : step st l = some st' := by unfold step; rw [h1, h2, h]; rfl
theorem step_4 {st st' : St} {l : Ln} (h1 : stShape st l = none) (h2 : stFunc st l = none) (h3 : stLocal st l = none) (h : stLabel st l = some st') : step st l = some st' := by unfold step; rw [h1, h2, h3, h]; rfl
theorem step_5 {st : St} {l : Ln} (h1 : stShape st l = none) (h2 : stFunc st l = none) (h3 : stLocal st l = none) (h4 : stLabel st l = none) : step st l = stInstr st l := by unfold step; rw [h1, h2, h3, h4]; rfl
theorem shape_two {st : St} {n : Nat} {w : List Bs} (h : ∀ b, w ≠ [shapeW, b]) : stShape st (n, w) = none := by
 unfold stShape
 split
 ·rename_i a b e
  exact if_neg fun hh => h b (by rw [← hh.1]; exact e)
 ·rfl
theorem func_three {st : St} {n : Nat} {w : List Bs} (h : ∀ b c, w ≠ [funcW, b, c]) : stFunc st (n, w) = none := by
 unfold stFunc
 split
 ·rename_i a b c e
  exact if_neg fun hh => h b c (by rw [← hh.1]; exact e)
 ·rfl
theorem local_two {st : St} {n : Nat} {w : List Bs} (h : ∀ b, w ≠ [localW, b]) : stLocal st (n, w) = none := by
 unfold stLocal
 split
 ·rename_i a b f e _
  exact if_neg fun hh => h b (by rw [← hh.1]; exact e)
 ·rfl
theorem label_one {st : St} {n : Nat} {w : List Bs} (h : ∀ a, a.getLast? = some 58 → w ≠ [a]) : stLabel st (n, w) = none := by
 unfold stLabel
 split
 ·rename_i a f e _
  exact if_neg fun hh => h a hh.1 e
 ·rfl
theorem row_first (op : Int) : (O.rowAt op).name ≠ shapeW ∧ (O.rowAt op).name ≠ localW ∧ (O.rowAt op).name.getLast? ≠ some 58 ∧ ((O.rowAt op).name = funcW → (O.rowAt op).kb = 0) := by
 have := O.rowAt_all (p := fun r => decide (r.name ≠ shapeW ∧ r.name ≠ localW ∧ r.name.getLast? ≠ some 58 ∧ (r.name = funcW → r.kb = 0))) (by decide) (by decide) op
 exact of_decide_eq_true this
theorem step_instr {st : St} {n : Nat} {op : Int} {r : List Bs} (h : r.length ≤ 1 ∨ (O.rowAt op).kb ≠ 0) : step st (n, (O.rowAt op).name :: r) = stInstr st (n, (O.rowAt op).name :: r) := by
 obtain ⟨h1, h2, h3, h4⟩ := row_first op
 refine step_5 (shape_two fun b e => ?_) (func_three fun b c e => ?_) (local_two fun b e => ?_) (label_one fun a ha e => ?_)
 ·injection e with e _; exact h1 e
 ·injection e with e e2
  rcases h with h | h
  ·rw [e2] at h; simp at h
  ·exact h (h4 e)
 ·injection e with e _; exact h2 e
 ·injection e with e _; rw [e] at h3; exact h3 ha
theorem wordsX_few (x : C.I3) : (wordP (O.rowAt x.1).ka x.2.1 ++ wordP (O.rowAt x.1).kb x.2.2).length ≤ 1 ∨ (O.rowAt x.1).kb ≠ 0 := by
 by_cases h : (O.rowAt x.1).kb = 0
 ·left
  unfold wordP
  rw [if_pos h]
  split <;> simp
 ·exact .inr h
theorem step_words {st : St} {n : Nat} {x : C.I3} {f : F.Fu} (h : C.ok1 x = true) (hf : st.im.fn.getLast? = some f) : step st (n, wordsX x) = some (addI st x st.ns) := by
 have e1 : step st (n, wordsX x) = stInstr st (n, wordsX x) := step_instr (wordsX_few x)
 have e2 : rdA (joinW (wordsX x)) = some x := by rw [join_words]; exact rdA_text h
 rw [e1]
 unfold stInstr
 rw [hf]
 dsimp only
 rw [e2]

/-! ### Labels -/

def lbl (i : Int) : Bs := 76 :: Lib.itoa i
def lblW (i : Int) : List Bs := [lbl i ++ [58]]
def jmpW (x : C.I3) : List Bs := [(O.rowAt x.1).name, lbl x.2.1]
theorem lbl_inj {i j : Int} (hi : 0 ≤ i ∧ i ≤ 511) (hj : 0 ≤ j ∧ j ≤ 511) (h : lbl i = lbl j) : i = j := by
 unfold lbl at h
 injection h with _ h
 exact W.itoa_inj (by omega) (by omega) h
theorem lbl_ok {i : Int} (hi : 0 ≤ i ∧ i ≤ 511) : F.okN (lbl i) = true := by
 refine (F.okN_iff _).2 ⟨?_, rfl, ?_⟩
 ·have h := Lib.nDigits_le20 i.toNat (by omega)
  unfold lbl
  rw [W.itoa_pos hi.1, List.length_cons, Lib.decDigits_length]
  omega
 ·unfold lbl
  rw [List.all_cons, Bool.and_eq_true]
  refine ⟨by decide, List.all_eq_true.2 fun c hc => ?_⟩
  rw [W.itoa_pos hi.1] at hc
  unfold F.inB
  rw [Bool.or_eq_true, F.digB_iff]
  exact .inr (W.dec_digits _ c hc)
theorem lblW_clean {i : Int} (hi : 0 ≤ i ∧ i ≤ 511) : cleanW (lblW i) = true := by
 refine (cleanW_iff _).2 ⟨by unfold lblW; simp, fun w hw => ?_⟩
 unfold lblW at hw
 rw [List.mem_singleton] at hw
 subst hw
 have h := ((clean_iff _).1 (okN_clean (lbl_ok hi))).2
 exact clean_mk (by simp) fun c hc => by
  rcases List.mem_append.1 hc with hc | hc
  ·exact List.all_eq_true.1 h c hc
  ·rw [List.mem_singleton] at hc; subst hc; decide
theorem row_goes (op : Int) : (O.rowAt op).ka = 10 → op = 18 ∨ op = 19 := by
 intro h
 cases ho : O.isOp op
 ·rw [O.rowAt_no ho] at h; exact absurd h (by decide)
 ·have hb := O.isOp_yes ho
  have : ∀ j : Fin 30, (O.rowAt (j.1 : Int)).ka = 10 → (j.1 : Int) = 18 ∨ (j.1 : Int) = 19 := by decide
  have h2 := this ⟨op.toNat, by omega⟩
  rw [show ((op.toNat : Nat) : Int) = op by omega] at h2
  exact h2 h
theorem ofA_goes {op : Int} (h : op = 18 ∨ op = 19) : ofA (O.rowAt op).name = some op.toNat ∧ kindA op = 1 ∧ (O.rowAt op).ka = 10 ∧ (O.rowAt op).kb = 0 := by
 rcases h with rfl | rfl <;> exact ⟨by decide, by decide, by decide, by decide⟩
theorem jmpW_clean {x : C.I3} (h : C.gB x = true) : cleanW (jmpW x) = true := by
 obtain ⟨h1, h2⟩ := C.gB_ka h
 refine (cleanW_iff _).2 ⟨by unfold jmpW; exact List.cons_ne_nil _ _, fun w hw => ?_⟩
 unfold jmpW at hw
 rcases List.mem_cons.1 hw with rfl | hw
 ·exact name_clean (O.ok_op h1).1
 ·rw [List.mem_singleton] at hw; subst hw; exact okN_clean (lbl_ok (C.gB_in h))

end Go.Proofs.YtgnooffedmeenaaGreatDoor.M

namespace Go.Proofs.YtgnooffedmeenaaGreatDoor.M
open Go.RowKit

/-! ### A written image -/

def itemT (lab : Bool) (i : Nat) (x : C.I3) : List (List Bs) := if lab = true then [lblW i, if C.gB x = true then jmpW x else wordsX x] else [wordsX x]
def bodyT (lab : Bool) (i : Nat) : List C.I3 → List (List Bs)
 | [] => []
 | x :: r => itemT lab i x ++ bodyT lab (i + 1) r
def zj (lab : Bool) (x : C.I3) : C.I3 := if lab = true ∧ C.gB x = true then (x.1, 0, 0) else x
def headT (f : F.Fu) : List (List Bs) := [funcW, f.nm, S.shG f.ar f.rs] :: (if f.lc = [] then [] else [[localW, W.txt f.lc]])
def funcT (lab : Bool) (f : F.Fu) : List (List Bs) := headT f ++ bodyT lab 0 f.bd
def zf (lab : Bool) (f : F.Fu) : F.Fu := ⟨f.nm, f.ar, f.rs, f.lc, f.bd.map (zj lab)⟩
def shapeT (s : List Int) : List Bs := [shapeW, S.shS s]
def imgT (lab : Bool) (p : I.Im) : List (List Bs) := p.sh.map shapeT ++ p.fn.flatMap (funcT lab)

theorem run_cons {st st' : St} {l : Ln} (h : step st l = some st') (r : List Ln) : runL st (l :: r) = runL st' r := by rw [runL, h]
theorem last_snoc {α : Type} (l : List α) (x : α) : (l ++ [x]).getLast? = some x := List.getLast?_concat
theorem addI_snoc (sh : List (List Int)) (fs : List F.Fu) (f : F.Fu) (ns ns' : List Nm) (x : C.I3) : addI ⟨⟨sh, fs ++ [f]⟩, ns⟩ x ns' = ⟨⟨sh, fs ++ [⟨f.nm, f.ar, f.rs, f.lc, f.bd ++ [x]⟩]⟩, ns'⟩ := by
 unfold addI
 rw [upd_append]
theorem hasL_below {ns : List Nm} {k : Nat} (h : ∀ x ∈ ns, x.fn < k) : hasL ns k = false := by
 unfold hasL
 rw [List.any_eq_false]
 intro x hx
 have := h x hx
 rw [Bool.and_eq_true, decide_eq_true_iff]
 rintro ⟨_, e⟩
 omega
theorem run_head (sh : List (List Int)) (fs : List F.Fu) (f : F.Fu) (ns : List Nm) (n : Nat) (hf : F.okF f = true) (hn : ∀ x ∈ ns, x.fn < fs.length) (r : List Ln) :
  runL ⟨⟨sh, fs⟩, ns⟩ (num n (headT f) ++ r) = runL ⟨⟨sh, fs ++ [⟨f.nm, f.ar, f.rs, f.lc, []⟩]⟩, ns⟩ r := by
 obtain ⟨h1, h2, h3, h4, h5⟩ := (F.okF_iff f).1 hf
 have s1 : step ⟨⟨sh, fs⟩, ns⟩ (n, [funcW, f.nm, S.shG f.ar f.rs]) = some ⟨⟨sh, fs ++ [⟨f.nm, f.ar, f.rs, [], []⟩]⟩, ns⟩ := by
  refine step_2 (shape_two fun b e => ?_) ?_
  ·have := congrArg List.length e; simp at this
  ·unfold stFunc
   dsimp only
   rw [if_pos ⟨rfl, h1⟩, S.rdG_sh h2]
   rfl
 unfold headT
 by_cases hl : f.lc = []
 ·rw [if_pos hl, hl]
  exact run_cons s1 r
 ·rw [if_neg hl]
  have s2 : step ⟨⟨sh, fs ++ [⟨f.nm, f.ar, f.rs, [], []⟩]⟩, ns⟩ (n + 1, [localW, W.txt f.lc]) = some ⟨⟨sh, fs ++ [⟨f.nm, f.ar, f.rs, f.lc, []⟩]⟩, ns⟩ := by
   refine step_3 (shape_two fun b e => ?_) (func_three fun b c e => ?_) ?_
   ·injection e with e _; exact absurd e (by decide)
   ·have := congrArg List.length e; simp at this
   ·unfold stLocal
    rw [last_snoc]
    dsimp only
    have hh : hasL ns ((fs ++ [(⟨f.nm, f.ar, f.rs, [], []⟩ : F.Fu)]).length - 1) = false := hasL_below (by simpa using hn)
    rw [if_pos ⟨rfl, rfl, rfl, hh⟩, W.untxt_txt (by omega) h3, Option.map_some, upd_append]
  show runL _ ((n, _) :: (n + 1, _) :: r) = _
  rw [run_cons s1, run_cons s2]
theorem run_shapes : ∀ (q sh : List (List Int)) (n : Nat) (r : List Ln), q.all S.okS = true → runL ⟨⟨sh, []⟩, []⟩ (num n (q.map shapeT) ++ r) = runL ⟨⟨sh ++ q, []⟩, []⟩ r
 | [], sh, n, r, _ => by simp [num]
 | s :: q, sh, n, r, hq => by
  rw [List.all_cons, Bool.and_eq_true] at hq
  have s1 : step ⟨⟨sh, []⟩, []⟩ (n, shapeT s) = some ⟨⟨sh ++ [s], []⟩, []⟩ := by
   refine step_1 ?_
   unfold stShape shapeT
   dsimp only
   rw [if_pos ⟨rfl, rfl⟩, S.rdS_sh hq.1]
   rfl
  have h2 := run_shapes q (sh ++ [s]) (n + 1) r hq.2
  rw [List.map_cons]
  show runL _ ((n, shapeT s) :: (num (n + 1) (q.map shapeT) ++ r)) = _
  rw [run_cons s1, h2, List.append_assoc]
  rfl
/-! ### The lines are the text's -/

theorem item_clean {lab : Bool} {i : Nat} {x : C.I3} (hx : C.ok1 x = true) (hi : i ≤ 511) : ∀ w ∈ itemT lab i x, cleanW w = true := by
 intro w hw
 unfold itemT at hw
 split at hw
 ·rcases List.mem_cons.1 hw with rfl | hw
  ·exact lblW_clean (by omega)
  ·rw [List.mem_singleton] at hw
   subst hw
   cases hg : C.gB x with
   | true => rw [if_pos rfl]; exact jmpW_clean hg
   | false => rw [if_neg (by decide)]; exact wordsX_clean hx
 ·rw [List.mem_singleton] at hw
  subst hw
  exact wordsX_clean hx
theorem body_clean {lab : Bool} : ∀ (b : List C.I3) (i : Nat), b.all C.ok1 = true → i + b.length ≤ 512 → ∀ w ∈ bodyT lab i b, cleanW w = true
 | [], _, _, _, w, hw => by cases hw
 | x :: b, i, hb, hl, w, hw => by
  rw [List.all_cons, Bool.and_eq_true] at hb
  rw [List.length_cons] at hl
  rw [bodyT, List.mem_append] at hw
  rcases hw with hw | hw
  ·exact item_clean hb.1 (by omega) w hw
  ·exact body_clean b (i + 1) hb.2 (by omega) w hw
theorem ok_body {f : F.Fu} (hf : F.okF f = true) : f.bd.all C.ok1 = true ∧ 1 ≤ f.bd.length ∧ f.bd.length ≤ 512 ∧ ∀ x ∈ f.bd, C.gN x < (f.bd.length : Int) := by
 obtain ⟨_, _, _, h4, _⟩ := (F.okF_iff f).1 hf
 obtain ⟨b1, b2, _, b4⟩ := C.okB_parts h4
 rw [List.all_eq_true] at b4
 refine ⟨List.all_eq_true.2 fun x hx => ?_, b1, b2, fun x hx => ?_⟩
 all_goals
  have := b4 x hx
  unfold C.itemB at this
  rw [Bool.and_eq_true, decide_eq_true_iff] at this
 ·exact this.1
 ·exact this.2
theorem func_clean {lab : Bool} {f : F.Fu} (hf : F.okF f = true) : ∀ w ∈ funcT lab f, cleanW w = true := by
 obtain ⟨h1, h2, h3, h4, h5⟩ := (F.okF_iff f).1 hf
 obtain ⟨b1, _, b2, _⟩ := ok_body hf
 intro w hw
 unfold funcT headT at hw
 rcases List.mem_append.1 hw with hw | hw
 ·rcases List.mem_cons.1 hw with rfl | hw
  ·refine (cleanW_iff _).2 ⟨by simp, fun v hv => ?_⟩
   rcases List.mem_cons.1 hv with rfl | hv
   ·decide
   ·rcases List.mem_cons.1 hv with rfl | hv
    ·exact okN_clean h1
    ·rw [List.mem_singleton] at hv; subst hv; exact shG_clean h2
  ·split at hw
   ·cases hw
   ·rename_i hl
    rw [List.mem_singleton] at hw
    subst hw
    refine (cleanW_iff _).2 ⟨by simp, fun v hv => ?_⟩
    rcases List.mem_cons.1 hv with rfl | hv
    ·decide
    ·rw [List.mem_singleton] at hv; subst hv; exact txt_clean hl (by omega) h3
 ·exact body_clean _ _ b1 (by omega) w hw
theorem img_clean {lab : Bool} {p : I.Im} (hp : I.okI p = true) : ∀ w ∈ imgT lab p, cleanW w = true := by
 obtain ⟨_, h3, h4⟩ := (I.okI_iff p).1 hp
 intro w hw
 unfold imgT at hw
 rcases List.mem_append.1 hw with hw | hw
 ·obtain ⟨s, hs, rfl⟩ := List.mem_map.1 hw
  refine (cleanW_iff _).2 ⟨by unfold shapeT; simp, fun v hv => ?_⟩
  unfold shapeT at hv
  rcases List.mem_cons.1 hv with rfl | hv
  ·decide
  ·rw [List.mem_singleton] at hv; subst hv; exact shS_clean (List.all_eq_true.1 h3 s hs)
 ·obtain ⟨f, hf, hw⟩ := List.mem_flatMap.1 hw
  exact func_clean (List.all_eq_true.1 h4 f hf) w hw

/-! ### Names are put -/

def near (r : List Nm) (a b : List F.Fu) : Prop :=
 a.length = b.length ∧ ∀ (j : Nat) (f g : F.Fu), a[j]? = some f → b[j]? = some g → f.nm = g.nm ∧ f.ar = g.ar ∧ f.rs = g.rs ∧ f.lc = g.lc ∧ f.bd.length = g.bd.length ∧
  ∀ (i : Nat) (x y : C.I3), f.bd[i]? = some x → g.bd[i]? = some y → x.1 = y.1 ∧ x.2.2 = y.2.2 ∧ (x.2.1 = y.2.1 ∨ ∃ m ∈ r, m.lb = false ∧ m.fn = j ∧ m.pl = i)
theorem near_nil {a b : List F.Fu} (h : near [] a b) : a = b := by
 obtain ⟨h0, h⟩ := h
 refine List.ext_getElem h0 fun j h1 h2 => ?_
 obtain ⟨e1, e2, e3, e4, e5, e6⟩ := h j _ _ (List.getElem?_eq_getElem h1) (List.getElem?_eq_getElem h2)
 have e7 : a[j].bd = b[j].bd := by
  refine List.ext_getElem e5 fun i h3 h4 => ?_
  obtain ⟨p1, p2, p3⟩ := e6 i _ _ (List.getElem?_eq_getElem h3) (List.getElem?_eq_getElem h4)
  rcases p3 with p3 | ⟨m, hm, _⟩
  ·exact Prod.ext p1 (Prod.ext p3 p2)
  ·cases hm
 cases ha : a[j] with
 | mk nm ar rs lc bd =>
  cases hb : b[j] with
  | mk nm' ar' rs' lc' bd' =>
   rw [ha, hb] at e1 e2 e3 e4 e7
   dsimp only at e1 e2 e3 e4 e7
   rw [e1, e2, e3, e4, e7]
theorem near_label {m : Nm} {r : List Nm} {a b : List F.Fu} (hm : m.lb = true) (h : near (m :: r) a b) : near r a b := by
 obtain ⟨h0, h⟩ := h
 refine ⟨h0, fun j f g hf hg => ?_⟩
 obtain ⟨e1, e2, e3, e4, e5, e6⟩ := h j f g hf hg
 refine ⟨e1, e2, e3, e4, e5, fun i x y hx hy => ?_⟩
 obtain ⟨p1, p2, p3⟩ := e6 i x y hx hy
 refine ⟨p1, p2, ?_⟩
 rcases p3 with p3 | ⟨k, hk, k1, k2⟩
 ·exact .inl p3
 ·rcases List.mem_cons.1 hk with rfl | hk
  ·rw [hm] at k1; cases k1
  ·exact .inr ⟨k, hk, k1, k2⟩
theorem near_put {m : Nm} {r : List Nm} {a b : List F.Fu} {g : F.Fu} {y : C.I3} (hg : b[m.fn]? = some g) (hy : g.bd[m.pl]? = some y) (h : near (m :: r) a b) : near r (putA m y.2.1 a) b := by
 obtain ⟨h0, h⟩ := h
 unfold putA
 refine ⟨by rw [List.length_modify]; exact h0, fun j f' g' hf' hg' => ?_⟩
 rw [List.getElem?_modify] at hf'
 cases hf : a[j]? with
 | none => rw [hf] at hf'; cases hf'
 | some f =>
  rw [hf] at hf'
  injection hf' with hf'
  dsimp only at hf'
  obtain ⟨e1, e2, e3, e4, e5, e6⟩ := h j f g' hf hg'
  by_cases hj : m.fn = j
  ·rw [if_pos hj] at hf'
   subst hf'
   refine ⟨e1, e2, e3, e4, by dsimp only; rw [List.length_modify]; exact e5, fun i x' y' hx' hy' => ?_⟩
   dsimp only at hx'
   rw [List.getElem?_modify] at hx'
   cases hx : f.bd[i]? with
   | none => rw [hx] at hx'; cases hx'
   | some x =>
    rw [hx] at hx'
    injection hx' with hx'
    dsimp only at hx'
    obtain ⟨p1, p2, p3⟩ := e6 i x y' hx hy'
    by_cases hi : m.pl = i
    ·rw [if_pos hi] at hx'
     subst hx'
     refine ⟨p1, p2, .inl ?_⟩
     subst hj hi
     rw [hg] at hg'
     injection hg' with hg'
     subst hg'
     rw [hy] at hy'
     injection hy' with hy'
     subst hy'
     rfl
    ·rw [if_neg hi] at hx'
     subst hx'
     refine ⟨p1, p2, ?_⟩
     rcases p3 with p3 | ⟨k, hk, k1, k2, k3⟩
     ·exact .inl p3
     ·rcases List.mem_cons.1 hk with rfl | hk
      ·exact absurd k3 hi
      ·exact .inr ⟨k, hk, k1, k2, k3⟩
  ·rw [if_neg hj] at hf'
   subst hf'
   refine ⟨e1, e2, e3, e4, e5, fun i x y' hx hy' => ?_⟩
   obtain ⟨p1, p2, p3⟩ := e6 i x y' hx hy'
   refine ⟨p1, p2, ?_⟩
   rcases p3 with p3 | ⟨k, hk, k1, k2, k3⟩
   ·exact .inl p3
   ·rcases List.mem_cons.1 hk with rfl | hk
    ·exact absurd k2 hj
    ·exact .inr ⟨k, hk, k1, k2, k3⟩
/-! ### The names of a written image -/

def apart (x y : Nm) : Prop := ¬ (x.lb = true ∧ x.fn = y.fn ∧ x.s = y.s ∧ y.lb = true)
theorem kind_goes {y : C.I3} (h : C.gB y = true) : kindA y.1 = 1 := (ofA_goes (row_goes y.1 (C.gB_ka h).2)).2.1
end Go.Proofs.YtgnooffedmeenaaGreatDoor.M

namespace Go.Proofs.YtgnooffedmeenaaGreatDoor.M.L
open Go.RowKit

/-! ### An instruction that bears a name -/

def nmdW (x : C.I3) (s : Bs) : List Bs := [(O.rowAt x.1).name, s]
theorem named_ka {op : Int} (h : kindA op ≠ 0) : O.isOp op = true ∧ ((O.rowAt op).ka = 7 ∨ (O.rowAt op).ka = 10) ∧ (O.rowAt op).kb = 0 ∧ ofA (O.rowAt op).name = some op.toNat ∧ 0 ≤ op := by
 have hop : op = 18 ∨ op = 19 ∨ op = 20 ∨ op = 21 ∨ op = 22 ∨ op = 23 ∨ op = 11 := by
  unfold kindA at h
  split at h
  ·omega
  ·split at h
   ·omega
   ·exact absurd rfl h
 rcases hop with rfl | rfl | rfl | rfl | rfl | rfl | rfl <;> exact ⟨by decide, by decide, by decide, by decide, by decide⟩
theorem okN_head {s : Bs} (h : F.okN s = true) : ∃ c r, s = c :: r ∧ c ≠ 45 ∧ ¬ (48 ≤ c.toNat ∧ c.toNat ≤ 57) := by
 obtain ⟨_, h1, _⟩ := (F.okN_iff s).1 h
 cases s with
 | nil => exact absurd h1 (by decide)
 | cons c r =>
  have h2 : F.letB c = true := h1
  rw [F.letB_iff] at h2
  refine ⟨c, r, rfl, ?_, by omega⟩
  rintro rfl
  revert h2; decide
theorem rdA_named {x : C.I3} {s : Bs} (hk : kindA x.1 ≠ 0) (hs : F.okN s = true) : rdA (joinW (nmdW x s)) = none := by
 obtain ⟨ho, k1, k2, _, _⟩ := named_ka hk
 refine rdA_none fun y hy e => ?_
 have ej : joinW (nmdW x s) = (O.rowAt x.1).name ++ 32 :: s := rfl
 rw [ej] at e
 unfold O.textI at e
 have hsp : O.partL (O.rowAt y.1).ka y.2.1 ++ O.partL (O.rowAt y.1).kb y.2.2 = [] ∨ ∃ r, O.partL (O.rowAt y.1).ka y.2.1 ++ O.partL (O.rowAt y.1).kb y.2.2 = 32 :: r := by
  rcases O.part_sp (O.rowAt y.1).ka y.2.1 with e | ⟨r, e⟩
  ·rw [e]; exact O.part_sp (O.rowAt y.1).kb y.2.2
  ·rw [e]; exact .inr ⟨_, rfl⟩
 obtain ⟨e1, e2⟩ := O.split_at (O.name_no y.1) (O.name_no x.1) hsp (.inr ⟨_, rfl⟩) e
 have e3 := O.name_inj (O.ok_op hy).1 ho e1
 rw [← e3] at k1 k2
 have e4 : O.partL (O.rowAt y.1).ka y.2.1 = 32 :: Lib.itoa y.2.1 := by
  unfold O.partL
  rcases k1 with k1 | k1 <;> rw [k1] <;> rfl
 rw [e4, k2] at e2
 unfold O.partL at e2
 rw [if_pos rfl, List.append_nil] at e2
 injection e2 with _ e2
 obtain ⟨c, r, e5, hc⟩ := W.itoa_cons y.2.1
 obtain ⟨c', r', e6, h1, h2⟩ := okN_head hs
 rw [e5, e6] at e2
 injection e2 with e2 _
 subst e2
 rcases hc with hc | hc
 ·exact h1 hc
 ·exact h2 hc
theorem step_named {st : St} {n : Nat} {x : C.I3} {s : Bs} {f : F.Fu} (hk : kindA x.1 ≠ 0) (hs : F.okN s = true) (hf : st.im.fn.getLast? = some f) :
  step st (n, nmdW x s) = some (addI st (x.1, 0, 0) (st.ns ++ [⟨n, st.im.fn.length - 1, f.bd.length, s, false⟩])) := by
 obtain ⟨ho, _, _, k3, k4⟩ := named_ka hk
 have e1 : step st (n, nmdW x s) = stInstr st (n, nmdW x s) := step_instr (.inl (by simp))
 rw [e1]
 unfold stInstr
 rw [hf]
 dsimp only
 rw [rdA_named hk hs]
 dsimp only
 unfold stName nmdW
 dsimp only
 have h4 : ((x.1.toNat : Nat) : Int) = x.1 := by omega
 rw [k3]
 dsimp only
 rw [h4, if_pos ⟨hk, hs⟩]
theorem nmdW_clean {x : C.I3} {s : Bs} (hk : kindA x.1 ≠ 0) (hs : F.okN s = true) : cleanW (nmdW x s) = true := by
 refine (cleanW_iff _).2 ⟨by unfold nmdW; exact List.cons_ne_nil _ _, fun w hw => ?_⟩
 unfold nmdW at hw
 rcases List.mem_cons.1 hw with rfl | hw
 ·exact name_clean (named_ka hk).1
 ·rw [List.mem_singleton] at hw; subst hw; exact okN_clean hs
theorem labW_clean {s : Bs} (hs : F.okN s = true) : cleanW [s ++ [58]] = true := by
 refine (cleanW_iff _).2 ⟨by simp, fun w hw => ?_⟩
 rw [List.mem_singleton] at hw
 subst hw
 have h := ((clean_iff _).1 (okN_clean hs)).2
 exact clean_mk (by simp) fun c hc => by
  rcases List.mem_append.1 hc with hc | hc
  ·exact List.all_eq_true.1 h c hc
  ·rw [List.mem_singleton] at hc; subst hc; decide
theorem step_lab {st : St} {n : Nat} {s : Bs} {f : F.Fu} (hs : F.okN s = true) (hf : st.im.fn.getLast? = some f) :
  step st (n, [s ++ [58]]) = some ⟨st.im, st.ns ++ [⟨n, st.im.fn.length - 1, f.bd.length, s, true⟩]⟩ := by
 refine step_4 (shape_two fun b e => ?_) (func_three fun b c e => ?_) (local_two fun b e => ?_) ?_
 ·have := congrArg List.length e; simp at this
 ·have := congrArg List.length e; simp at this
 ·have := congrArg List.length e; simp at this
 ·unfold stLabel
  rw [hf]
  dsimp only
  rw [List.getLast?_concat, List.dropLast_concat, if_pos ⟨rfl, hs⟩]

/-! ### A written image -/

abbrev Labs := Nat → Nat → Option Bs
abbrev Nams := Nat → C.I3 → Option Bs
def labL : Option Bs → List (List Bs)
 | some s => [[s ++ [58]]]
 | none => []
def insL (nw : Option Bs) (x : C.I3) : List Bs := match nw with
 | some s => nmdW x s
 | none => wordsX x
def zx (nw : Option Bs) (x : C.I3) : C.I3 := match nw with
 | some _ => (x.1, 0, 0)
 | none => x
def labN (lb : Option Bs) (k n i : Nat) : List Nm := match lb with
 | some s => [⟨n, k, i, s, true⟩]
 | none => []
def insN (nw : Option Bs) (k n i : Nat) : List Nm := match nw with
 | some s => [⟨n, k, i, s, false⟩]
 | none => []
def itemL (lb nw : Option Bs) (x : C.I3) : List (List Bs) := labL lb ++ [insL nw x]
def itemN (lb nw : Option Bs) (k n i : Nat) : List Nm := labN lb k n i ++ insN nw k (n + (labL lb).length) i
def bodyL (lb : Nat → Option Bs) (nw : C.I3 → Option Bs) (i : Nat) : List C.I3 → List (List Bs)
 | [] => []
 | x :: r => itemL (lb i) (nw x) x ++ bodyL lb nw (i + 1) r
def bodyN (lb : Nat → Option Bs) (nw : C.I3 → Option Bs) (k n i : Nat) : List C.I3 → List Nm
 | [] => []
 | x :: r => itemN (lb i) (nw x) k n i ++ bodyN lb nw k (n + (itemL (lb i) (nw x) x).length) (i + 1) r
def funcL (lb : Nat → Option Bs) (nw : C.I3 → Option Bs) (f : F.Fu) : List (List Bs) := headT f ++ bodyL lb nw 0 f.bd
def zfun (nw : C.I3 → Option Bs) (f : F.Fu) : F.Fu := ⟨f.nm, f.ar, f.rs, f.lc, f.bd.map fun x => zx (nw x) x⟩
def funcN (lb : Nat → Option Bs) (nw : C.I3 → Option Bs) (k n : Nat) (f : F.Fu) : List Nm := bodyN lb nw k (n + (headT f).length) 0 f.bd
def funcsL (LB : Labs) (NW : Nams) (k : Nat) : List F.Fu → List (List Bs)
 | [] => []
 | f :: r => funcL (LB k) (NW k) f ++ funcsL LB NW (k + 1) r
def funcsZ (NW : Nams) (k : Nat) : List F.Fu → List F.Fu
 | [] => []
 | f :: r => zfun (NW k) f :: funcsZ NW (k + 1) r
def funcsN (LB : Labs) (NW : Nams) (k n : Nat) : List F.Fu → List Nm
 | [] => []
 | f :: r => funcN (LB k) (NW k) k n f ++ funcsN LB NW (k + 1) (n + (funcL (LB k) (NW k) f).length) r
def imgL (LB : Labs) (NW : Nams) (p : I.Im) : List (List Bs) := p.sh.map shapeT ++ funcsL LB NW 0 p.fn

structure Good (p : I.Im) (LB : Labs) (NW : Nams) : Prop where
 lok : ∀ k i s, LB k i = some s → F.okN s = true
 inj : ∀ k i j s, LB k i = some s → LB k j = some s → i = j
 nok : ∀ k x s, NW k x = some s → F.okN s = true ∧ kindA x.1 ≠ 0
 nto : ∀ k f x s, p.fn[k]? = some f → x ∈ f.bd → NW k x = some s →
  (kindA x.1 = 1 ∧ ∃ t : Nat, x.2.1 = (t : Int) ∧ t < f.bd.length ∧ LB k t = some s) ∨ (kindA x.1 = 2 ∧ ∃ t : Nat, x.2.1 = (t : Int) ∧ I.findI p.fn s = some t)

section
variable {lb : Nat → Option Bs} {nw : C.I3 → Option Bs} (hl : ∀ i s, lb i = some s → F.okN s = true) (hn : ∀ x s, nw x = some s → F.okN s = true ∧ kindA x.1 ≠ 0)
include hl hn
theorem run_item (sh : List (List Int)) (fs : List F.Fu) (f : F.Fu) (ns : List Nm) (n : Nat) (x : C.I3) (hx : C.ok1 x = true) (r : List Ln) :
  runL ⟨⟨sh, fs ++ [f]⟩, ns⟩ (num n (itemL (lb f.bd.length) (nw x) x) ++ r) = runL ⟨⟨sh, fs ++ [⟨f.nm, f.ar, f.rs, f.lc, f.bd ++ [zx (nw x) x]⟩]⟩, ns ++ itemN (lb f.bd.length) (nw x) fs.length n f.bd.length⟩ r := by
 have hlen : (fs ++ [f]).length - 1 = fs.length := by simp
 have h1 : ∀ (q : List Ln), runL ⟨⟨sh, fs ++ [f]⟩, ns⟩ (num n (labL (lb f.bd.length)) ++ q) = runL ⟨⟨sh, fs ++ [f]⟩, ns ++ labN (lb f.bd.length) fs.length n f.bd.length⟩ q := by
  intro q
  cases h : lb f.bd.length with
  | none => simp [labL, labN, num]
  | some s =>
   have h1 := step_lab (st := ⟨⟨sh, fs ++ [f]⟩, ns⟩) (n := n) (hl _ _ h) (last_snoc fs f)
   dsimp only at h1
   rw [hlen] at h1
   exact run_cons h1 q
 have h2 : ∀ (m : Nat) (ns : List Nm) (q : List Ln), runL ⟨⟨sh, fs ++ [f]⟩, ns⟩ ((m, insL (nw x) x) :: q) = runL ⟨⟨sh, fs ++ [⟨f.nm, f.ar, f.rs, f.lc, f.bd ++ [zx (nw x) x]⟩]⟩, ns ++ insN (nw x) fs.length m f.bd.length⟩ q := by
  intro m ns q
  cases h : nw x with
  | none =>
   have h3 := step_words (st := ⟨⟨sh, fs ++ [f]⟩, ns⟩) (n := m) hx (last_snoc fs f)
   rw [addI_snoc] at h3
   show runL _ ((m, wordsX x) :: q) = _
   rw [run_cons h3]
   simp [insN, zx]
  | some s =>
   have h3 := step_named (st := ⟨⟨sh, fs ++ [f]⟩, ns⟩) (n := m) (hn _ _ h).2 (hn _ _ h).1 (last_snoc fs f)
   rw [addI_snoc] at h3
   dsimp only at h3
   rw [hlen] at h3
   show runL _ ((m, nmdW x s) :: q) = _
   rw [run_cons h3]
   rfl
 unfold itemL itemN
 rw [num_append, List.append_assoc, h1]
 show runL _ ((n + (labL (lb f.bd.length)).length, insL (nw x) x) :: r) = _
 rw [h2, List.append_assoc]
theorem run_body (sh : List (List Int)) (fs : List F.Fu) : ∀ (b : List C.I3) (f : F.Fu) (ns : List Nm) (n : Nat) (r : List Ln), b.all C.ok1 = true →
  runL ⟨⟨sh, fs ++ [f]⟩, ns⟩ (num n (bodyL lb nw f.bd.length b) ++ r) = runL ⟨⟨sh, fs ++ [⟨f.nm, f.ar, f.rs, f.lc, f.bd ++ b.map fun x => zx (nw x) x⟩]⟩, ns ++ bodyN lb nw fs.length n f.bd.length b⟩ r
 | [], f, ns, n, r, _ => by simp [bodyL, bodyN, num]
 | x :: b, f, ns, n, r, hb => by
  rw [List.all_cons, Bool.and_eq_true] at hb
  have h1 := run_item hl hn sh fs f ns n x hb.1 (num (n + (itemL (lb f.bd.length) (nw x) x).length) (bodyL lb nw (f.bd.length + 1) b) ++ r)
  have e : f.bd.length + 1 = (f.bd ++ [zx (nw x) x]).length := by simp
  have h2 := run_body sh fs b ⟨f.nm, f.ar, f.rs, f.lc, f.bd ++ [zx (nw x) x]⟩ (ns ++ itemN (lb f.bd.length) (nw x) fs.length n f.bd.length) (n + (itemL (lb f.bd.length) (nw x) x).length) r hb.2
  dsimp only at h2
  rw [← e] at h2
  rw [bodyL, num_append, List.append_assoc, h1, h2, bodyN, List.map_cons]
  simp only [List.append_assoc, List.cons_append, List.nil_append]
theorem run_func (sh : List (List Int)) (fs : List F.Fu) (f : F.Fu) (ns : List Nm) (n : Nat) (hf : F.okF f = true) (hm : ∀ x ∈ ns, x.fn < fs.length) (r : List Ln) :
  runL ⟨⟨sh, fs⟩, ns⟩ (num n (funcL lb nw f) ++ r) = runL ⟨⟨sh, fs ++ [zfun nw f]⟩, ns ++ funcN lb nw fs.length n f⟩ r := by
 obtain ⟨b1, _, _, _⟩ := ok_body hf
 have h2 := run_body hl hn sh fs f.bd ⟨f.nm, f.ar, f.rs, f.lc, []⟩ ns (n + (headT f).length) r b1
 unfold funcL
 rw [num_append, List.append_assoc, run_head sh fs f ns n hf hm]
 exact h2
theorem body_clean : ∀ (b : List C.I3) (i : Nat), b.all C.ok1 = true → ∀ w ∈ bodyL lb nw i b, cleanW w = true
 | [], _, _, w, hw => by cases hw
 | x :: b, i, hb, w, hw => by
  rw [List.all_cons, Bool.and_eq_true] at hb
  rw [bodyL, List.mem_append] at hw
  rcases hw with hw | hw
  ·unfold itemL at hw
   rcases List.mem_append.1 hw with hw | hw
   ·cases h : lb i with
    | none => rw [h] at hw; cases hw
    | some s =>
     rw [h] at hw
     have hw : w ∈ [[s ++ [58]]] := hw
     rw [List.mem_singleton] at hw
     subst hw
     exact labW_clean (hl _ _ h)
   ·rw [List.mem_singleton] at hw
    subst hw
    cases h : nw x with
    | none => exact wordsX_clean hb.1
    | some s => exact nmdW_clean (hn _ _ h).2 (hn _ _ h).1
  ·exact body_clean b (i + 1) hb.2 w hw
theorem func_cleanN {f : F.Fu} (hf : F.okF f = true) : ∀ w ∈ funcL lb nw f, cleanW w = true := by
 obtain ⟨b1, _, _, _⟩ := ok_body hf
 intro w hw
 unfold funcL at hw
 rcases List.mem_append.1 hw with hw | hw
 ·exact func_clean (lab := false) hf w (List.mem_append_left _ hw)
 ·exact body_clean hl hn f.bd 0 b1 w hw
end
theorem itemN_fn {lb nw : Option Bs} {k n i : Nat} : ∀ m ∈ itemN lb nw k n i, m.fn = k ∧ m.pl = i := by
 intro m hm
 unfold itemN at hm
 rcases List.mem_append.1 hm with hm | hm
 ·cases lb with
  | none => cases hm
  | some s => have hm : m ∈ [_] := hm; rw [List.mem_singleton] at hm; subst hm; exact ⟨rfl, rfl⟩
 ·cases nw with
  | none => cases hm
  | some s => have hm : m ∈ [_] := hm; rw [List.mem_singleton] at hm; subst hm; exact ⟨rfl, rfl⟩
theorem bodyN_fn {lb : Nat → Option Bs} {nw : C.I3 → Option Bs} {k : Nat} : ∀ (b : List C.I3) (n i : Nat), ∀ m ∈ bodyN lb nw k n i b, m.fn = k
 | [], n, i, m, hm => by cases hm
 | x :: b, n, i, m, hm => by
  rw [bodyN, List.mem_append] at hm
  rcases hm with hm | hm
  ·exact (itemN_fn m hm).1
  ·exact bodyN_fn b _ _ m hm
theorem run_funcs {LB : Labs} {NW : Nams} (hl : ∀ k i s, LB k i = some s → F.okN s = true) (hn : ∀ k x s, NW k x = some s → F.okN s = true ∧ kindA x.1 ≠ 0) (sh : List (List Int)) :
  ∀ (q fs : List F.Fu) (ns : List Nm) (n : Nat) (r : List Ln), q.all F.okF = true → (∀ x ∈ ns, x.fn < fs.length) →
  runL ⟨⟨sh, fs⟩, ns⟩ (num n (funcsL LB NW fs.length q) ++ r) = runL ⟨⟨sh, fs ++ funcsZ NW fs.length q⟩, ns ++ funcsN LB NW fs.length n q⟩ r
 | [], fs, ns, n, r, _, _ => by simp [num, funcsL, funcsZ, funcsN]
 | f :: q, fs, ns, n, r, hq, hm => by
  rw [List.all_cons, Bool.and_eq_true] at hq
  have e : fs.length + 1 = (fs ++ [zfun (NW fs.length) f]).length := by simp
  have h2 := run_funcs hl hn sh q (fs ++ [zfun (NW fs.length) f]) (ns ++ funcN (LB fs.length) (NW fs.length) fs.length n f) (n + (funcL (LB fs.length) (NW fs.length) f).length) r hq.2 (by
   intro x hx
   rw [List.length_append]
   rcases List.mem_append.1 hx with hx | hx
   ·have := hm x hx; omega
   ·have := bodyN_fn _ _ _ x hx
    simp; omega)
  rw [← e] at h2
  rw [funcsL, num_append, List.append_assoc, run_func (hl _) (hn _) sh fs f ns n hq.1 hm, h2, funcsZ, funcsN]
  simp
theorem run_img {p : I.Im} {LB : Labs} {NW : Nams} (hg : Good p LB NW) (hp : I.okI p = true) : runL st0 (num 1 (imgL LB NW p)) = .inl ⟨⟨p.sh, funcsZ NW 0 p.fn⟩, funcsN LB NW 0 (1 + p.sh.length) p.fn⟩ := by
 obtain ⟨_, h3, h4⟩ := (I.okI_iff p).1 hp
 unfold imgL
 rw [num_append]
 have h1 := run_shapes p.sh [] 1 (num (1 + p.sh.length) (funcsL LB NW 0 p.fn)) h3
 have h2 := run_funcs hg.lok hg.nok p.sh p.fn [] [] (1 + p.sh.length) [] h4 (fun x hx => by cases hx)
 rw [List.append_nil] at h2
 rw [List.length_map]
 unfold st0 I.nilI
 rw [h1, List.nil_append]
 exact h2.trans (by rfl)
theorem funcs_clean {LB : Labs} {NW : Nams} (hl : ∀ k i s, LB k i = some s → F.okN s = true) (hn : ∀ k x s, NW k x = some s → F.okN s = true ∧ kindA x.1 ≠ 0) : ∀ (q : List F.Fu) (k : Nat), q.all F.okF = true → ∀ w ∈ funcsL LB NW k q, cleanW w = true
 | [], k, _, w, hw => by cases hw
 | f :: q, k, hq, w, hw => by
  rw [List.all_cons, Bool.and_eq_true] at hq
  rw [funcsL, List.mem_append] at hw
  rcases hw with hw | hw
  ·exact func_cleanN (hl k) (hn k) hq.1 w hw
  ·exact funcs_clean hl hn q (k + 1) hq.2 w hw
theorem img_cleanN {p : I.Im} {LB : Labs} {NW : Nams} (hg : Good p LB NW) (hp : I.okI p = true) : ∀ w ∈ imgL LB NW p, cleanW w = true := by
 obtain ⟨_, h3, h4⟩ := (I.okI_iff p).1 hp
 intro w hw
 unfold imgL at hw
 rcases List.mem_append.1 hw with hw | hw
 ·exact img_clean (lab := false) hp w (List.mem_append_left _ hw)
 ·exact funcs_clean hg.lok hg.nok p.fn 0 h4 w hw

/-! ### The names are put -/

def nmOk (lb : Nat → Option Bs) (nw : C.I3 → Option Bs) (k : Nat) (b : List C.I3) (i : Nat) (m : Nm) : Prop :=
 m.fn = k ∧ i ≤ m.pl ∧ ∃ x, b[m.pl - i]? = some x ∧ (m.lb = false → nw x = some m.s) ∧ (m.lb = true → lb m.pl = some m.s)
theorem itemN_ok {lb nw : Option Bs} {k n i : Nat} : ∀ m ∈ itemN lb nw k n i, (m.lb = false → nw = some m.s) ∧ (m.lb = true → lb = some m.s) := by
 intro m hm
 unfold itemN at hm
 rcases List.mem_append.1 hm with hm | hm
 ·cases lb with
  | none => cases hm
  | some s => have hm : m ∈ [_] := hm; rw [List.mem_singleton] at hm; subst hm; exact ⟨(fun h => by cases h), fun _ => rfl⟩
 ·cases nw with
  | none => cases hm
  | some s => have hm : m ∈ [_] := hm; rw [List.mem_singleton] at hm; subst hm; exact ⟨fun _ => rfl, fun h => by cases h⟩
theorem bodyN_ok {lb : Nat → Option Bs} {nw : C.I3 → Option Bs} {k : Nat} : ∀ (b : List C.I3) (n i : Nat), ∀ m ∈ bodyN lb nw k n i b, nmOk lb nw k b i m
 | [], n, i, m, hm => by cases hm
 | x :: b, n, i, m, hm => by
  rw [bodyN, List.mem_append] at hm
  rcases hm with hm | hm
  ·obtain ⟨h1, h2⟩ := itemN_fn m hm
   obtain ⟨h3, h4⟩ := itemN_ok m hm
   exact ⟨h1, by omega, x, by rw [h2, Nat.sub_self]; rfl, h3, fun h => by rw [h2]; exact h4 h⟩
  ·obtain ⟨h1, h2, y, h3, h4⟩ := bodyN_ok b _ _ m hm
   refine ⟨h1, by omega, y, ?_, h4⟩
   rw [show m.pl - i = (m.pl - (i + 1)) + 1 by omega]
   exact h3
theorem bodyN_label {lb : Nat → Option Bs} {nw : C.I3 → Option Bs} {k : Nat} : ∀ (b : List C.I3) (n i t : Nat) (s : Bs), t < b.length → lb (i + t) = some s → ∃ m ∈ bodyN lb nw k n i b, m.lb = true ∧ m.fn = k ∧ m.s = s
 | [], n, i, t, s, h, _ => by simp at h
 | x :: b, n, i, 0, s, h, hs => ⟨⟨n, k, i, s, true⟩, by rw [bodyN, itemN, show lb i = some s from hs]; exact List.mem_append_left _ (List.mem_append_left _ (List.mem_singleton.2 rfl)), rfl, rfl, rfl⟩
 | x :: b, n, i, t + 1, s, h, hs => by
  obtain ⟨m, h1, h2, h3, h4⟩ := bodyN_label (lb := lb) (nw := nw) (k := k) b (n + (itemL (lb i) (nw x) x).length) (i + 1) t s (by simpa using h) (by rw [← hs]; congr 1; omega)
  exact ⟨m, by rw [bodyN]; exact List.mem_append_right _ h1, h2, h3, h4⟩
theorem bodyN_name {lb : Nat → Option Bs} {nw : C.I3 → Option Bs} {k : Nat} : ∀ (b : List C.I3) (n i t : Nat) (x : C.I3) (s : Bs), b[t]? = some x → nw x = some s → ∃ m ∈ bodyN lb nw k n i b, m.lb = false ∧ m.fn = k ∧ m.pl = i + t
 | [], n, i, t, x, s, h, _ => by simp at h
 | y :: b, n, i, 0, x, s, h, hs => by
  rw [List.getElem?_cons_zero] at h
  injection h with h
  subst h
  exact ⟨⟨n + (labL (lb i)).length, k, i, s, false⟩, by rw [bodyN, itemN, hs]; exact List.mem_append_left _ (List.mem_append_right _ (List.mem_singleton.2 rfl)), rfl, rfl, rfl⟩
 | y :: b, n, i, t + 1, x, s, h, hs => by
  obtain ⟨m, h1, h2, h3, h4⟩ := bodyN_name (lb := lb) (nw := nw) (k := k) b (n + (itemL (lb i) (nw y) y).length) (i + 1) t x s (by simpa using h) hs
  exact ⟨m, by rw [bodyN]; exact List.mem_append_right _ h1, h2, h3, by omega⟩
theorem funcsN_ok {LB : Labs} {NW : Nams} : ∀ (q : List F.Fu) (k n : Nat), ∀ m ∈ funcsN LB NW k n q, ∃ j f, q[j]? = some f ∧ nmOk (LB (k + j)) (NW (k + j)) (k + j) f.bd 0 m
 | [], k, n, m, hm => by cases hm
 | f :: q, k, n, m, hm => by
  rw [funcsN, List.mem_append] at hm
  rcases hm with hm | hm
  ·exact ⟨0, f, rfl, bodyN_ok f.bd _ 0 m hm⟩
  ·obtain ⟨j, g, h1, h2⟩ := funcsN_ok q (k + 1) _ m hm
   exact ⟨j + 1, g, h1, by rw [show k + (j + 1) = k + 1 + j by omega]; exact h2⟩
theorem funcsN_label {LB : Labs} {NW : Nams} : ∀ (q : List F.Fu) (k n j t : Nat) (f : F.Fu) (s : Bs), q[j]? = some f → t < f.bd.length → LB (k + j) t = some s → ∃ m ∈ funcsN LB NW k n q, m.lb = true ∧ m.fn = k + j ∧ m.s = s
 | [], k, n, j, t, f, s, h, _, _ => by simp at h
 | g :: q, k, n, 0, t, f, s, h, ht, hs => by
  rw [List.getElem?_cons_zero] at h
  injection h with h
  subst h
  obtain ⟨m, h1, h2, h3, h4⟩ := bodyN_label (lb := LB k) (nw := NW k) (k := k) g.bd (n + (headT g).length) 0 t s ht (by rw [Nat.zero_add]; exact hs)
  exact ⟨m, by rw [funcsN]; exact List.mem_append_left _ h1, h2, h3, h4⟩
 | g :: q, k, n, j + 1, t, f, s, h, ht, hs => by
  obtain ⟨m, h1, h2, h3, h4⟩ := funcsN_label (LB := LB) (NW := NW) q (k + 1) (n + (funcL (LB k) (NW k) g).length) j t f s (by simpa using h) ht (by rw [← hs]; congr 1; omega)
  exact ⟨m, by rw [funcsN]; exact List.mem_append_right _ h1, h2, by omega, h4⟩
theorem funcsN_name {LB : Labs} {NW : Nams} : ∀ (q : List F.Fu) (k n j t : Nat) (f : F.Fu) (x : C.I3) (s : Bs), q[j]? = some f → f.bd[t]? = some x → NW (k + j) x = some s → ∃ m ∈ funcsN LB NW k n q, m.lb = false ∧ m.fn = k + j ∧ m.pl = t
 | [], k, n, j, t, f, x, s, h, _, _ => by simp at h
 | g :: q, k, n, 0, t, f, x, s, h, hx, hs => by
  rw [List.getElem?_cons_zero] at h
  injection h with h
  subst h
  obtain ⟨m, h1, h2, h3, h4⟩ := bodyN_name (lb := LB k) (nw := NW k) (k := k) g.bd (n + (headT g).length) 0 t x s hx hs
  exact ⟨m, by rw [funcsN]; exact List.mem_append_left _ h1, h2, h3, by omega⟩
 | g :: q, k, n, j + 1, t, f, x, s, h, hx, hs => by
  obtain ⟨m, h1, h2, h3, h4⟩ := funcsN_name (LB := LB) (NW := NW) q (k + 1) (n + (funcL (LB k) (NW k) g).length) j t f x s (by simpa using h) hx (by rw [← hs]; congr 1; omega)
  exact ⟨m, by rw [funcsN]; exact List.mem_append_right _ h1, h2, by omega, h4⟩
theorem itemN_apart {lb nw : Option Bs} {k n i : Nat} : (itemN lb nw k n i).Pairwise apart := by
 unfold itemN
 rw [List.pairwise_append]
 refine ⟨?_, ?_, fun y _ z hz => ?_⟩
 ·cases lb with
  | none => exact List.Pairwise.nil
  | some s => exact List.pairwise_singleton _ _
 ·cases nw with
  | none => exact List.Pairwise.nil
  | some s => exact List.pairwise_singleton _ _
 ·cases nw with
  | none => cases hz
  | some s =>
   have hz : z ∈ [_] := hz
   rw [List.mem_singleton] at hz
   subst hz
   rintro ⟨_, _, _, h⟩
   cases h
theorem bodyN_apart {lb : Nat → Option Bs} {nw : C.I3 → Option Bs} {k : Nat} (hi : ∀ i j s, lb i = some s → lb j = some s → i = j) : ∀ (b : List C.I3) (n i : Nat), (bodyN lb nw k n i b).Pairwise apart
 | [], n, i => List.Pairwise.nil
 | x :: b, n, i => by
  rw [bodyN, List.pairwise_append]
  refine ⟨itemN_apart, bodyN_apart hi b _ (i + 1), fun y hy z hz => ?_⟩
  rintro ⟨h1, _, h3, h4⟩
  obtain ⟨_, z2, w, _, _, z4⟩ := bodyN_ok b _ _ z hz
  have hy2 := (itemN_ok y hy).2 h1
  have := hi _ _ _ hy2 (by rw [h3]; exact z4 h4)
  omega
theorem funcsN_apart {LB : Labs} {NW : Nams} (hi : ∀ k i j s, LB k i = some s → LB k j = some s → i = j) : ∀ (q : List F.Fu) (k n : Nat), (funcsN LB NW k n q).Pairwise apart
 | [], k, n => List.Pairwise.nil
 | f :: q, k, n => by
  rw [funcsN, List.pairwise_append]
  refine ⟨bodyN_apart (hi k) f.bd _ 0, funcsN_apart hi q _ _, fun y hy z hz => ?_⟩
  rintro ⟨_, h2, _, _⟩
  have e1 := bodyN_fn _ _ _ y hy
  obtain ⟨j, g, _, e2, _⟩ := funcsN_ok q _ _ z hz
  omega
theorem place_ofN {q : List F.Fu} {LB : Labs} {NW : Nams} {n j t : Nat} {f : F.Fu} {s : Bs} (hi : ∀ k i j s, LB k i = some s → LB k j = some s → i = j) (hj : q[j]? = some f) (ht : t < f.bd.length) (hs : LB j t = some s) : placeOf (funcsN LB NW 0 n q) j s = some t := by
 obtain ⟨m, h1, h2, h3, h4⟩ := funcsN_label (LB := LB) (NW := NW) q 0 n j t f s hj ht (by rw [Nat.zero_add]; exact hs)
 unfold placeOf
 cases hf : (funcsN LB NW 0 n q).find? fun y => y.lb && (decide (y.fn = j) && decide (y.s = s)) with
 | none =>
  rw [List.find?_eq_none] at hf
  exact absurd (by rw [h2, h3, h4]; simp) (hf m h1)
 | some m' =>
  have hm := List.mem_of_find?_eq_some hf
  have hp := List.find?_some hf
  rw [Bool.and_eq_true, Bool.and_eq_true, decide_eq_true_iff, decide_eq_true_iff] at hp
  obtain ⟨p1, p2, p3⟩ := hp
  obtain ⟨j', g, g1, g0, _, x, _, _, g4⟩ := funcsN_ok q 0 n m' hm
  have g5 := g4 p1
  rw [← g0, p2, p3] at g5
  have := hi j _ _ _ g5 hs
  rw [Option.map_some, this]
theorem funcsZ_at {NW : Nams} : ∀ (q : List F.Fu) (k j : Nat), (funcsZ NW k q)[j]? = (q[j]?).map (zfun (NW (k + j)))
 | [], k, j => by simp [funcsZ]
 | f :: q, k, 0 => rfl
 | f :: q, k, j + 1 => by
  rw [funcsZ, List.getElem?_cons_succ, List.getElem?_cons_succ, funcsZ_at q (k + 1) j, show k + 1 + j = k + (j + 1) by omega]
theorem funcsZ_length {NW : Nams} : ∀ (q : List F.Fu) (k : Nat), (funcsZ NW k q).length = q.length
 | [], k => rfl
 | f :: q, k => by rw [funcsZ, List.length_cons, List.length_cons, funcsZ_length q]
theorem near_imgN {p : I.Im} {LB : Labs} {NW : Nams} (hg : Good p LB NW) (hp : I.okI p = true) (n : Nat) : near (funcsN LB NW 0 n p.fn) (funcsZ NW 0 p.fn) p.fn := by
 obtain ⟨_, _, h4⟩ := (I.okI_iff p).1 hp
 refine ⟨funcsZ_length _ _, fun j f g hf hgg => ?_⟩
 rw [funcsZ_at, hgg, Nat.zero_add] at hf
 injection hf with hf
 subst hf
 obtain ⟨b1, _, _, _⟩ := ok_body (List.all_eq_true.1 h4 g (List.mem_of_getElem? hgg))
 refine ⟨rfl, rfl, rfl, rfl, by unfold zfun; simp, fun i x y hx hy => ?_⟩
 unfold zfun at hx
 dsimp only at hx
 rw [List.getElem?_map, hy] at hx
 injection hx with hx
 subst hx
 dsimp only
 cases hs : NW j y with
 | none => exact ⟨rfl, rfl, .inl rfl⟩
 | some s =>
  obtain ⟨_, _, k2, _, _⟩ := named_ka (hg.nok _ _ _ hs).2
  have ho := List.all_eq_true.1 b1 y (List.mem_of_getElem? hy)
  have h3 := (O.ok_op ho).2.2
  rw [k2] at h3
  have := (O.in_bounds h3).2.2 rfl
  obtain ⟨m, m1, m2, m3, m4⟩ := funcsN_name (LB := LB) (NW := NW) p.fn 0 n j i g y s hgg hy (by rw [Nat.zero_add]; exact hs)
  exact ⟨rfl, this.symm, .inr ⟨m, m1, m2, by omega, m4⟩⟩
theorem find_near {r : List Nm} {a b : List F.Fu} {s : Bs} (h : near r a b) : I.findI a s = I.findI b s := by
 obtain ⟨h0, h⟩ := h
 have e : a.map F.Fu.nm = b.map F.Fu.nm := by
  refine List.ext_getElem (by simpa using h0) fun i h1 h2 => ?_
  rw [List.getElem_map, List.getElem_map]
  exact (h i _ _ (List.getElem?_eq_getElem _) (List.getElem?_eq_getElem _)).1
 have key : ∀ l : List F.Fu, I.findI l s = (l.map F.Fu.nm).findIdx? fun x => decide (x = s) := by
  intro l
  unfold I.findI
  rw [List.findIdx?_map]
  rfl
 rw [key, key, e]
theorem resL_nearN {ns : List Nm} {b : List F.Fu} (hd : ns.Pairwise fun x y => ¬ (x.lb = true ∧ x.fn = y.fn ∧ x.s = y.s ∧ y.lb = true))
  (hv : ∀ m ∈ ns, m.lb = false → ∃ g y n, b[m.fn]? = some g ∧ g.bd[m.pl]? = some y ∧ y.2.1 = ((n : Nat) : Int) ∧ ((kindA y.1 = 1 ∧ placeOf ns m.fn m.s = some n) ∨ (kindA y.1 = 2 ∧ I.findI b m.s = some n))) :
  ∀ (r pre : List Nm) (a : List F.Fu), ns = pre ++ r → near r a b → resL ns pre a r = .inl b
 | [], pre, a, _, h => by rw [near_nil h]; rfl
 | m :: r, pre, a, hn, h => by
  have hn2 : ns = (pre ++ [m]) ++ r := by rw [hn]; simp
  rw [resL]
  cases hm : m.lb with
  | true =>
   have ha : again pre m = false := by
    unfold again
    rw [List.any_eq_false]
    intro y hy
    rw [Bool.and_eq_true, Bool.and_eq_true, decide_eq_true_iff, decide_eq_true_iff]
    rintro ⟨h1, h2, h3⟩
    rw [hn] at hd
    exact (List.pairwise_append.1 hd).2.2 y hy m (by simp) ⟨h1, h2, h3, hm⟩
   rw [if_pos rfl, ha, if_neg (by decide)]
   exact resL_nearN hd hv r (pre ++ [m]) a hn2 (near_label hm h)
  | false =>
   obtain ⟨g, y, n, h1, h2, h5, h3⟩ := hv m (by rw [hn]; simp) hm
   have hfi : I.findI a m.s = I.findI b m.s := find_near h
   obtain ⟨h0, hh⟩ := h
   have hj : m.fn < a.length := by
    rw [h0]
    exact (List.getElem?_eq_some_iff.1 h1).1
   obtain ⟨e1, e2, e3, e4, e5, e6⟩ := hh m.fn _ g (List.getElem?_eq_getElem hj) h1
   have hi : m.pl < a[m.fn].bd.length := by
    rw [e5]
    exact (List.getElem?_eq_some_iff.1 h2).1
   have hop : opAt a m = y.1 := by
    unfold opAt
    rw [List.getElem?_eq_getElem hj]
    show ((a[m.fn].bd[m.pl]?).map Prod.fst).getD 0 = y.1
    rw [List.getElem?_eq_getElem hi]
    exact (e6 m.pl _ y (List.getElem?_eq_getElem hi) h2).1
   have hva : valA ns a m = .inl n := by
    unfold valA
    rw [hop]
    rcases h3 with ⟨h3, h4⟩ | ⟨h3, h4⟩
    ·rw [if_pos h3, h4]
    ·rw [if_neg (by omega), hfi, h4]
   rw [if_neg (by decide), hva]
   dsimp only
   rw [← h5]
   exact resL_nearN hd hv r (pre ++ [m]) _ hn2 (near_put h1 h2 ⟨h0, hh⟩)
theorem res_imgN {p : I.Im} {LB : Labs} {NW : Nams} (hg : Good p LB NW) (hp : I.okI p = true) (n : Nat) : resL (funcsN LB NW 0 n p.fn) [] (funcsZ NW 0 p.fn) (funcsN LB NW 0 n p.fn) = .inl p.fn := by
 refine resL_nearN (funcsN_apart hg.inj p.fn 0 n) (fun m hm hl => ?_) _ [] _ rfl (near_imgN hg hp n)
 obtain ⟨j, f, h1, h2, h3, x, h5, h6, _⟩ := funcsN_ok p.fn 0 n m hm
 have hs := h6 hl
 rw [Nat.zero_add] at h2 hs
 rw [Nat.sub_zero] at h5
 rcases hg.nto j f x m.s h1 (List.mem_of_getElem? h5) hs with ⟨k1, t, ht, ht2, hl2⟩ | ⟨k1, t, ht, hf⟩
 ·exact ⟨f, x, t, by rw [h2]; exact h1, h5, ht, .inl ⟨k1, by rw [h2]; exact place_ofN hg.inj h1 ht2 hl2⟩⟩
 ·exact ⟨f, x, t, by rw [h2]; exact h1, h5, ht, .inr ⟨k1, hf⟩⟩
theorem end_imgN {p : I.Im} {LB : Labs} {NW : Nams} (hg : Good p LB NW) (hp : I.okI p = true) : endL ⟨⟨p.sh, funcsZ NW 0 p.fn⟩, funcsN LB NW 0 (1 + p.sh.length) p.fn⟩ = (p, 0, 0) := by
 unfold endL
 dsimp only
 rw [res_imgN hg hp]
 dsimp only
 rw [if_pos hp]
theorem say_imgN {p : I.Im} {LB : Labs} {NW : Nams} (hg : Good p LB NW) (hp : I.okI p = true) : sayL (num 1 (imgL LB NW p)) = (p, 0, 0) := by
 unfold sayL
 rw [run_img hg hp]
 exact end_imgN hg hp
theorem norm_imgN {p : I.Im} {LB : Labs} {NW : Nams} (hg : Good p LB NW) (hp : I.okI p = true) : normL (flat (imgL LB NW p)) = flat (imgL LB NW p) := by
 unfold normL
 rw [lines_flat (img_cleanN hg hp), num_snd]

end Go.Proofs.YtgnooffedmeenaaGreatDoor.M.L

namespace Go.Proofs.YtgnooffedmeenaaGreatDoor.M.L
open Go.RowKit

/-! ### Targets, labels, names -/

def hitB (b : List C.I3) (i : Nat) : Bool := b.any fun x => C.gB x && decide (x.2.1 = (i : Int))
def tgs (b : List C.I3) : List Nat := (List.range b.length).filter (hitB b)
def labA (t : List Nat) (i : Nat) : Option Bs := (t.findIdx? fun j => decide (j = i)).map fun n => lbl ((n : Nat) : Int)
def LBp (p : I.Im) : Labs := fun k i => (p.fn[k]?).bind fun f => labA (tgs f.bd) i
def NWp (p : I.Im) : Nams := fun k x => if C.gB x = true then LBp p k x.2.1.toNat else if (O.rowAt x.1).ka = 7 then (p.fn[x.2.1.toNat]?).map F.Fu.nm else none
def LB0 : Labs := fun _ _ => none
def NW0 : Nams := fun _ _ => none

theorem tgs_mem {b : List C.I3} {i : Nat} : i ∈ tgs b ↔ i < b.length ∧ hitB b i = true := by unfold tgs; rw [List.mem_filter, List.mem_range]
theorem tgs_len (b : List C.I3) : (tgs b).length ≤ b.length := by
 unfold tgs
 have := List.length_filter_le (hitB b) (List.range b.length)
 rwa [List.length_range] at this
theorem hit_of {b : List C.I3} {x : C.I3} {t : Nat} (hx : x ∈ b) (hg : C.gB x = true) (ht : x.2.1 = (t : Int)) : hitB b t = true := by
 unfold hitB
 rw [List.any_eq_true]
 exact ⟨x, hx, by rw [hg, decide_eq_true ht]; rfl⟩
theorem labA_some {t : List Nat} {i : Nat} {s : Bs} (h : labA t i = some s) : ∃ n, n < t.length ∧ t[n]? = some i ∧ s = lbl ((n : Nat) : Int) := by
 unfold labA at h
 cases hf : t.findIdx? fun j => decide (j = i) with
 | none => rw [hf] at h; cases h
 | some n =>
  rw [hf] at h
  injection h with h
  rw [List.findIdx?_eq_some_iff_getElem] at hf
  obtain ⟨hn, h1, _⟩ := hf
  exact ⟨n, hn, by rw [List.getElem?_eq_getElem hn, of_decide_eq_true h1], h.symm⟩
theorem labA_mem {t : List Nat} {i : Nat} (h : i ∈ t) : ∃ s, labA t i = some s := by
 unfold labA
 cases hf : t.findIdx? fun j => decide (j = i) with
 | none =>
  rw [List.findIdx?_eq_none_iff] at hf
  have := hf i h
  simp at this
 | some n => exact ⟨_, rfl⟩
theorem labA_none {t : List Nat} {i : Nat} (h : i ∉ t) : labA t i = none := by
 unfold labA
 rw [show (t.findIdx? fun j => decide (j = i)) = none from ?_]
 ·rfl
 ·rw [List.findIdx?_eq_none_iff]
  intro j hj
  exact decide_eq_false fun e => h (e ▸ hj)
theorem row_func (op : Int) : (O.rowAt op).ka = 7 → kindA op = 2 := by
 intro h
 cases ho : O.isOp op
 ·rw [O.rowAt_no ho] at h; exact absurd h (by decide)
 ·have hb := O.isOp_yes ho
  have : ∀ j : Fin 30, (O.rowAt (j.1 : Int)).ka = 7 → kindA (j.1 : Int) = 2 := by decide
  have h2 := this ⟨op.toNat, by omega⟩
  rw [show ((op.toNat : Nat) : Int) = op by omega] at h2
  exact h2 h
theorem find_nodup {l : List F.Fu} (h : (l.map F.Fu.nm).Nodup) {i : Nat} {f : F.Fu} (hf : l[i]? = some f) : I.findI l f.nm = some i := by
 obtain ⟨hi, rfl⟩ := List.getElem?_eq_some_iff.1 hf
 unfold I.findI
 rw [List.findIdx?_eq_some_iff_getElem]
 refine ⟨hi, decide_eq_true rfl, fun j hj => ?_⟩
 rw [Bool.not_eq_true, decide_eq_false_iff_not]
 intro e
 have h2 := (List.pairwise_iff_getElem.1 h) j i (by rw [List.length_map]; omega) (by rw [List.length_map]; omega) hj
 rw [List.getElem_map, List.getElem_map] at h2
 exact h2 e

theorem good0 (p : I.Im) : Good p LB0 NW0 := ⟨(fun _ _ _ h => nomatch h), (fun _ _ _ _ h => nomatch h), (fun _ _ _ h => nomatch h), (fun _ _ _ _ _ _ h => nomatch h)⟩
theorem goodP {p : I.Im} (hp : I.okI p = true) : Good p (LBp p) (NWp p) := by
 obtain ⟨⟨_, _, hnd⟩, _, h4⟩ := (I.okI_iff p).1 hp
 have hfn : ∀ {k : Nat} {f : F.Fu}, p.fn[k]? = some f → F.okF f = true := fun h => List.all_eq_true.1 h4 _ (List.mem_of_getElem? h)
 have hlb : ∀ {k i : Nat} {s : Bs}, LBp p k i = some s → ∃ f n, p.fn[k]? = some f ∧ n < (tgs f.bd).length ∧ n ≤ 511 ∧ (tgs f.bd)[n]? = some i ∧ s = lbl ((n : Nat) : Int) := by
  intro k i s h
  unfold LBp at h
  cases hf : p.fn[k]? with
  | none => rw [hf] at h; cases h
  | some f =>
   rw [hf] at h
   obtain ⟨n, h1, h2, h3⟩ := labA_some h
   have := tgs_len f.bd
   have := (ok_body (hfn hf)).2.2.1
   exact ⟨f, n, rfl, h1, by omega, h2, h3⟩
 refine ⟨fun k i s h => ?_, fun k i j s hi hj => ?_, fun k x s h => ?_, fun k f x s hf hx h => ?_⟩
 ·obtain ⟨f, n, _, _, h1, _, rfl⟩ := hlb h
  exact lbl_ok (by omega)
 ·obtain ⟨f, n, h1, _, h3, h4, h5⟩ := hlb hi
  obtain ⟨f', n', h1', _, h3', h4', h5'⟩ := hlb hj
  rw [h1] at h1'
  injection h1' with e
  subst e
  rw [h5] at h5'
  have := lbl_inj (by omega) (by omega) h5'
  have : n = n' := by omega
  subst this
  rw [h4] at h4'
  injection h4'
 ·unfold NWp at h
  split at h
  ·rename_i hg
   obtain ⟨f, n, _, _, h1, _, rfl⟩ := hlb h
   exact ⟨lbl_ok (by omega), by rw [kind_goes hg]; decide⟩
  ·split at h
   ·rename_i hk
    cases hf : p.fn[x.2.1.toNat]? with
    | none => rw [hf] at h; cases h
    | some g =>
     rw [hf] at h
     injection h with h
     subst h
     exact ⟨((F.okF_iff g).1 (hfn hf)).1, by rw [row_func _ hk]; decide⟩
   ·cases h
 ·obtain ⟨b1, _, _, b4⟩ := ok_body (hfn hf)
  have ho := List.all_eq_true.1 b1 x hx
  unfold NWp at h
  split at h
  ·rename_i hg
   have hin := C.gB_in hg
   have h6 := b4 x hx
   rw [C.gN_yes hg] at h6
   exact .inl ⟨kind_goes hg, x.2.1.toNat, by omega, by omega, h⟩
  ·split at h
   ·rename_i hk
    have h3 := (O.ok_op ho).2.1
    rw [hk] at h3
    have hb := (O.in_bounds h3).2.1 (by decide)
    cases hf2 : p.fn[x.2.1.toNat]? with
    | none => rw [hf2] at h; cases h
    | some g =>
     rw [hf2] at h
     injection h with h
     subst h
     exact .inr ⟨row_func _ hk, x.2.1.toNat, by omega, find_nodup hnd hf2⟩
   ·cases h

/-! ### The listings as lines -/

abbrev LR := Bs × Int × Int
def noteB (i : Nat) : Bs := [32, 59, 32] ++ Lib.itoa (i : Int)
def insS (kind : Nat) (p : I.Im) (k i : Nat) (x : C.I3) : Bs := joinW (insL (if kind = 0 then NWp p k x else none) x) ++ (if kind = 2 then noteB i else [])
def itemR (kind : Nat) (p : I.Im) (t : List Nat) (k i : Nat) (x : C.I3) : List LR := (if kind = 0 then (match labA t i with | some s => [(s ++ [58], -1, -1)] | none => []) else []) ++ [(insS kind p k i x, (k : Int), (i : Int))]
def bodyR (kind : Nat) (p : I.Im) (t : List Nat) (k i : Nat) : List C.I3 → List LR
 | [] => []
 | x :: r => itemR kind p t k i x ++ bodyR kind p t k (i + 1) r
def plainR (w : List Bs) : LR := (joinW w, -1, -1)
def funcR (kind : Nat) (p : I.Im) (k : Nat) (f : F.Fu) : List LR := (headT f).map plainR ++ bodyR kind p (tgs f.bd) k 0 f.bd
def funcsR (kind : Nat) (p : I.Im) (k : Nat) : List F.Fu → List LR
 | [] => []
 | f :: r => funcR kind p k f ++ funcsR kind p (k + 1) r
def allR (kind : Nat) (p : I.Im) : List LR := p.sh.map (fun s => plainR (shapeT s)) ++ funcsR kind p 0 p.fn
def textOf (l : List Bs) : Bs := l.flatMap fun s => s ++ [10]
def textR (kind : Nat) (p : I.Im) : Bs := textOf ((allR kind p).map Prod.fst)
theorem textOf_append (a b : List Bs) : textOf (a ++ b) = textOf a ++ textOf b := by unfold textOf; rw [List.flatMap_append]
theorem textOf_join (l : List (List Bs)) : textOf (l.map joinW) = flat l := by unfold textOf flat; rw [List.flatMap_map]

section
variable {p : I.Im} {k : Nat} {t : List Nat} (ht : ∀ i, LBp p k i = labA t i)
include ht
theorem body_r0 : ∀ (b : List C.I3) (i : Nat), (bodyR 0 p t k i b).map Prod.fst = (bodyL (LBp p k) (NWp p k) i b).map joinW
 | [], _ => rfl
 | x :: b, i => by
  rw [bodyR, bodyL, List.map_append, List.map_append, body_r0 b (i + 1)]
  congr 1
  unfold itemR itemL
  rw [List.map_append, List.map_append, ht i, if_pos rfl]
  congr 1
  ·cases labA t i <;> rfl
  ·show [insS 0 p k i x] = _
   unfold insS
   rw [if_pos rfl, if_neg (by decide), List.append_nil]
   rfl
end
theorem funcs_r0 {p : I.Im} : ∀ (q : List F.Fu) (k : Nat), (∀ j f, q[j]? = some f → p.fn[k + j]? = some f) → (funcsR 0 p k q).map Prod.fst = (funcsL (LBp p) (NWp p) k q).map joinW
 | [], _, _ => rfl
 | f :: q, k, h => by
  have h0 := h 0 f rfl
  rw [Nat.add_zero] at h0
  rw [funcsR, funcsL, List.map_append, List.map_append, funcs_r0 q (k + 1) (fun j g hg => by rw [show k + 1 + j = k + (j + 1) by omega]; exact h (j + 1) g hg)]
  congr 1
  unfold funcR funcL
  rw [List.map_append, List.map_append, body_r0 (t := tgs f.bd) (fun i => by unfold LBp; rw [h0]; rfl), List.map_map]
  rfl
theorem text0 (p : I.Im) : textR 0 p = flat (imgL (LBp p) (NWp p) p) := by
 unfold textR allR imgL
 rw [← textOf_join, List.map_append, List.map_append, funcs_r0 p.fn 0 (fun j f h => by rw [Nat.zero_add]; exact h), List.map_map, List.map_map]
 rfl
theorem body_r1 (p : I.Im) (t : List Nat) (k : Nat) : ∀ (b : List C.I3) (i : Nat), (bodyR 1 p t k i b).map Prod.fst = (bodyL (LB0 k) (NW0 k) i b).map joinW
 | [], _ => rfl
 | x :: b, i => by
  rw [bodyR, bodyL, List.map_append, List.map_append, body_r1 p t k b (i + 1)]
  congr 1
  show [insS 1 p k i x] = _
  unfold insS
  rw [if_neg (by decide), if_neg (by decide), List.append_nil]
  rfl
theorem funcs_r1 (p : I.Im) : ∀ (q : List F.Fu) (k : Nat), (funcsR 1 p k q).map Prod.fst = (funcsL LB0 NW0 k q).map joinW
 | [], _ => rfl
 | f :: q, k => by
  rw [funcsR, funcsL, List.map_append, List.map_append, funcs_r1 p q (k + 1)]
  congr 1
  unfold funcR funcL
  rw [List.map_append, List.map_append, body_r1 p (tgs f.bd) k, List.map_map]
  rfl
theorem text1 (p : I.Im) : textR 1 p = flat (imgL LB0 NW0 p) := by
 unfold textR allR imgL
 rw [← textOf_join, List.map_append, List.map_append, funcs_r1 p p.fn 0, List.map_map, List.map_map]
 rfl

/-! ### What is read of them -/

def SayL (l : List Bs) (ws : List (List Bs)) : Prop := l.map wordsL = ws ∧ ∀ s ∈ l, noLF s = true
theorem lgo_say : ∀ (l : List Bs) (ws : List (List Bs)) (n : Nat), SayL l ws → (∀ w ∈ ws, cleanW w = true) → lgo n [] (textOf l) = num n ws
 | [], ws, n, h, _ => by
  obtain ⟨h, _⟩ := h
  subst h
  rfl
 | s :: l, ws, n, h, hc => by
  obtain ⟨h1, h2⟩ := h
  subst h1
  have e : textOf (s :: l) = s ++ 10 :: textOf l := by unfold textOf; rw [List.flatMap_cons, List.append_assoc]; rfl
  have hs : wordsL s ≠ [] := fun e => by
   have := hc (wordsL s) (by simp)
   rw [e] at this
   exact absurd this (by decide)
  rw [e, lgo_full (h2 s (by simp)), one_some hs, List.map_cons, num, lgo_say l _ (n + 1) ⟨rfl, fun s hs => h2 s (by simp [hs])⟩ (fun w hw => hc w (by simp [hw]))]
  rfl
theorem say_join {l : List (List Bs)} (h : ∀ w ∈ l, cleanW w = true) : SayL (l.map joinW) l := by
 refine ⟨?_, fun s hs => ?_⟩
 ·rw [List.map_map]
  conv => rhs; rw [← List.map_id l]
  refine List.map_congr_left fun w hw => ?_
  exact words_join ((cleanW_iff w).1 (h w hw)).2
 ·obtain ⟨w, hw, rfl⟩ := List.mem_map.1 hs
  exact join_noLF ((cleanW_iff w).1 (h w hw)).2
theorem say_append {a b : List Bs} {x y : List (List Bs)} (h : SayL a x) (k : SayL b y) : SayL (a ++ b) (x ++ y) := by
 refine ⟨by rw [List.map_append, h.1, k.1], fun s hs => ?_⟩
 rcases List.mem_append.1 hs with hs | hs
 ·exact h.2 s hs
 ·exact k.2 s hs
theorem note_noLF (i : Nat) : noLF (noteB i) = true := by
 unfold noLF noteB
 rw [List.all_append, Bool.and_eq_true]
 refine ⟨by decide, List.all_eq_true.2 fun c hc => decide_eq_true ?_⟩
 rcases itoa_in _ c hc with rfl | h
 ·decide
 ·rintro rfl; revert h; decide
theorem ins_say {w : List Bs} (h : cleanW w = true) (i : Nat) : wordsL (joinW w ++ noteB i) = w ∧ noLF (joinW w ++ noteB i) = true := by
 have h2 := ((cleanW_iff w).1 h).2
 refine ⟨?_, ?_⟩
 ·have e : joinW w ++ noteB i = joinW w ++ ([32, 59] ++ ([32] ++ Lib.itoa (i : Int))) := by unfold noteB; simp
  rw [e]
  show wgo [] _ = _
  rw [wgo_note]
  exact words_join h2
 ·unfold noLF
  rw [List.all_append, Bool.and_eq_true]
  exact ⟨join_noLF h2, note_noLF i⟩
theorem body_r2 (p : I.Im) (t : List Nat) (k : Nat) : ∀ (b : List C.I3) (i : Nat), b.all C.ok1 = true → SayL ((bodyR 2 p t k i b).map Prod.fst) (bodyL (LB0 k) (NW0 k) i b)
 | [], _, _ => ⟨rfl, fun s hs => by cases hs⟩
 | x :: b, i, hb => by
  rw [List.all_cons, Bool.and_eq_true] at hb
  rw [bodyR, bodyL, List.map_append]
  refine say_append ?_ (body_r2 p t k b (i + 1) hb.2)
  obtain ⟨h1, h2⟩ := ins_say (wordsX_clean hb.1) i
  have e : (itemR 2 p t k i x).map Prod.fst = [joinW (wordsX x) ++ noteB i] := rfl
  have e2 : itemL (LB0 k i) (NW0 k x) x = [wordsX x] := rfl
  rw [e, e2]
  exact ⟨by rw [List.map_cons, h1]; rfl, fun s hs => by rw [List.mem_singleton] at hs; subst hs; exact h2⟩
theorem funcs_r2 (p : I.Im) : ∀ (q : List F.Fu) (k : Nat), q.all F.okF = true → SayL ((funcsR 2 p k q).map Prod.fst) (funcsL LB0 NW0 k q)
 | [], _, _ => ⟨rfl, fun s hs => by cases hs⟩
 | f :: q, k, hq => by
  rw [List.all_cons, Bool.and_eq_true] at hq
  rw [funcsR, funcsL, List.map_append]
  refine say_append ?_ (funcs_r2 p q (k + 1) hq.2)
  unfold funcR funcL
  rw [List.map_append, List.map_map]
  refine say_append ?_ (body_r2 p (tgs f.bd) k f.bd 0 (ok_body hq.1).1)
  exact say_join fun w hw => func_clean (lab := false) hq.1 w (List.mem_append_left _ hw)
theorem lines2 {p : I.Im} (hp : I.okI p = true) : linesL (textR 2 p) = num 1 (imgL LB0 NW0 p) := by
 obtain ⟨_, h3, h4⟩ := (I.okI_iff p).1 hp
 refine lgo_say _ _ 1 ?_ (img_cleanN (good0 p) hp)
 unfold allR imgL
 rw [List.map_append, List.map_map]
 refine say_append ?_ (funcs_r2 p p.fn 0 h4)
 have h := say_join (l := p.sh.map shapeT) fun w hw => img_clean (lab := false) hp w (List.mem_append_left _ hw)
 rw [List.map_map] at h
 exact h
theorem lines0 {p : I.Im} (hp : I.okI p = true) : linesL (textR 0 p) = num 1 (imgL (LBp p) (NWp p) p) := by rw [text0, lines_flat (img_cleanN (goodP hp) hp)]
theorem lines1 {p : I.Im} (hp : I.okI p = true) : linesL (textR 1 p) = num 1 (imgL LB0 NW0 p) := by rw [text1, lines_flat (img_cleanN (good0 p) hp)]
theorem parse_list {p : I.Im} (hp : I.okI p = true) {kind : Nat} (hk : kind ≤ 2) (hl : (textR kind p).length ≤ 131072) : parseL (textR kind p) = (p, 0, 0) := by
 rw [parse_else (by omega)]
 have : kind = 0 ∨ kind = 1 ∨ kind = 2 := by omega
 rcases this with rfl | rfl | rfl
 ·rw [lines0 hp]; exact say_imgN (goodP hp) hp
 ·rw [lines1 hp]; exact say_imgN (good0 p) hp
 ·rw [lines2 hp]; exact say_imgN (good0 p) hp
theorem norm_list {p : I.Im} (hp : I.okI p = true) : normL (textR 0 p) = textR 0 p ∧ normL (textR 2 p) = textR 1 p := by
 refine ⟨by rw [text0]; exact norm_imgN (goodP hp) hp, ?_⟩
 unfold normL
 rw [lines2 hp, num_snd, text1]

end Go.Proofs.YtgnooffedmeenaaGreatDoor.M.L

namespace Go.Proofs.YtgnooffedmeenaaGreatDoor.M.L
open Go.RowKit

section
variable {zs : List Int}
theorem keeps_iff {j : Nat} : Lib.keeps zs.toArray j = true ↔ j = 0 ∨ zs.toArray[j]! ≠ zs.toArray[j - 1]! := by unfold Lib.keeps; rw [decide_eq_true_iff]
theorem get_bang {j : Nat} (h : j < zs.length) : zs.toArray[j]! = zs[j] := by simp [h]
theorem compact_mem (x : Int) : x ∈ Lib.compact zs ↔ x ∈ zs := by
 unfold Lib.compact Lib.compactUpTo
 constructor
 ·intro h
  obtain ⟨j, hj, rfl⟩ := List.mem_map.1 h
  have hl := List.mem_range.1 (List.mem_filter.1 hj).1
  rw [get_bang hl]
  exact List.getElem_mem _
 ·intro h
  obtain ⟨j, hj, rfl⟩ := List.getElem_of_mem h
  have key : ∀ j (hj : j < zs.length), zs[j] ∈ ((List.range zs.length).filter (Lib.keeps zs.toArray)).map (zs.toArray[·]!) := by
   intro j
   induction j with
   | zero =>
    intro hj
    exact List.mem_map.2 ⟨0, List.mem_filter.2 ⟨List.mem_range.2 hj, keeps_iff.2 (.inl rfl)⟩, get_bang hj⟩
   | succ j ih =>
    intro hj
    by_cases e : zs[j + 1] = zs[j]
    ·rw [e]; exact ih (by omega)
    ·refine List.mem_map.2 ⟨j + 1, List.mem_filter.2 ⟨List.mem_range.2 hj, keeps_iff.2 (.inr ?_)⟩, get_bang hj⟩
     rw [get_bang hj, Nat.add_sub_cancel, get_bang (by omega)]
     exact e
  exact key j hj
theorem compact_asc (h : zs.Pairwise (· ≤ ·)) : (Lib.compact zs).Pairwise (· < ·) := by
 unfold Lib.compact Lib.compactUpTo
 rw [List.pairwise_map]
 have h1 : ((List.range zs.length).filter (Lib.keeps zs.toArray)).Pairwise (· < ·) := List.Pairwise.filter _ List.pairwise_lt_range
 refine List.Pairwise.imp_of_mem ?_ h1
 intro a b ha hb hab
 have hal := List.mem_range.1 (List.mem_filter.1 ha).1
 have hbl := List.mem_range.1 (List.mem_filter.1 hb).1
 have hk := keeps_iff.1 (List.mem_filter.1 hb).2
 have hle : ∀ i j (hi : i < zs.length) (hj : j < zs.length), i ≤ j → zs[i] ≤ zs[j] := fun i j hi hj hij => by
  rcases Nat.lt_or_eq_of_le hij with hlt | rfl
  ·exact (List.pairwise_iff_getElem.1 h) i j hi hj hlt
  ·exact Int.le_refl _
 show zs.toArray[a]! < zs.toArray[b]!
 rcases hk with rfl | hk
 ·omega
 ·have e1 := hle a (b - 1) hal (by omega) (by omega)
  have e2 := hle (b - 1) b (by omega) hbl (by omega)
  rw [get_bang hbl, get_bang (show b - 1 < zs.length by omega)] at hk
  rw [get_bang hal, get_bang hbl]
  omega
end
theorem asc_ext : ∀ (l r : List Int), l.Pairwise (· < ·) → r.Pairwise (· < ·) → (∀ x, x ∈ l ↔ x ∈ r) → l = r
 | [], [], _, _, _ => rfl
 | [], y :: r, _, _, h => by have := (h y).2 (by simp); cases this
 | x :: l, [], _, _, h => by have := (h x).1 (by simp); cases this
 | x :: l, y :: r, hl, hr, h => by
  rw [List.pairwise_cons] at hl hr
  have e : x = y := by
   have h1 : x ∈ y :: r := (h x).1 (by simp)
   have h2 : y ∈ x :: l := (h y).2 (by simp)
   rcases List.mem_cons.1 h1 with e | h1
   ·exact e
   ·rcases List.mem_cons.1 h2 with e | h2
    ·exact e.symm
    ·have := hl.1 y h2; have := hr.1 x h1; omega
  subst e
  congr 1
  refine asc_ext l r hl.2 hr.2 fun z => ⟨fun hz => ?_, fun hz => ?_⟩
  ·have h1 := (h z).1 (List.mem_cons_of_mem _ hz)
   rcases List.mem_cons.1 h1 with e | h1
   ·have := hl.1 z hz; omega
   ·exact h1
  ·have h1 := (h z).2 (List.mem_cons_of_mem _ hz)
   rcases List.mem_cons.1 h1 with e | h1
   ·have := hr.1 z hz; omega
   ·exact h1
theorem sort_asc (l : List Int) : (l.mergeSort fun x y => decide (x ≤ y)).Pairwise (· ≤ ·) := by
 have h := List.pairwise_mergeSort (le := fun x y : Int => decide (x ≤ y)) (fun a b c h1 h2 => by simp only [decide_eq_true_eq] at *; omega) (fun a b => by simp only [Bool.or_eq_true, decide_eq_true_eq]; omega) l
 exact h.imp fun h => of_decide_eq_true h

def goL (b : List C.I3) : List Int := b.filterMap fun x => if C.gB x = true then some (C.gN x) else none
def tgI (b : List C.I3) : List Int := Lib.compact ((goL b).mergeSort fun x y => decide (x ≤ y))
theorem goL_len (b : List C.I3) : (goL b).length ≤ b.length := List.length_filterMap_le _ _
theorem goL_mem {b : List C.I3} {t : Int} : t ∈ goL b ↔ ∃ x ∈ b, C.gB x = true ∧ C.gN x = t := by
 unfold goL
 rw [List.mem_filterMap]
 constructor
 ·rintro ⟨x, hx, h⟩
  split at h
  ·rename_i hg
   injection h with h
   exact ⟨x, hx, hg, h⟩
  ·cases h
 ·rintro ⟨x, hx, hg, h⟩
  exact ⟨x, hx, by rw [if_pos hg, h]⟩
theorem tgI_eq {b : List C.I3} (h : ∀ x ∈ b, C.gN x < (b.length : Int)) : tgI b = (tgs b).map fun i => ((i : Nat) : Int) := by
 refine asc_ext _ _ (compact_asc (sort_asc _)) ?_ fun t => ?_
 ·rw [List.pairwise_map]
  unfold tgs
  refine List.Pairwise.imp ?_ (List.Pairwise.filter _ List.pairwise_lt_range)
  intro a c hac
  show ((a : Nat) : Int) < (c : Int)
  omega
 ·unfold tgI
  rw [compact_mem, List.mem_mergeSort, goL_mem, List.mem_map]
  constructor
  ·rintro ⟨x, hx, hg, rfl⟩
   have h1 := C.gB_in hg
   have h2 := h x hx
   have h3 := C.gN_yes hg
   refine ⟨(C.gN x).toNat, tgs_mem.2 ⟨by omega, hit_of hx hg ?_⟩, ?_⟩
   ·rw [h3]; omega
   ·rw [h3]; omega
  ·rintro ⟨i, hi, rfl⟩
   obtain ⟨_, h2⟩ := tgs_mem.1 hi
   unfold hitB at h2
   rw [List.any_eq_true] at h2
   obtain ⟨x, hx, h3⟩ := h2
   rw [Bool.and_eq_true, decide_eq_true_iff] at h3
   exact ⟨x, hx, h3.1, by rw [C.gN_yes h3.1]; exact h3.2⟩
end Go.Proofs.YtgnooffedmeenaaGreatDoor.M.L
