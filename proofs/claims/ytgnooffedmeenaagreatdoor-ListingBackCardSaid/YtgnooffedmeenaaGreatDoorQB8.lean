/-
  Part 8 of the proofs of LBackRow, LLabelsRow: what is laid, and what the functions that the law runs answer. Conditions: each theorem names its own.
-/
import Derived.Laws.ResultCell
import Derived.Laws.Rows
import Derived.Lib.IndexLaws
import Derived.Lib.Split
import Derived.StillTail
import Derived.Test.YtgnooffedmeenaaGreatDoorQB7
namespace Go.Proofs.YtgnooffedmeenaaGreatDoor.M.L
open Go.RowKit

theorem fm_congr {α β : Type} {f g : α → Option β} : ∀ {l : List α}, (∀ x ∈ l, f x = g x) → l.filterMap f = l.filterMap g
 | [], _ => rfl
 | x :: l, h => by rw [List.filterMap_cons, List.filterMap_cons, h x (by simp), fm_congr fun y hy => h y (by simp [hy])]
theorem names_append (a b : List Nm) (fn : Int) : namesL (a ++ b) fn = namesL a fn ++ namesL b fn := by unfold namesL; rw [List.filter_append, List.map_append]
theorem names_other {ns : List Nm} {fn : Int} (h : ∀ m ∈ ns, (m.fn : Int) ≠ fn) : namesL ns fn = [] := by
 unfold namesL
 rw [List.map_eq_nil_iff, List.filter_eq_nil_iff]
 intro m hm
 have := h m hm
 rw [Bool.and_eq_true, decide_eq_true_iff]
 rintro ⟨_, e⟩
 exact this e
theorem names_bodyN {lb : Nat → Option Bs} {nw : C.I3 → Option Bs} {k : Nat} : ∀ (b : List C.I3) (n i : Nat), namesL (bodyN lb nw k n i b) (k : Int) = ((List.range b.length).map fun j => i + j).filterMap lb
 | [], _, _ => rfl
 | x :: b, n, i => by
  have e : (List.range (x :: b).length).map (fun j => i + j) = i :: (List.range b.length).map (fun j => i + 1 + j) := by
   rw [List.length_cons, List.range_succ_eq_map, List.map_cons, List.map_map, Nat.add_zero]
   congr 1
   refine List.map_congr_left fun j _ => ?_
   show i + (j + 1) = i + 1 + j
   omega
  rw [bodyN, names_append, names_bodyN b _ (i + 1), e, itemN, names_append]
  have e1 : namesL (insN (nw x) k (n + (labL (lb i)).length) i) (k : Int) = [] := by
   unfold namesL
   cases nw x with
   | none => rfl
   | some s => rfl
  have e2 : namesL (labN (lb i) k n i) (k : Int) = (match lb i with | some s => [s] | none => []) := by
   unfold namesL
   cases lb i with
   | none => rfl
   | some s =>
    show (List.filter _ [_]).map _ = [s]
    simp
  rw [e1, e2, List.append_nil, List.filterMap_cons]
  cases lb i <;> rfl
theorem names_funcsN {LB : Labs} {NW : Nams} : ∀ (q : List F.Fu) (k n j : Nat) (f : F.Fu), q[j]? = some f → namesL (funcsN LB NW k n q) ((k + j : Nat) : Int) = (List.range f.bd.length).filterMap (LB (k + j))
 | [], k, n, j, f, h => by simp at h
 | g :: q, k, n, 0, f, h => by
  rw [List.getElem?_cons_zero] at h
  injection h with h
  subst h
  have e := names_bodyN (lb := LB k) (nw := NW k) (k := k) g.bd (n + (headT g).length) 0
  rw [funcsN, names_append, Nat.add_zero, names_other (ns := funcsN LB NW (k + 1) _ q) (fun m hm => ?_), List.append_nil]
  ·show namesL (bodyN (LB k) (NW k) k (n + (headT g).length) 0 g.bd) (k : Int) = _
   rw [e]
   congr 1
   conv => rhs; rw [← List.map_id (List.range g.bd.length)]
   exact List.map_congr_left fun j _ => Nat.zero_add j
  ·obtain ⟨j, _, _, h, _⟩ := funcsN_ok q _ _ m hm
   omega
 | g :: q, k, n, j + 1, f, h => by
  have e := names_funcsN (LB := LB) (NW := NW) q (k + 1) (n + (funcL (LB k) (NW k) g).length) j f (by simpa using h)
  rw [funcsN, names_append, names_other (ns := funcN (LB k) (NW k) k n g) (fun m hm => ?_), List.nil_append, show k + (j + 1) = k + 1 + j by omega]
  ·exact e
  ·have := bodyN_fn _ _ _ m hm
   omega
theorem labA_at {t : List Nat} (h : t.Nodup) {j : Nat} (hj : j < t.length) : labA t t[j] = some (lbl ((j : Nat) : Int)) := by
 unfold labA
 rw [show (t.findIdx? fun i => decide (i = t[j])) = some j from ?_]
 ·rfl
 ·rw [List.findIdx?_eq_some_iff_getElem]
  refine ⟨hj, decide_eq_true rfl, fun i hi => ?_⟩
  rw [Bool.not_eq_true, decide_eq_false_iff_not]
  exact fun e => (List.pairwise_iff_getElem.1 h) i j (by omega) hj hi e
theorem tgs_nodup (b : List C.I3) : (tgs b).Nodup := by unfold tgs; exact List.Pairwise.filter _ List.nodup_range
theorem range_labs {b : List C.I3} : (List.range b.length).filterMap (labA (tgs b)) = (List.range (tgs b).length).map fun n => lbl ((n : Nat) : Int) := by
 have e1 : (List.range b.length).filterMap (labA (tgs b)) = (tgs b).filterMap (labA (tgs b)) := by
  conv => rhs; arg 2; unfold tgs
  rw [List.filterMap_filter]
  refine fm_congr fun i hi => ?_
  by_cases h : hitB b i = true
  ·rw [if_pos h]
  ·rw [if_neg h]
   exact labA_none fun hm => h (tgs_mem.1 hm).2
 rw [e1]
 have e2 : (tgs b).filterMap (labA (tgs b)) = (List.range (tgs b).length).filterMap fun n => some (lbl ((n : Nat) : Int)) := by
  have e3 : tgs b = (List.range (tgs b).length).map fun n => (tgs b).getD n 0 := by
   refine List.ext_getElem (by simp) fun n h1 h2 => ?_
   rw [List.getElem_map, List.getElem_range, List.getD_eq_getElem?_getD, List.getElem?_eq_getElem h1]
   rfl
  conv => lhs; arg 2; rw [e3]
  rw [List.filterMap_map]
  refine fm_congr fun n hn => ?_
  have hn := List.mem_range.1 hn
  show labA (tgs b) ((tgs b).getD n 0) = _
  rw [List.getD_eq_getElem?_getD, List.getElem?_eq_getElem hn]
  exact labA_at (tgs_nodup b) hn
 rw [e2, List.filterMap_eq_map']
theorem labels_list {p : I.Im} (hp : I.okI p = true) (hl : (textR 0 p).length ≤ 131072) {i : Nat} {f : F.Fu} (hf : p.fn[i]? = some f) : labelsL (textR 0 p) (i : Int) = (List.range (tgs f.bd).length).map fun n => lbl ((n : Nat) : Int) := by
 unfold labelsL
 rw [if_neg (by omega), lines0 hp]
 unfold labsL
 rw [run_img (goodP hp) hp]
 dsimp only
 rw [end_imgN (goodP hp) hp, if_pos rfl]
 have h := names_funcsN (LB := LBp p) (NW := NWp p) p.fn 0 (1 + p.sh.length) i f hf
 rw [Nat.zero_add] at h
 rw [h, ← range_labs]
 refine fm_congr fun j _ => ?_
 unfold LBp
 rw [hf]
 rfl
theorem labels_plain {p : I.Im} (hp : I.okI p = true) {i : Nat} {f : F.Fu} (hf : p.fn[i]? = some f) : labelsL (textR 1 p) (i : Int) = [] := by
 unfold labelsL
 split
 ·rfl
 ·rw [lines1 hp]
  unfold labsL
  rw [run_img (good0 p) hp]
  dsimp only
  rw [end_imgN (good0 p) hp, if_pos rfl]
  have h := names_funcsN (LB := LB0) (NW := NW0) p.fn 0 (1 + p.sh.length) i f hf
  rw [Nat.zero_add] at h
  rw [h]
  rw [List.filterMap_eq_nil_iff]
  exact fun _ _ => rfl
theorem labels_long {s : Bs} (h : ¬ s.length ≤ 131072) (fn : Int) : labelsL s fn = [] := by
 unfold labelsL
 rw [if_pos (by omega)]
theorem labs_apart {m n : Nat} (hn : n ≤ 512) (hm : m + 1 < n) : lbl (((m + 1 : Nat) : Int)) ≠ lbl ((m : Nat) : Int) := fun e => by
 have := lbl_inj (by omega) (by omega) e
 omega

/-! ### How many lines -/

theorem body_count {p : I.Im} {t : List Nat} {k : Nat} : ∀ (b : List C.I3) (i : Nat), (bodyR 0 p t k i b).length = (bodyR 1 p t k i b).length + (((List.range b.length).map fun j => i + j).filterMap (labA t)).length
 | [], _ => rfl
 | x :: b, i => by
  have e : (List.range (x :: b).length).map (fun j => i + j) = i :: (List.range b.length).map (fun j => i + 1 + j) := by
   rw [List.length_cons, List.range_succ_eq_map, List.map_cons, List.map_map, Nat.add_zero]
   congr 1
   refine List.map_congr_left fun j _ => ?_
   show i + (j + 1) = i + 1 + j
   omega
  rw [bodyR, bodyR, List.length_append, List.length_append, body_count b (i + 1), e, List.filterMap_cons]
  unfold itemR
  rw [if_pos rfl, if_neg (by decide)]
  cases labA t i with
  | none => simp; omega
  | some s => simp; omega
theorem func_count (p : I.Im) (k : Nat) (f : F.Fu) : (funcR 0 p k f).length = (funcR 1 p k f).length + (tgs f.bd).length := by
 unfold funcR
 have h := body_count (p := p) (t := tgs f.bd) (k := k) f.bd 0
 have e : (List.range f.bd.length).map (fun j => 0 + j) = List.range f.bd.length := by
  conv => rhs; rw [← List.map_id (List.range f.bd.length)]
  exact List.map_congr_left fun j _ => Nat.zero_add j
 rw [e, range_labs, List.length_map, List.length_range] at h
 rw [List.length_append, List.length_append, h, Nat.add_assoc]
def sumT (q : List F.Fu) : Nat := (q.map fun f => (tgs f.bd).length).sum
theorem funcs_count (p : I.Im) : ∀ (q : List F.Fu) (k : Nat), (funcsR 0 p k q).length = (funcsR 1 p k q).length + sumT q
 | [], _ => rfl
 | f :: q, k => by
  unfold sumT
  rw [funcsR, funcsR, List.length_append, List.length_append, funcs_count p q (k + 1), func_count, List.map_cons, List.sum_cons]
  unfold sumT
  omega
theorem all_count (p : I.Im) : (allR 0 p).length = (allR 1 p).length + sumT p.fn := by
 unfold allR
 rw [List.length_append, List.length_append, funcs_count, Nat.add_assoc]
theorem count_text : ∀ l : List Bs, (∀ s ∈ l, noLF s = true) → (textOf l).count 10 = l.length
 | [], _ => rfl
 | s :: l, h => by
  have e : textOf (s :: l) = s ++ 10 :: textOf l := by unfold textOf; rw [List.flatMap_cons, List.append_assoc]; rfl
  have hs : s.count 10 = 0 := by
   rw [List.count_eq_zero]
   intro hm
   have := List.all_eq_true.1 (h s (by simp)) _ hm
   exact absurd this (by decide)
  rw [e, List.count_append, hs, List.count_cons, count_text l fun s hs => h s (by simp [hs])]
  simp
theorem all_noLF {p : I.Im} (hp : I.okI p = true) {kind : Nat} (hk : kind ≤ 1) : ∀ s ∈ (allR kind p).map Prod.fst, noLF s = true := by
 have h0 : (allR 0 p).map Prod.fst = (imgL (LBp p) (NWp p) p).map joinW := by
  unfold allR imgL
  rw [List.map_append, List.map_append, funcs_r0 p.fn 0 (fun j f h => by rw [Nat.zero_add]; exact h), List.map_map, List.map_map]
  rfl
 have h1 : (allR 1 p).map Prod.fst = (imgL LB0 NW0 p).map joinW := by
  unfold allR imgL
  rw [List.map_append, List.map_append, funcs_r1 p p.fn 0, List.map_map, List.map_map]
  rfl
 rcases (show kind = 0 ∨ kind = 1 by omega) with rfl | rfl
 ·rw [h0]; exact (say_join (img_cleanN (goodP hp) hp)).2
 ·rw [h1]; exact (say_join (img_cleanN (good0 p) hp)).2
theorem count_list {p : I.Im} (hp : I.okI p = true) : (textR 0 p).count 10 = (textR 1 p).count 10 + sumT p.fn := by
 unfold textR
 rw [count_text _ (all_noLF hp (by decide)), count_text _ (all_noLF hp (by decide)), List.length_map, List.length_map, all_count]

end Go.Proofs.YtgnooffedmeenaaGreatDoor.M.L

namespace Go.Proofs.YtgnooffedmeenaaGreatDoor.M.L
open Go.RowKit

def lineI (p : I.Im) (fn pl : Int) : Option Nat := if 0 ≤ fn then (allR 0 p).findIdx? fun e => decide (e.2.1 = fn ∧ e.2.2 = pl) else none
def placeI (p : I.Im) (line : Int) : Option (Int × Int) := if 1 ≤ line then (match (allR 0 p)[(line - 1).toNat]? with
 | some e => if 0 ≤ e.2.1 then some e.2 else none
 | none => none) else none
end Go.Proofs.YtgnooffedmeenaaGreatDoor.M.L

namespace Go.Proofs.YtgnooffedmeenaaGreatDoor.M
open Go

end Go.Proofs.YtgnooffedmeenaaGreatDoor.M

namespace Go.Proofs.YtgnooffedmeenaaGreatDoor.M
open Go

theorem lines_segs (s : Bs) : linesL s = ones 1 (segs s) := lgo_segs s 1 []
end Go.Proofs.YtgnooffedmeenaaGreatDoor.M

namespace Go.Proofs.YtgnooffedmeenaaGreatDoor.M.L
open Go.RowKit

theorem text_cons (s : Bs) (l : List Bs) : textOf (s :: l) = s ++ 10 :: textOf l := by unfold textOf; rw [List.flatMap_cons, List.append_assoc]; rfl
/-! ### What stands in an instruction's line -/

end Go.Proofs.YtgnooffedmeenaaGreatDoor.M.L

namespace Go.Proofs.YtgnooffedmeenaaGreatDoor.M.L
open Go.RowKit

abbrev Ln4 := Nat × Nat × Nat × Nat
def fu0 : F.Fu := ⟨[], [], [], [], []⟩
def bodyQ (lab : Nat → Bool) (k i : Nat) : Nat → List Ln4
 | 0 => []
 | n + 1 => (if lab i = true then [(3, 0, k, i)] else []) ++ (4, 0, k, i) :: bodyQ lab k (i + 1) n
def funcQ (lab : Nat → Nat → Bool) (k : Nat) (f : F.Fu) : List Ln4 := (1, 0, k, 0) :: ((if f.lc = [] then [] else [(2, 0, k, 0)]) ++ bodyQ (lab k) k 0 f.bd.length)
def funcsQ (lab : Nat → Nat → Bool) (k : Nat) : List F.Fu → List Ln4
 | [] => []
 | f :: r => funcQ lab k f ++ funcsQ lab (k + 1) r
def shapesQ (n : Nat) : List Ln4 := (List.range n).map fun i => (0, i, 0, 0)
def seqQ (lab : Nat → Nat → Bool) (p : I.Im) : List Ln4 := shapesQ p.sh.length ++ funcsQ lab 0 p.fn
def labB (p : I.Im) (k i : Nat) : Bool := (LBp p k i).isSome
def lab0 : Nat → Nat → Bool := fun _ _ => false

def sayQ (kind : Nat) (p : I.Im) (l : Ln4) : Bs :=
 match l.1 with
 | 0 => joinW (shapeT (p.sh[l.2.1]?.getD []))
 | 1 => joinW [funcW, (p.fn[l.2.2.1]?.getD fu0).nm, S.shG (p.fn[l.2.2.1]?.getD fu0).ar (p.fn[l.2.2.1]?.getD fu0).rs]
 | 2 => joinW [localW, W.txt (p.fn[l.2.2.1]?.getD fu0).lc]
 | 3 => ((LBp p l.2.2.1 l.2.2.2).getD []) ++ [58]
 | _ => insS kind p l.2.2.1 l.2.2.2 ((p.fn[l.2.2.1]?.getD fu0).bd[l.2.2.2]?.getD (0, 0, 0))
def toLR (kind : Nat) (p : I.Im) (l : Ln4) : LR := (sayQ kind p l, if l.1 = 4 then (((l.2.2.1 : Nat) : Int), ((l.2.2.2 : Nat) : Int)) else (-1, -1))

theorem bodyQ_lr {kind : Nat} {p : I.Im} {k : Nat} {f : F.Fu} (hf : p.fn[k]? = some f) : ∀ (n i : Nat), i + n = f.bd.length →
  (bodyQ (if kind = 0 then labB p k else lab0 k) k i n).map (toLR kind p) = bodyR kind p (tgs f.bd) k i (f.bd.drop i)
 | 0, i, h => by rw [List.drop_eq_nil_of_le (by omega)]; rfl
 | n + 1, i, h => by
  have hi : i < f.bd.length := by omega
  have ih := bodyQ_lr hf (kind := kind) n (i + 1) (by omega)
  rw [List.drop_eq_getElem_cons hi, bodyR, bodyQ, List.map_append, List.map_cons, ih]
  unfold itemR
  have e1 : toLR kind p (4, 0, k, i) = (insS kind p k i f.bd[i], (k : Int), (i : Int)) := by
   unfold toLR sayQ
   dsimp only
   rw [hf, if_pos rfl]
   simp [List.getElem?_eq_getElem hi]
  have hlb : LBp p k i = labA (tgs f.bd) i := by unfold LBp; rw [hf]; rfl
  rw [e1, List.append_assoc]
  congr 1
  by_cases hk : kind = 0
  ·rw [if_pos hk, if_pos hk]
   unfold labB
   rw [hlb]
   cases hl : labA (tgs f.bd) i with
   | none => rfl
   | some s =>
    show [toLR kind p (3, 0, k, i)] = [(s ++ [58], -1, -1)]
    unfold toLR sayQ
    dsimp only
    rw [hlb, hl]
    rfl
  ·rw [if_neg hk, if_neg hk]
   rfl
theorem funcQ_lr {kind : Nat} {p : I.Im} {k : Nat} {f : F.Fu} (hf : p.fn[k]? = some f) : (funcQ (if kind = 0 then labB p else lab0) k f).map (toLR kind p) = funcR kind p k f := by
 have h := bodyQ_lr (kind := kind) hf f.bd.length 0 (by omega)
 rw [List.drop_zero] at h
 unfold funcQ funcR headT
 have e0 : (if kind = 0 then labB p else lab0) k = if kind = 0 then labB p k else lab0 k := by split <;> rfl
 rw [e0, List.map_cons, List.map_append, h, List.map_cons, List.cons_append]
 congr 1
 ·unfold toLR sayQ
  dsimp only
  rw [hf]
  rfl
 ·congr 1
  by_cases hl : f.lc = []
  ·rw [if_pos hl, if_pos hl]; rfl
  ·rw [if_neg hl, if_neg hl]
   show [toLR kind p (2, 0, k, 0)] = [_]
   unfold toLR sayQ
   dsimp only
   rw [hf]
   rfl
theorem funcsQ_lr {kind : Nat} {p : I.Im} : ∀ (q : List F.Fu) (k : Nat), (∀ j f, q[j]? = some f → p.fn[k + j]? = some f) → (funcsQ (if kind = 0 then labB p else lab0) k q).map (toLR kind p) = funcsR kind p k q
 | [], _, _ => rfl
 | f :: q, k, h => by
  have h0 := h 0 f rfl
  rw [Nat.add_zero] at h0
  rw [funcsQ, funcsR, List.map_append, funcQ_lr h0, funcsQ_lr q (k + 1) (fun j g hg => by rw [show k + 1 + j = k + (j + 1) by omega]; exact h (j + 1) g (by rw [List.getElem?_cons_succ]; exact hg))]
theorem seqQ_lr (kind : Nat) (p : I.Im) : (seqQ (if kind = 0 then labB p else lab0) p).map (toLR kind p) = allR kind p := by
 unfold seqQ allR
 rw [List.map_append, funcsQ_lr p.fn 0 (fun j f h => by rw [Nat.zero_add]; exact h)]
 congr 1
 unfold shapesQ
 rw [List.map_map]
 refine List.ext_getElem (by simp) fun i h1 h2 => ?_
 have hi : i < p.sh.length := by simpa using h2
 simp only [List.getElem_map, List.getElem_range, Function.comp]
 unfold toLR sayQ plainR
 simp [List.getElem?_eq_getElem hi]
theorem text_seq (kind : Nat) (p : I.Im) : textR kind p = textOf ((seqQ (if kind = 0 then labB p else lab0) p).map (sayQ kind p)) := by
 unfold textR
 rw [← seqQ_lr, List.map_map]
 rfl

/-! ### Which lines there are -/

structure OkQ (lab : Nat → Nat → Bool) (p : I.Im) (l : Ln4) : Prop where
 w : l.1 ≤ 4
 s : l.1 = 0 → l.2.1 < p.sh.length ∧ l.2.2 = (0, 0)
 f : l.1 ≠ 0 → l.2.1 = 0 ∧ ∃ f, p.fn[l.2.2.1]? = some f ∧ (3 ≤ l.1 → l.2.2.2 < f.bd.length) ∧ (l.1 ≤ 2 → l.2.2.2 = 0)
 b : l.1 = 3 → lab l.2.2.1 l.2.2.2 = true
theorem bodyQ_mem {lab : Nat → Bool} {k : Nat} {l : Ln4} : ∀ (n i : Nat), l ∈ bodyQ lab k i n → ∃ j, i ≤ j ∧ j < i + n ∧ ((l = (3, 0, k, j) ∧ lab j = true) ∨ l = (4, 0, k, j))
 | 0, _, h => by cases h
 | n + 1, i, h => by
  rw [bodyQ, List.mem_append, List.mem_cons] at h
  rcases h with h | h | h
  ·split at h
   ·rename_i hl
    rw [List.mem_singleton] at h
    exact ⟨i, Nat.le_refl _, by omega, .inl ⟨h, hl⟩⟩
   ·cases h
  ·exact ⟨i, Nat.le_refl _, by omega, .inr h⟩
  ·obtain ⟨j, h1, h2, h3⟩ := bodyQ_mem n (i + 1) h
   exact ⟨j, by omega, by omega, h3⟩
theorem funcsQ_mem {lab : Nat → Nat → Bool} {l : Ln4} : ∀ (q : List F.Fu) (k : Nat), l ∈ funcsQ lab k q → ∃ j f, q[j]? = some f ∧ l ∈ funcQ lab (k + j) f
 | [], _, h => by cases h
 | f :: q, k, h => by
  rw [funcsQ, List.mem_append] at h
  rcases h with h | h
  ·exact ⟨0, f, rfl, h⟩
  ·obtain ⟨j, g, h1, h2⟩ := funcsQ_mem q (k + 1) h
   exact ⟨j + 1, g, by rw [List.getElem?_cons_succ]; exact h1, by rw [show k + (j + 1) = k + 1 + j by omega]; exact h2⟩
section
variable {lab : Nat → Nat → Bool} {p : I.Im}
theorem ne_lit {a b : Nat} {P : Prop} (h : a = b) (hn : Nat.beq a b = false) : P := by rw [h, Nat.beq_refl] at hn; cases hn
theorem okQ_0 {i : Nat} (h : i < p.sh.length) : OkQ lab p (0, i, 0, 0) :=
 ⟨Nat.zero_le 4, fun _ => ⟨h, rfl⟩, fun h => absurd rfl h, fun h => ne_lit (a := 0) (b := 3) h rfl⟩
theorem okQ_1 {k : Nat} {f : F.Fu} (hf : p.fn[k]? = some f) : OkQ lab p (1, 0, k, 0) :=
 ⟨(by show 1 ≤ 4; decide), fun h => ne_lit (a := 1) (b := 0) h rfl, fun _ => ⟨rfl, f, hf, fun h => absurd (show 3 ≤ 1 from h) (by decide), fun _ => rfl⟩, fun h => ne_lit (a := 1) (b := 3) h rfl⟩
theorem okQ_2 {k : Nat} {f : F.Fu} (hf : p.fn[k]? = some f) : OkQ lab p (2, 0, k, 0) :=
 ⟨(by show 2 ≤ 4; decide), fun h => ne_lit (a := 2) (b := 0) h rfl, fun _ => ⟨rfl, f, hf, fun h => absurd (show 3 ≤ 2 from h) (by decide), fun _ => rfl⟩, fun h => ne_lit (a := 2) (b := 3) h rfl⟩
theorem okQ_3 {k j : Nat} {f : F.Fu} (hf : p.fn[k]? = some f) (hj : j < f.bd.length) (hl : lab k j = true) : OkQ lab p (3, 0, k, j) :=
 ⟨(by show 3 ≤ 4; decide), fun h => ne_lit (a := 3) (b := 0) h rfl, fun _ => ⟨rfl, f, hf, fun _ => hj, fun h => absurd (show 3 ≤ 2 from h) (by decide)⟩, fun _ => hl⟩
theorem okQ_4 {k j : Nat} {f : F.Fu} (hf : p.fn[k]? = some f) (hj : j < f.bd.length) : OkQ lab p (4, 0, k, j) :=
 ⟨(by show 4 ≤ 4; decide), fun h => ne_lit (a := 4) (b := 0) h rfl, fun _ => ⟨rfl, f, hf, fun _ => hj, fun h => absurd (show 4 ≤ 2 from h) (by decide)⟩, fun h => ne_lit (a := 4) (b := 3) h rfl⟩
theorem seqQ_ok {l : Ln4} (h : l ∈ seqQ lab p) : OkQ lab p l := by
 unfold seqQ at h
 rcases List.mem_append.1 h with h | h
 ·unfold shapesQ at h
  obtain ⟨i, hi, rfl⟩ := List.mem_map.1 h
  exact okQ_0 (List.mem_range.1 hi)
 ·obtain ⟨k, f, hf, hl⟩ := funcsQ_mem p.fn 0 h
  rw [Nat.zero_add] at hl
  unfold funcQ at hl
  rcases List.mem_cons.1 hl with rfl | hl
  ·exact okQ_1 hf
  ·rcases List.mem_append.1 hl with hl | hl
   ·split at hl
    ·cases hl
    ·rw [List.mem_singleton] at hl
     subst hl
     exact okQ_2 hf
   ·obtain ⟨j, _, h2, h3⟩ := bodyQ_mem _ _ hl
    rw [Nat.zero_add] at h2
    rcases h3 with ⟨rfl, h4⟩ | rfl
    ·exact okQ_3 hf h2 h4
    ·exact okQ_4 hf h2
end

/-! ### Line and Place by them -/

theorem line_seq (p : I.Im) (fn pl : Int) (hfn : 0 ≤ fn) : lineI p fn pl = (seqQ (labB p) p).findIdx? fun l => decide (l.1 = 4 ∧ ((l.2.2.1 : Nat) : Int) = fn ∧ ((l.2.2.2 : Nat) : Int) = pl) := by
 unfold lineI
 rw [if_pos hfn]
 have e := seqQ_lr 0 p
 rw [if_pos rfl] at e
 rw [← e, List.findIdx?_map]
 congr 1
 funext l
 show decide _ = decide _
 congr 1
 unfold toLR
 dsimp only
 by_cases h4 : l.1 = 4
 ·rw [if_pos h4]; simp [h4]
 ·rw [if_neg h4]
  refine propext ⟨fun h => ?_, fun h => absurd h.1 h4⟩
  have h1 : (-1 : Int) = fn := h.1
  omega
theorem line_neg {p : I.Im} {fn pl : Int} (h : ¬ 0 ≤ fn) : lineI p fn pl = none := if_neg h
theorem place_seq (p : I.Im) (line : Int) : placeI p line = if 1 ≤ line then (match (seqQ (labB p) p)[(line - 1).toNat]? with
  | some l => if l.1 = 4 then some (((l.2.2.1 : Nat) : Int), ((l.2.2.2 : Nat) : Int)) else none
  | none => none) else none := by
 unfold placeI
 have e := seqQ_lr 0 p
 rw [if_pos rfl] at e
 rw [← e, List.getElem?_map]
 split
 ·cases (seqQ (labB p) p)[(line - 1).toNat]? with
  | none => rfl
  | some l =>
   show (if 0 ≤ (toLR 0 p l).2.1 then some (toLR 0 p l).2 else none) = _
   unfold toLR
   dsimp only
   by_cases h4 : l.1 = 4
   ·rw [if_pos h4, if_pos h4]
    exact if_pos (by show (0 : Int) ≤ ((l.2.2.1 : Nat) : Int); omega)
   ·rw [if_neg h4, if_neg h4]
    rfl
 ·rfl

end Go.Proofs.YtgnooffedmeenaaGreatDoor.M.L

namespace Go.Proofs.YtgnooffedmeenaaGreatDoor
open Go.RowKit

section
variable {P : Program} {ops : Array Oper} {md : Region.Mode}

end
end Go.Proofs.YtgnooffedmeenaaGreatDoor

namespace Go.Proofs.YtgnooffedmeenaaGreatDoor.S
open Go.RowKit W

theorem all_no {l : List Int} {p : Int → Bool} {k : Nat} (hk : k < l.length) (h : p l[k] = false) : l.all p = false :=
 List.all_eq_false.2 ⟨_, List.getElem_mem hk, by rw [h]; decide⟩
theorem all_step {l : List Int} {p : Int → Bool} {k : Nat} (hk : k < l.length) (h : (l.take k).all p = true) (h2 : p l[k] = true) : (l.take (k + 1)).all p = true := by
 rw [List.take_succ_eq_append_getElem hk, List.all_append, h]
 simp [h2]
theorem knownF_any (t : Int) (w : World) : Calls Tryz.prog 161 #[.int .i64 t] w fun e w' => e = .returned (.bool (knownB t)) ∧ Keep NoB w w' :=
 (known_any t w).mono fun _ _ ⟨he, hw⟩ => ⟨he, by rw [← hw]; exact Keep.refl _ _⟩
set_option maxHeartbeats 1000000 in
theorem heldF_any (t : Int) (w : World) : Calls Tryz.prog 162 #[.int .i64 t] w fun e w' => e = .returned (.bool (heldB t)) ∧ Keep NoB w w' := by
 have HK := Lib.hid (fun w => known_any t w)
 cases hk : knownB t
 ·rw [hk] at HK
  have hR : heldB t = false := by rw [known_not] at hk; rw [held_not]; omega
  rw [hR]
  clear hk hR
  go_enter Tryz.func162, Tryz.ntmps162
  go_wp2_with (go_at_call 161; refine (HK.out _).mono ?_; rintro e w1 ⟨rfl, rfl⟩)
  go_ret
  exact ⟨rfl, Keep.refl _ _⟩
 ·rw [hk] at HK
  by_cases h4 : t = 4
  ·subst h4
   have hR : heldB 4 = false := by decide
   rw [hR]
   clear hk hR
   go_enter Tryz.func162, Tryz.ntmps162
   go_wp2_with (go_at_call 161; refine (HK.out _).mono ?_; rintro e w1 ⟨rfl, rfl⟩)
   go_ret
   exact ⟨rfl, Keep.refl _ _⟩
  ·have hR : heldB t = true := by rw [known_iff] at hk; rw [held_iff]; omega
   have hq : (t != 4) = true := by rw [bne_iff_ne]; exact h4
   rw [hR]
   clear hk hR h4
   go_enter Tryz.func162, Tryz.ntmps162
   go_wp2_with (go_at_call 161; refine (HK.out _).mono ?_; rintro e w1 ⟨rfl, rfl⟩)
   go_ret
   exact ⟨rfl, Keep.refl _ _⟩

set_option maxRecDepth 100000 in
set_option maxHeartbeats 2000000 in
theorem allS_any (A : Option Addr) (l : List Int) (n c : Nat) (w : World) (hr : Rd w A (ivs l)) (hn : Hid (l.length = n)) (hm : n ≤ 9223372036854775807) (R : Bool) (hR : Hid (R = l.all heldB)) :
  Calls Tryz.prog 174 #[.slice A n c, .func (.func 162) #[] #[]] w fun e w' => e = .returned (.bool R) ∧ Keep NoB w w' := by
 go_enter Tryz.func174, Tryz.ntmps174
 go_wp2
 go_loopw [9] (fun i wr => ∃ k : Nat, k ≤ n ∧ i = .int .i64 k ∧ Hid ((l.take k).all heldB = true) ∧ Keep NoB w wr) (fun i _ => n - (intOf i).toNat)
 case atStart => exact ⟨0, Nat.zero_le _, rfl, rfl, Keep.refl _ _⟩
 case round =>
  obtain ⟨k, hk, rfl, ht, hK⟩ := hrel
  by_cases hlt : k < n
  ·have hka : k < l.length := by rw [hn.out]; exact hlt
   obtain ⟨ga, oa, rfl, hca⟩ := rdI_at hr (by omega)
   have ca := hK.cell (hca k hka) id
   have HT := Lib.hid (fun h => all_step (p := heldB) hka ht.out h)
   have HN := Lib.hid (fun h => all_no (p := heldB) hka h)
   clear hca hr ht
   generalize l[k] = x at ca HT HN
   have HC := Lib.hid (fun w => heldF_any x w)
   cases hx : heldB x
   ·rw [hx] at HC
    obtain rfl : R = false := by rw [hR.out]; exact HN.out hx
    clear hx HT HN hR
    go_wp2_with (go_at_call 162; refine (HC.out _).mono ?_; rintro e w3 ⟨rfl, k3⟩)
    go_ret
    exact ⟨rfl, keepN hK k3⟩
   ·rw [hx] at HC
    have HV := Lib.hid (HT.out hx)
    clear hx HT HN hR
    go_wp2_with (go_at_call 162; refine (HC.out _).mono ?_; rintro e w3 ⟨rfl, k3⟩)
    go_roundw
    case rel => exact ⟨k + 1, by omega, by go_num, HV, keepN hK k3⟩
    case measure => simp [intOf]; omega
  ·obtain rfl : R = true := by
    rw [hR.out]
    have e1 := ht.out
    rwa [List.take_of_length_le (by rw [hn.out]; omega)] at e1
   clear hR
   go_wp2
   go_ret
   exact ⟨rfl, hK⟩

set_option maxRecDepth 100000 in
set_option maxHeartbeats 2000000 in
theorem allK_any (A : Option Addr) (l : List Int) (n c : Nat) (w : World) (hr : Rd w A (ivs l)) (hn : Hid (l.length = n)) (hm : n ≤ 9223372036854775807) (R : Bool) (hR : Hid (R = l.all knownB)) :
  Calls Tryz.prog 160 #[.slice A n c, .func (.func 161) #[] #[]] w fun e w' => e = .returned (.bool R) ∧ Keep NoB w w' := by
 go_enter Tryz.func160, Tryz.ntmps160
 go_wp2
 go_loopw [9] (fun i wr => ∃ k : Nat, k ≤ n ∧ i = .int .i64 k ∧ Hid ((l.take k).all knownB = true) ∧ Keep NoB w wr) (fun i _ => n - (intOf i).toNat)
 case atStart => exact ⟨0, Nat.zero_le _, rfl, rfl, Keep.refl _ _⟩
 case round =>
  obtain ⟨k, hk, rfl, ht, hK⟩ := hrel
  by_cases hlt : k < n
  ·have hka : k < l.length := by rw [hn.out]; exact hlt
   obtain ⟨ga, oa, rfl, hca⟩ := rdI_at hr (by omega)
   have ca := hK.cell (hca k hka) id
   have HT := Lib.hid (fun h => all_step (p := knownB) hka ht.out h)
   have HN := Lib.hid (fun h => all_no (p := knownB) hka h)
   clear hca hr ht
   generalize l[k] = x at ca HT HN
   have HC := Lib.hid (fun w => knownF_any x w)
   cases hx : knownB x
   ·rw [hx] at HC
    obtain rfl : R = false := by rw [hR.out]; exact HN.out hx
    clear hx HT HN hR
    go_wp2_with (go_at_call 161; refine (HC.out _).mono ?_; rintro e w3 ⟨rfl, k3⟩)
    go_ret
    exact ⟨rfl, keepN hK k3⟩
   ·rw [hx] at HC
    have HV := Lib.hid (HT.out hx)
    clear hx HT HN hR
    go_wp2_with (go_at_call 161; refine (HC.out _).mono ?_; rintro e w3 ⟨rfl, k3⟩)
    go_roundw
    case rel => exact ⟨k + 1, by omega, by go_num, HV, keepN hK k3⟩
    case measure => simp [intOf]; omega
  ·obtain rfl : R = true := by
    rw [hR.out]
    have e1 := ht.out
    rwa [List.take_of_length_le (by rw [hn.out]; omega)] at e1
   clear hR
   go_wp2
   go_ret
   exact ⟨rfl, hK⟩

set_option maxRecDepth 100000 in
set_option maxHeartbeats 2000000 in
theorem allH_any (A : Option Addr) (l : List Int) (n c : Nat) (w : World) (hr : Rd w A (ivs l)) (hn : Hid (l.length = n)) (hm : n ≤ 9223372036854775807) (R : Bool) (hR : Hid (R = l.all heldB)) :
  Calls Tryz.prog 160 #[.slice A n c, .func (.func 162) #[] #[]] w fun e w' => e = .returned (.bool R) ∧ Keep NoB w w' := by
 go_enter Tryz.func160, Tryz.ntmps160
 go_wp2
 go_loopw [9] (fun i wr => ∃ k : Nat, k ≤ n ∧ i = .int .i64 k ∧ Hid ((l.take k).all heldB = true) ∧ Keep NoB w wr) (fun i _ => n - (intOf i).toNat)
 case atStart => exact ⟨0, Nat.zero_le _, rfl, rfl, Keep.refl _ _⟩
 case round =>
  obtain ⟨k, hk, rfl, ht, hK⟩ := hrel
  by_cases hlt : k < n
  ·have hka : k < l.length := by rw [hn.out]; exact hlt
   obtain ⟨ga, oa, rfl, hca⟩ := rdI_at hr (by omega)
   have ca := hK.cell (hca k hka) id
   have HT := Lib.hid (fun h => all_step (p := heldB) hka ht.out h)
   have HN := Lib.hid (fun h => all_no (p := heldB) hka h)
   clear hca hr ht
   generalize l[k] = x at ca HT HN
   have HC := Lib.hid (fun w => heldF_any x w)
   cases hx : heldB x
   ·rw [hx] at HC
    obtain rfl : R = false := by rw [hR.out]; exact HN.out hx
    clear hx HT HN hR
    go_wp2_with (go_at_call 162; refine (HC.out _).mono ?_; rintro e w3 ⟨rfl, k3⟩)
    go_ret
    exact ⟨rfl, keepN hK k3⟩
   ·rw [hx] at HC
    have HV := Lib.hid (HT.out hx)
    clear hx HT HN hR
    go_wp2_with (go_at_call 162; refine (HC.out _).mono ?_; rintro e w3 ⟨rfl, k3⟩)
    go_roundw
    case rel => exact ⟨k + 1, by omega, by go_num, HV, keepN hK k3⟩
    case measure => simp [intOf]; omega
  ·obtain rfl : R = true := by
    rw [hR.out]
    have e1 := ht.out
    rwa [List.take_of_length_le (by rw [hn.out]; omega)] at e1
   clear hR
   go_wp2
   go_ret
   exact ⟨rfl, hK⟩

end Go.Proofs.YtgnooffedmeenaaGreatDoor.S

namespace Go.Proofs.YtgnooffedmeenaaGreatDoor.S
open Go.RowKit W

theorem blk2 {w : World} {g : Nat} {t : TypeId} {a0 a1 : Value} (h : Blk w g t #[a0, a1]) : w.cell? ⟨g, 0, none⟩ = some a0 ∧ w.cell? ⟨g, 1, none⟩ = some a1 := ⟨h.cell 0, h.cell 1⟩
theorem okS_len {l : List Int} (h : ¬ (1 ≤ l.length ∧ l.length ≤ 16)) : okS l = false := by unfold okS; rw [decide_eq_false h]; rfl
theorem okS_all {l : List Int} (h : l.all heldB = false) : okS l = false := by unfold okS; rw [h, Bool.and_false]
theorem okS_mk {l : List Int} (h : 1 ≤ l.length ∧ l.length ≤ 16) (h2 : l.all heldB = true) : okS l = true := (okS_iff l).2 ⟨h, h2⟩
theorem okG_len {a r : List Int} (h : ¬ (a.length + r.length ≤ 64)) : okG a r = false := by unfold okG; rw [decide_eq_false h]; rfl
theorem okG_args {a r : List Int} (h : a.all knownB = false) : okG a r = false := by unfold okG; rw [h, Bool.false_and, Bool.and_false]
theorem okG_res {a r : List Int} (h : r.all heldB = false) : okG a r = false := by unfold okG; rw [h, Bool.and_false, Bool.and_false]
theorem okG_mk {a r : List Int} (h : a.length + r.length ≤ 64) (h2 : a.all knownB = true) (h3 : r.all heldB = true) : okG a r = true := (okG_iff a r).2 ⟨h, h2, h3⟩
set_option maxRecDepth 100000 in
set_option maxHeartbeats 2000000 in
theorem chkS_any (A : Option Addr) (l : List Int) (n c : Nat) (w : World) (hr : Rd w A (ivs l)) (hn : Hid (l.length = n)) (hm : n ≤ 9223372036854775807) (R : Int) (hR : Hid (chkS l = R)) :
  Calls Tryz.prog 117 #[.slice A n c] w fun e w' => e = .returned (.int .i64 R) ∧ Keep NoB w w' := by
 by_cases h0 : n = 0
 ·subst h0
  obtain rfl : 60 = R := by rw [← hR.out]; exact (chkS_no (okS_len (by rw [hn.out]; omega))).symm
  go_enter Tryz.func117, Tryz.ntmps117
  go_wp2
  go_ret
  exact ⟨rfl, Keep.refl _ _⟩
 have hq1 : ((n : Int) == 0) = false := by rw [beq_eq_false_iff_ne]; omega
 by_cases h1 : 16 < n
 ·obtain rfl : 60 = R := by rw [← hR.out]; exact (chkS_no (okS_len (by rw [hn.out]; omega))).symm
  clear hR h0
  go_enter Tryz.func117, Tryz.ntmps117
  go_wp2
  go_ret
  exact ⟨rfl, Keep.refl _ _⟩
 have HC0 := Lib.hid (fun w hr (R : Bool) hR => allS_any A l n c w hr hn hm R hR)
 cases hh : l.all heldB
 ·obtain rfl : 60 = R := by rw [← hR.out]; exact (chkS_no (okS_all hh)).symm
  have HC := Lib.hid (fun w hr => HC0.out w hr _ hh.symm)
  clear hh hR HC0 h0
  go_enter Tryz.func117, Tryz.ntmps117
  go_wp2_with (go_at_call 174; refine (HC.out _ hr).mono ?_; rintro e w1 ⟨rfl, k1⟩)
  go_ret
  exact ⟨rfl, k1⟩
 ·obtain rfl : 0 = R := by rw [← hR.out]; exact (chkS_ok (okS_mk (by rw [hn.out]; omega) hh)).symm
  have HC := Lib.hid (fun w hr => HC0.out w hr _ hh.symm)
  clear hh hR HC0 h0
  go_enter Tryz.func117, Tryz.ntmps117
  go_wp2_with (go_at_call 174; refine (HC.out _ hr).mono ?_; rintro e w1 ⟨rfl, k1⟩)
  go_ret
  exact ⟨rfl, k1⟩

set_option maxRecDepth 100000 in
set_option maxHeartbeats 4000000 in
theorem chkG_any (A : Option Addr) (a : List Int) (n c : Nat) (B : Option Addr) (r : List Int) (m d : Nat) (w : World) (ha : Rd w A (ivs a)) (hr : Rd w B (ivs r)) (hn : Hid (a.length = n)) (hm : Hid (r.length = m)) (hn6 : n ≤ 4611686018427387903) (hm6 : m ≤ 4611686018427387903) (R : Int) (hR : Hid (chkG a r = R)) :
  Calls Tryz.prog 102 #[.agg #[.slice A n c, .slice B m d]] w fun e w' => e = .returned (.int .i64 R) ∧ Keep NoB w w' := by
 have bx := Blk.new w 34 #[.slice A n c, .slice B m d]
 have k0 := (Keep.refl NoB w).alloc (.cells #[.slice A n c, .slice B m d] 34)
 by_cases h1 : 64 < n + m
 ·obtain rfl : 61 = R := by rw [← hR.out]; exact (chkG_no (okG_len (by rw [hn.out, hm.out]; omega))).symm
  have hq : (64 : Int) < (n : Int) + (m : Int) := by omega
  clear hR
  go_enter Tryz.func102, Tryz.ntmps102
  go_wp2
  go_ret
  exact ⟨rfl, k0⟩
 have hq : ¬ (64 : Int) < (n : Int) + (m : Int) := by omega
 have HA := Lib.hid (fun w hr (R : Bool) hR => allK_any A a n c w hr hn (by omega) R hR)
 have HB := Lib.hid (fun w hr (R : Bool) hR => allH_any B r m d w hr hm (by omega) R hR)
 cases h2 : a.all knownB
 ·obtain rfl : 61 = R := by rw [← hR.out]; exact (chkG_no (okG_args h2)).symm
  have HA2 := Lib.hid (fun w hr => HA.out w hr _ h2.symm)
  clear h2 hR HA HB
  go_enter Tryz.func102, Tryz.ntmps102
  go_wp2_with (go_at_call 160; refine (HA2.out _ (ha.keepN k0)).mono ?_; rintro e w1 ⟨rfl, k1⟩)
  go_ret
  exact ⟨rfl, keepN k0 k1⟩
 have HA2 := Lib.hid (fun w hr => HA.out w hr _ h2.symm)
 cases h3 : r.all heldB
 ·obtain rfl : 61 = R := by rw [← hR.out]; exact (chkG_no (okG_res h3)).symm
  have HB2 := Lib.hid (fun w hr => HB.out w hr _ h3.symm)
  clear h2 h3 hR HA HB
  go_enter Tryz.func102, Tryz.ntmps102
  go_wp2_with fail
  refine (HA2.out _ (ha.keepN k0)).mono ?_
  rintro e w1 ⟨rfl, k1⟩
  obtain ⟨c0, c1⟩ := blk2 (bx.keep k1 id)
  have hr1 := (hr.keepN k0).keepN k1
  go_wp2_with fail
  refine (HB2.out _ hr1).mono ?_
  rintro e w2 ⟨rfl, k2⟩
  go_wp2
  go_ret
  exact ⟨rfl, keepN (keepN k0 k1) k2⟩
 ·obtain rfl : 0 = R := by rw [← hR.out]; exact (chkG_ok (okG_mk (by rw [hn.out, hm.out]; omega) h2 h3)).symm
  have HB2 := Lib.hid (fun w hr => HB.out w hr _ h3.symm)
  clear h2 h3 hR HA HB
  go_enter Tryz.func102, Tryz.ntmps102
  go_wp2_with fail
  refine (HA2.out _ (ha.keepN k0)).mono ?_
  rintro e w1 ⟨rfl, k1⟩
  obtain ⟨c0, c1⟩ := blk2 (bx.keep k1 id)
  have hr1 := (hr.keepN k0).keepN k1
  go_wp2_with fail
  refine (HB2.out _ hr1).mono ?_
  rintro e w2 ⟨rfl, k2⟩
  go_wp2
  go_ret
  exact ⟨rfl, keepN (keepN k0 k1) k2⟩

set_option maxRecDepth 100000 in
set_option maxHeartbeats 2000000 in
theorem equal_any (A B : Option Addr) (la lb : List Int) (n m c d : Nat) (w : World) (ha : Rd w A (ivs la)) (hb : Rd w B (ivs lb)) (hn : Hid (la.length = n)) (hm : Hid (lb.length = m))
  (h1 : n ≤ 9223372036854775807) (h2 : m ≤ 9223372036854775807) (R : Bool) (hR : Hid (R = decide (la = lb))) :
  Calls Tryz.prog 130 #[.slice A n c, .slice B m d] w fun e w' => e = .returned (.bool R) ∧ Keep NoB w w' := by
 by_cases hnm : n = m
 ·subst hnm
  go_enter Tryz.func130, Tryz.ntmps130
  go_wp2
  go_loopw [13] (fun i wr => ∃ k : Nat, k ≤ n ∧ i = .int .i64 k ∧ Hid (la.take k = lb.take k) ∧ Keep NoB w wr) (fun i _ => n - (intOf i).toNat)
  case atStart => exact ⟨0, Nat.zero_le _, rfl, rfl, Keep.refl _ _⟩
  case round =>
   obtain ⟨k, hk, rfl, ht, hK⟩ := hrel
   by_cases hlt : k < n
   ·have hka : k < la.length := by rw [hn.out]; exact hlt
    have hkb : k < lb.length := by rw [hm.out]; exact hlt
    obtain ⟨ga, oa, rfl, hca⟩ := rdI_at ha (by omega)
    obtain ⟨gb, ob, rfl, hcb⟩ := rdI_at hb (by omega)
    have ca := hK.cell (hca k hka) id
    have cb := hK.cell (hcb k hkb) id
    have HT := Lib.hid (show la.take (k + 1) = la.take k ++ [la[k]] from List.take_succ_eq_append_getElem hka)
    have HU := Lib.hid (show lb.take (k + 1) = lb.take k ++ [lb[k]] from List.take_succ_eq_append_getElem hkb)
    clear hca hcb
    by_cases he : la[k] = lb[k]
    ·have HV : Hid (la.take (k + 1) = lb.take (k + 1)) := by show _ = _; rw [HT.out, HU.out, ht.out, he]
     rw [he] at ca
     clear he HT HU ha hb
     generalize lb[k] = y at ca cb
     go_wp2
     go_quiet (fail)
     go_wp2
     go_roundw
     case rel => exact ⟨k + 1, by omega, by go_num, HV, hK.drewN _⟩
     case measure => simp [intOf]; omega
    ·have hf : R = false := by
      rw [hR.out, decide_eq_false_iff_not]
      intro e
      exact he (by simp [e])
     subst hf
     clear HT HU ha hb
     generalize la[k] = x at ca he
     generalize lb[k] = y at cb he
     have hne : (x != y) = true := by rw [bne_iff_ne]; exact he
     clear he
     go_wp2
     go_quiet (fail)
     go_wp2
     go_ret
     exact ⟨rfl, hK.drewN _⟩
   ·have hf : R = true := by
     rw [hR.out, decide_eq_true_iff]
     have e1 := ht.out
     rwa [List.take_of_length_le (by rw [hn.out]; omega), List.take_of_length_le (by rw [hm.out]; omega)] at e1
    subst hf
    go_wp2
    go_ret
    exact ⟨rfl, hK⟩
 ·have hf : R = false := by
   rw [hR.out, decide_eq_false_iff_not]
   intro e
   exact hnm (by rw [← hn.out, ← hm.out, e])
  subst hf
  have hne : ((n : Int) != (m : Int)) = true := by rw [bne_iff_ne]; omega
  clear hnm
  go_enter Tryz.func130, Tryz.ntmps130
  go_wp2
  go_ret
  exact ⟨rfl, Keep.refl _ _⟩

set_option maxRecDepth 100000 in
set_option maxHeartbeats 4000000 in
theorem same_any (A1 : Option Addr) (a1 : List Int) (n1 c1 : Nat) (B1 : Option Addr) (r1 : List Int) (m1 d1 : Nat) (A2 : Option Addr) (a2 : List Int) (n2 c2 : Nat) (B2 : Option Addr) (r2 : List Int) (m2 d2 : Nat) (w : World)
  (ha1 : Rd w A1 (ivs a1)) (hr1 : Rd w B1 (ivs r1)) (ha2 : Rd w A2 (ivs a2)) (hr2 : Rd w B2 (ivs r2)) (hn1 : Hid (a1.length = n1)) (hm1 : Hid (r1.length = m1)) (hn2 : Hid (a2.length = n2)) (hm2 : Hid (r2.length = m2))
  (qn1 : n1 ≤ 9223372036854775807) (qm1 : m1 ≤ 9223372036854775807) (qn2 : n2 ≤ 9223372036854775807) (qm2 : m2 ≤ 9223372036854775807) (R : Bool) (hR : Hid (R = decide (a1 = a2 ∧ r1 = r2))) :
  Calls Tryz.prog 129 #[.agg #[.slice A1 n1 c1, .slice B1 m1 d1], .agg #[.slice A2 n2 c2, .slice B2 m2 d2]] w fun e w' => e = .returned (.bool R) ∧ Keep NoB w w' := by
 have bx := (Blk.new w 34 #[.slice A1 n1 c1, .slice B1 m1 d1]).alloc (.cells #[.slice A2 n2 c2, .slice B2 m2 d2] 34)
 have by2 := Blk.new (w.alloc (.cells #[.slice A1 n1 c1, .slice B1 m1 d1] 34)) 34 #[.slice A2 n2 c2, .slice B2 m2 d2]
 have k0 := ((Keep.refl NoB w).alloc (.cells #[.slice A1 n1 c1, .slice B1 m1 d1] 34)).alloc (.cells #[.slice A2 n2 c2, .slice B2 m2 d2] 34)
 rw [World.size_alloc] at by2
 have HA := Lib.hid (fun w h h' (R : Bool) hR => equal_any A1 A2 a1 a2 n1 n2 c1 c2 w h h' hn1 hn2 qn1 qn2 R hR)
 have HB := Lib.hid (fun w h h' (R : Bool) hR => equal_any B1 B2 r1 r2 m1 m2 d1 d2 w h h' hm1 hm2 qm1 qm2 R hR)
 by_cases q1 : a1 = a2
 by_cases q2 : r1 = r2
 ·skip
  have HA2 := Lib.hid (fun w h h' => HA.out w h h' true (show _ = _ from (decide_eq_true q1).symm))
  have HB2 := Lib.hid (fun w h h' => HB.out w h h' true (show _ = _ from (decide_eq_true q2).symm))
  obtain rfl : R = true := by rw [hR.out, decide_eq_true_iff]; exact ⟨q1, q2⟩
  clear HA HB hR
  go_enter Tryz.func129, Tryz.ntmps129
  go_wp2_with fail
  refine (HA2.out _ (ha1.keepN k0) (ha2.keepN k0)).mono ?_
  rintro e w1 ⟨rfl, k1⟩
  obtain ⟨x0, x1⟩ := blk2 (bx.keep k1 id)
  obtain ⟨y0, y1⟩ := blk2 (by2.keep k1 id)
  go_wp2_with fail
  refine (HB2.out _ ((hr1.keepN k0).keepN k1) ((hr2.keepN k0).keepN k1)).mono ?_
  rintro e w2 ⟨rfl, k2⟩
  go_wp2
  go_ret
  exact ⟨rfl, keepN (keepN k0 k1) k2⟩
 ·skip
  have HA2 := Lib.hid (fun w h h' => HA.out w h h' true (show _ = _ from (decide_eq_true q1).symm))
  have HB2 := Lib.hid (fun w h h' => HB.out w h h' false (show _ = _ from (decide_eq_false q2).symm))
  obtain rfl : R = false := by rw [hR.out, decide_eq_false_iff_not]; exact fun h => q2 h.2
  clear HA HB hR
  go_enter Tryz.func129, Tryz.ntmps129
  go_wp2_with fail
  refine (HA2.out _ (ha1.keepN k0) (ha2.keepN k0)).mono ?_
  rintro e w1 ⟨rfl, k1⟩
  obtain ⟨x0, x1⟩ := blk2 (bx.keep k1 id)
  obtain ⟨y0, y1⟩ := blk2 (by2.keep k1 id)
  go_wp2_with fail
  refine (HB2.out _ ((hr1.keepN k0).keepN k1) ((hr2.keepN k0).keepN k1)).mono ?_
  rintro e w2 ⟨rfl, k2⟩
  go_wp2
  go_ret
  exact ⟨rfl, keepN (keepN k0 k1) k2⟩
 ·skip
  have HA2 := Lib.hid (fun w h h' => HA.out w h h' false (show _ = _ from (decide_eq_false q1).symm))
  obtain rfl : R = false := by rw [hR.out, decide_eq_false_iff_not]; exact fun h => q1 h.1
  clear HA HB hR
  go_enter Tryz.func129, Tryz.ntmps129
  go_wp2_with fail
  refine (HA2.out _ (ha1.keepN k0) (ha2.keepN k0)).mono ?_
  rintro e w1 ⟨rfl, k1⟩
  go_wp2
  go_ret
  exact ⟨rfl, keepN k0 k1⟩

set_option maxRecDepth 100000 in
set_option maxHeartbeats 2000000 in
theorem great_no (S A B : Option Addr) (k c0 n c m d : Nat) (w : World) (h1 : k ≤ 100) (h2 : n ≤ 100) (h3 : m ≤ 100) :
  Calls Tryz.prog 44 #[.slice S k c0, .agg #[.slice A n c, .slice B m d]] w fun e w' => e = .returned (.int .i64 0) ∧ Keep NoB w w' := by
 go_enter Tryz.func44, Tryz.ntmps44
 go_wp2
 go_ret
 exact ⟨rfl, (Keep.refl _ _).alloc _⟩
set_option maxRecDepth 100000 in
set_option maxHeartbeats 2000000 in
theorem great_yes (S A B : Option Addr) (k c0 n c m d : Nat) (w : World) (h : ¬ (k ≤ 100 ∧ n ≤ 100 ∧ m ≤ 100)) :
  Calls Tryz.prog 44 #[.slice S k c0, .agg #[.slice A n c, .slice B m d]] w fun e w' => e = .returned (.int .i64 1) ∧ Keep NoB w w' := by
 by_cases h1 : k ≤ 100
 ·by_cases h2 : n ≤ 100
  ·have h3 : ¬ m ≤ 100 := by omega
   clear h
   go_enter Tryz.func44, Tryz.ntmps44
   go_wp2
   go_ret
   exact ⟨rfl, (Keep.refl _ _).alloc _⟩
  ·clear h
   go_enter Tryz.func44, Tryz.ntmps44
   go_wp2
   go_ret
   exact ⟨rfl, (Keep.refl _ _).alloc _⟩
 ·clear h
  go_enter Tryz.func44, Tryz.ntmps44
  go_wp2
  go_ret
  exact ⟨rfl, (Keep.refl _ _).alloc _⟩

end Go.Proofs.YtgnooffedmeenaaGreatDoor.S

namespace Go.Proofs.YtgnooffedmeenaaGreatDoor.S
open Go.RowKit W

end Go.Proofs.YtgnooffedmeenaaGreatDoor.S

namespace Go.Proofs.YtgnooffedmeenaaGreatDoor.S
open Go.RowKit W

end Go.Proofs.YtgnooffedmeenaaGreatDoor.S

namespace Go.Proofs.YtgnooffedmeenaaGreatDoor.S
open Go.RowKit W

end Go.Proofs.YtgnooffedmeenaaGreatDoor.S

namespace Go.Proofs.YtgnooffedmeenaaGreatDoor.S
open Go.RowKit Go.Shelf W
attribute [local go_sem] Oper.semAt_some

def RdK (A : Option Addr) (b : List UInt8) (W W' : World) : Prop := V.Rd W A b → V.Rd W' A b
theorem RdK.trans {A : Option Addr} {b : List UInt8} {X Y Z : World} (h : RdK A b X Y) (h' : RdK A b Y Z) : RdK A b X Z := fun hr => h' (h hr)
end Go.Proofs.YtgnooffedmeenaaGreatDoor.S

namespace Go.Proofs.YtgnooffedmeenaaGreatDoor.S
open Go.RowKit Go.Shelf W
attribute [local go_sem] Oper.semAt_some

end Go.Proofs.YtgnooffedmeenaaGreatDoor.S

namespace Go.Proofs.YtgnooffedmeenaaGreatDoor.S
open Go.RowKit W

set_option maxRecDepth 100000 in
set_option maxHeartbeats 1000000 in
theorem ifS_no (A : Option Addr) (l : List Int) (na c : Nat) (w : World) (hr : Rd w A (ivs l)) (hn : Hid (l.length = na)) (hm : na ≤ 9223372036854775807) (ho : okS l = false) :
  Calls Tryz.prog 177 #[.slice A na c] w fun e w' => e = .returned (.tuple #[.slice none 0 0, .int .i64 60]) ∧ Keep NoB w w' := by
 have HC := Lib.hid (fun w hr => chkS_any A l na c w hr hn hm 60 (chkS_no ho))
 go_enter Tryz.func177, Tryz.ntmps177
 go_wp2_with (go_at_call 117; refine (HC.out _ hr).mono ?_; rintro e w1 ⟨rfl, k1⟩)
 go_ret2
 exact ⟨rfl, k1⟩
set_option maxRecDepth 100000 in
set_option maxHeartbeats 1000000 in
theorem ifS_yes (A : Option Addr) (l : List Int) (na c : Nat) (w : World) (hr : Rd w A (ivs l)) (hn : Hid (l.length = na)) (hm : na ≤ 9223372036854775807) (ho : okS l = true) :
  Calls Tryz.prog 177 #[.slice A na c] w fun e w' => e = .returned (.tuple #[.slice A na c, .int .i64 0]) ∧ Keep NoB w w' := by
 have HC := Lib.hid (fun w hr => chkS_any A l na c w hr hn hm 0 (chkS_ok ho))
 go_enter Tryz.func177, Tryz.ntmps177
 go_wp2_with (go_at_call 117; refine (HC.out _ hr).mono ?_; rintro e w1 ⟨rfl, k1⟩)
 go_ret2
 exact ⟨rfl, k1⟩

end Go.Proofs.YtgnooffedmeenaaGreatDoor.S

namespace Go.Proofs.YtgnooffedmeenaaGreatDoor.S
open Go.RowKit W

abbrev Sg := Option ((List Int × List Int) × Nat)
theorem blk_put2 {W : World} {g : Nat} {x y : Value} (h : Blk W g 34 #[x, y]) (u v : Value) : Blk ((W.setCell ⟨g, 0, none⟩ u).setCell ⟨g, 1, none⟩ v) g 34 #[u, v] := by
 have := (h.put 0 u).put 1 v
 simpa using this
theorem sig_size : (Tryz.prog.info? 34).map (·.size) = some 2 := by kernel_rfl
theorem ret_sig {fn : Func} {tmps : Array Value} {w : World} {g : Nat} {u v e : Value} (h : fn.results = #[.cell 2 34, .tmp 3]) (hp : tmps.getD 2 undef = .pointer (some ⟨g, 0, none⟩)) (hb : Blk w g 34 #[u, v]) (he : tmps.getD 3 undef = e) :
  (results fn tmps).run Tryz.prog w = .ok (.tuple #[.agg #[u, v], e]) w := by
 rw [results_cell_tmp h, hp, he]
 simp only [asAddr, Sem.run_pure, Result.andThen_ok]
 rw [run_loadVar_row w g 34 34 #[u, v] (0, 0) _ hb Tryz.underlying34 rfl sig_size]
 rfl
theorem keep_put2 {O : Nat → Prop} {w W : World} {g : Nat} (h : Keep O w W) (hg : w.heap.size ≤ g) (u v : Value) : Keep O w ((W.setCell ⟨g, 0, none⟩ u).setCell ⟨g, 1, none⟩ v) :=
 (h.setCell (fun h => absurd h (by simp; omega)) u).setCell (fun h => absurd h (by simp; omega)) v
theorem keep_at2 (W : World) (g : Nat) (u v : Value) : Keep (fun k => k = g) W ((W.setCell ⟨g, 0, none⟩ u).setCell ⟨g, 1, none⟩ v) :=
 ((Keep.refl (fun k => k = g) W).setCell (fun _ => rfl) u).setCell (fun _ => rfl) v
theorem own_put2 {w W : World} {g n : Nat} {v : Value} {xs : List Value} (h : Own W 3 1 (fun k => g < k) v n xs) (hg : w.heap.size ≤ g) (u u' : Value) : Own ((W.setCell ⟨g, 0, none⟩ u).setCell ⟨g, 1, none⟩ u') 3 1 (Fresh w) v n xs :=
 (h.keep (keep_at2 W g u u') (fun k hk e => by omega)).mono (fun k hk _ => by unfold Fresh; omega)

set_option maxRecDepth 100000 in
set_option maxHeartbeats 2000000 in
theorem ifG_no (A : Option Addr) (a : List Int) (na ca : Nat) (B : Option Addr) (r : List Int) (nb cb : Nat) (w : World) (ha : Rd w A (ivs a)) (hr : Rd w B (ivs r)) (hna : Hid (a.length = na)) (hnb : Hid (r.length = nb)) (hn6 : na ≤ 4611686018427387903) (hm6 : nb ≤ 4611686018427387903) (ho : okG a r = false) :
  Calls Tryz.prog 247 #[.agg #[.slice A na ca, .slice B nb cb]] w fun e w' => e = .returned (.tuple #[.agg #[.slice none 0 0, .slice none 0 0], .int .i64 61]) ∧ Keep NoB w w' := by
 have bx := (Blk.new w 34 #[.slice A na ca, .slice B nb cb]).alloc (.cells #[.slice none 0 0, .slice none 0 0] 34)
 have bz := Blk.new (w.alloc (.cells #[.slice A na ca, .slice B nb cb] 34)) 34 #[.slice none 0 0, .slice none 0 0]
 rw [World.size_alloc] at bz
 have k0 := ((Keep.refl NoB w).alloc (.cells #[.slice A na ca, .slice B nb cb] 34)).alloc (.cells #[.slice none 0 0, .slice none 0 0] 34)
 have HC := Lib.hid (fun w ha hr => chkG_any A a na ca B r nb cb w ha hr hna hnb hn6 hm6 61 (chkG_no ho))
 go_enter Tryz.func247, Tryz.ntmps247
 go_wp2_with fail
 refine (HC.out _ (ha.keepN k0) (hr.keepN k0)).mono ?_
 rintro e w2 ⟨rfl, k1⟩
 have bz2 := bz.keep k1 id
 obtain ⟨z0, z1⟩ := blk2 bz2
 have fz := fun i => bz2.frozen i
 have gK := keepN k0 k1
 have HBZ := Lib.hid (fun u v => blk_put2 bz2 u v)
 clear bx bz k0 k1 ha hr HC bz2
 go_wp2
 refine bodyPost_ret (ret_sig rfl rfl (HBZ.out _ _) rfl) rfl ?_
 exact ⟨rfl, keep_put2 gK (by omega) _ _⟩
set_option maxRecDepth 100000 in
set_option maxHeartbeats 2000000 in
theorem ifG_yes (A : Option Addr) (a : List Int) (na ca : Nat) (B : Option Addr) (r : List Int) (nb cb : Nat) (w : World) (ha : Rd w A (ivs a)) (hr : Rd w B (ivs r)) (hna : Hid (a.length = na)) (hnb : Hid (r.length = nb)) (hn6 : na ≤ 4611686018427387903) (hm6 : nb ≤ 4611686018427387903) (ho : okG a r = true) :
  Calls Tryz.prog 247 #[.agg #[.slice A na ca, .slice B nb cb]] w fun e w' => e = .returned (.tuple #[.agg #[.slice A na ca, .slice B nb cb], .int .i64 0]) ∧ Keep NoB w w' := by
 have bx := (Blk.new w 34 #[.slice A na ca, .slice B nb cb]).alloc (.cells #[.slice none 0 0, .slice none 0 0] 34)
 have bz := Blk.new (w.alloc (.cells #[.slice A na ca, .slice B nb cb] 34)) 34 #[.slice none 0 0, .slice none 0 0]
 rw [World.size_alloc] at bz
 have k0 := ((Keep.refl NoB w).alloc (.cells #[.slice A na ca, .slice B nb cb] 34)).alloc (.cells #[.slice none 0 0, .slice none 0 0] 34)
 have HC := Lib.hid (fun w ha hr => chkG_any A a na ca B r nb cb w ha hr hna hnb hn6 hm6 0 (chkG_ok ho))
 go_enter Tryz.func247, Tryz.ntmps247
 go_wp2_with fail
 refine (HC.out _ (ha.keepN k0) (hr.keepN k0)).mono ?_
 rintro e w2 ⟨rfl, k1⟩
 have bz2 := bz.keep k1 id
 obtain ⟨x0, x1⟩ := blk2 (bx.keep k1 id)
 obtain ⟨z0, z1⟩ := blk2 bz2
 have fz := fun i => bz2.frozen i
 have gK := keepN k0 k1
 have HBZ := Lib.hid (fun u v => blk_put2 bz2 u v)
 clear bx bz k0 k1 ha hr HC bz2
 go_wp2
 refine bodyPost_ret (ret_sig rfl rfl (HBZ.out _ _) rfl) rfl ?_
 exact ⟨rfl, keep_put2 gK (by omega) _ _⟩

end Go.Proofs.YtgnooffedmeenaaGreatDoor.S

namespace Go.Proofs.YtgnooffedmeenaaGreatDoor.S
open Go.RowKit W

end Go.Proofs.YtgnooffedmeenaaGreatDoor.S

namespace Go.Proofs.YtgnooffedmeenaaGreatDoor.S
open Go.RowKit W

end Go.Proofs.YtgnooffedmeenaaGreatDoor.S

namespace Go.Proofs.YtgnooffedmeenaaGreatDoor.W
open Go.RowKit


set_option maxRecDepth 100000 in
set_option maxHeartbeats 4000000 in
theorem types_any (S : ByteArray) (s : List UInt8) (w : World) (hL : LetAt w) (hs : Hid (S.data.toList = s)) (h1 : S.size ≤ 9223372036854775807) :
  Calls Tryz.prog 254 #[.string S] w (TypesR w s) := by
 have HSZ := Lib.hid (size_of hs.out)
 by_cases hlong : 1024 < S.size
 ·have HU : Hid (untxt s = none) := untxt_none (by rw [← HSZ.out]; omega)
  go_enter Tryz.func254, Tryz.ntmps254
  go_wp2
  go_ret2
  exact types_none HU.out (Keep.refl _ _)
 ·obtain ⟨i0, hi, hz0, hz1, hz2⟩ := info_parts int_info
  go_enter Tryz.func254, Tryz.ntmps254
  go_wp2_with (at_make; refine wpList_make_own _ rfl _ _ 32 rfl w.heap.size 3 i0 _ 1 Tryz.underlying32 hi hz0 hz1 _ _ _ S.size rfl rfl rfl (by rw [hz2]; omega) (by unfold maxLen; omega) (Nat.le_refl _) ?_; intro w1 hrow1 hg1)
  have hO1 : Own w1 3 1 (Fresh w) (.slice (some ⟨w.heap.size, 0, none⟩) 0 S.size) 0 (ivs ((s.take 0).map unlet)) := Own.of_row hrow1 (fun _ h => h)
  have hK1 : Keep NoB w w1 := (Keep.refl NoB w).grown hg1 (fun g e _ => by cases e)
  have hsz1 : w.heap.size ≤ w1.heap.size := hK1.size
  clear hrow1 hg1
  have hk0 : (w1.iter S 0).heap[w1.heap.size]? = some (.stringIter S 0) := World.iter_heap w1 S 0
  have hO0 : Own (w1.iter S 0) 3 1 (Fresh w) (.slice (some ⟨w.heap.size, 0, none⟩) 0 S.size) 0 (ivs ((s.take 0).map unlet)) := hO1.keepN ((Keep.refl NoB w1).alloc _)
  have hK0 : Keep NoB w (w1.iter S 0) := hK1.alloc _
  go_loopw [4] (fun v wr => ∃ k : Nat, k ≤ S.size ∧ wr.heap[w1.heap.size]? = some (.stringIter S k) ∧ (∃ B d, v = .slice B k d ∧ Own wr 3 1 (Fresh w) (.slice B k d) k (ivs ((s.take k).map unlet))) ∧ Hid (((s.take k).all fun c => decide (unlet c ≠ 0)) = true) ∧ Keep NoB w wr)
   (fun _ wr => S.size - wr.iterPos w1.heap.size)
  case atStart => exact ⟨0, Nat.zero_le _, hk0, ⟨_, _, rfl, hO0⟩, rfl, hK0⟩
  case round =>
   obtain ⟨k, hk, hit, ⟨B, d, rfl, hO⟩, hall, hK⟩ := hrel
   clear hO0 hK0 hk0 hO1 hK1
   have hmu : Hid (wr.iterPos w1.heap.size = k) := by show _ = _; simp [World.iterPos, hit]
   by_cases hlt : k < S.size
   ·have hks : k < s.length := by rw [← HSZ.out]; exact hlt
    have HT := Lib.hid (show s.take (k + 1) = s.take k ++ [s[k]] from List.take_succ_eq_append_getElem hks)
    have HM := Lib.hid (List.getElem_mem hks)
    have hbt := byte_at hs.out k hlt hks
    by_cases hb : (S[k]'hlt).toNat < 128
    ·have hnext : ∀ ty, (Instr.next (.pointer (some ⟨w1.heap.size, 0, none⟩)) true ty).run Tryz.prog wr = _ := fun ty => Lib.run_next_ascii_at wr w1.heap.size S k ty hit hlt hb
     rw [hbt] at hnext hb
     have HB := Lib.hid (unletZ_byte s[k])
     generalize s[k] = c at hnext hb HT HM HB
     have hO2 := hO.iterAt hit (k + 1)
     have hit2 := Lib.iterAt_heap wr w1.heap.size S k (k + 1) hit
     have hK2 := hK.iterAt hsz1 S (k + 1)
     generalize wr.iterAt w1.heap.size S (k + 1) = w2 at hnext hO2 hit2 hK2
     have hL2 := hL.keep hK2
     clear hbt hO hK hit
     by_cases hc : unlet c = 0
     ·have HU : Hid (untxt s = none) := untxt_none (fun h => by have := (List.all_eq_true.1 h.2) c HM.out; simp [hc] at this)
      have e0 : unletZ (c.toNat : Int) = 0 := HB.out.trans hc
      have HLT : Hid (Calls Tryz.prog 293 #[.int .i32 (c.toNat : Int)] w2 fun e w' => e = .returned (.tuple #[.int .i64 0, .bool false]) ∧ w2 = w') := by
       have := lettered_any (c.toNat : Int) w2 hL2
       rw [e0] at this
       exact this
      clear HB hc e0
      go_wp2_with (go_at_call 293; refine HLT.out.mono ?_; rintro e w' ⟨rfl, rfl⟩)
      go_ret2
      exact types_none HU.out hK2
     ·have e0 : unletZ (c.toNat : Int) = unlet c := HB.out
      have HLT : Hid (Calls Tryz.prog 293 #[.int .i32 (c.toNat : Int)] w2 fun e w' => e = .returned (.tuple #[.int .i64 (unlet c), .bool true]) ∧ w2 = w') := by
       have := lettered_any (c.toNat : Int) w2 hL2
       rw [e0, show decide (unlet c ≠ 0) = true by simpa using hc] at this
       exact this
      have hall2 : Hid (((s.take (k + 1)).all fun c => decide (unlet c ≠ 0)) = true) := by show _ = _; rw [HT.out, List.all_append, hall.out]; simp [hc]
      have HZ : Hid (ivs ((s.take (k + 1)).map unlet) = ivs ((s.take k).map unlet) ++ [.int .i64 (unlet c)]) := by show _ = _; rw [HT.out]; simp
      clear HB hc e0 HT hall HM
      go_wp2_with (first
       | (go_at_call 293; refine HLT.out.mono ?_; rintro e w' ⟨rfl, rfl⟩)
       | (at_builtin; refine wpList_append_rd _ rfl (.tmp 27) (.tmp 29) _ rfl 3 1 8 i0 _ Tryz.underlying32 hi hz0 hz1 hz2 rfl (by decide) _ k _ _ 1 _ [.int .i64 (unlet c)] rfl (hO2.1.alloc _) rfl (rd_made rfl rfl) rfl (by simp [Value.oneCell']) (by unfold maxLen; omega) (by omega) ?_; intro B2 d2 w3 hrow3 hg3 hv3; rw [← HZ.out] at hrow3; have hit3 := (hg3.block w1.heap.size (by have := (Array.getElem?_eq_some_iff.1 hit2).1; simp; omega) (fun e => own_iter hO2 hit2 e.symm)).trans ((Below.heap_alloc w2 _ w1.heap.size (Array.getElem?_eq_some_iff.1 hit2).1).trans hit2); obtain ⟨hO3, hK3⟩ := own_after hO2.2 (hK2.alloc _) hg3 hv3 hrow3; clear hrow3 hg3 hv3))
      go_roundw
      case rel => exact ⟨k + 1, by omega, hit3, ⟨B2, d2, rfl, hO3⟩, hall2, hK3⟩
      case measure =>
       have hmu2 : w3.iterPos w1.heap.size = k + 1 := by simp [World.iterPos, hit3]
       rw [hmu.out, hmu2]
       omega
    ·have hnext : ∀ ty, (Instr.next (.pointer (some ⟨w1.heap.size, 0, none⟩)) true ty).run Tryz.prog wr = _ := fun ty => Lib.run_next_any_at wr w1.heap.size S k ty hit hlt
     have hbig := decode_big S k (by rw [get_at k hlt]; omega)
     have HB : Hid (unletZ ((Utf8.decode S k).1 : Int) = 0) := unletZ_big (by omega)
     have hc : unlet s[k] = 0 := by
      have := unletZ_byte s[k]
      rw [unletZ_big (by rw [← hbt]; omega)] at this
      exact this.symm
     have HU : Hid (untxt s = none) := untxt_none (fun h => by have := (List.all_eq_true.1 h.2) s[k] HM.out; simp [hc] at this)
     have hK2 := hK.iterAt hsz1 S (k + (Utf8.decode S k).2)
     generalize wr.iterAt w1.heap.size S (k + (Utf8.decode S k).2) = w2 at hnext hK2
     generalize (Utf8.decode S k).1 = r at hnext HB hbig
     have hL2 := hL.keep hK2
     have HLT : Hid (Calls Tryz.prog 293 #[.int .i32 (r : Int)] w2 fun e w' => e = .returned (.tuple #[.int .i64 0, .bool false]) ∧ w2 = w') := by
      have := lettered_any (r : Int) w2 hL2
      rw [HB.out] at this
      exact this
     clear hbt hO hK hit HT HM hc hb
     go_wp2_with (go_at_call 293; refine HLT.out.mono ?_; rintro e w' ⟨rfl, rfl⟩)
     go_ret2
     exact types_none HU.out hK2
   ·obtain hkn : k = s.length := by rw [← HSZ.out]; omega
    have hnext : ∀ ty, (Instr.next (.pointer (some ⟨w1.heap.size, 0, none⟩)) true ty).run Tryz.prog wr = _ := fun ty => Lib.run_next_end_at wr w1.heap.size S k ty hit hlt
    subst hkn
    rw [List.take_length] at hO hall
    have HU : Hid (untxt s = some (s.map unlet)) := untxt_some (by rw [← HSZ.out]; omega) hall.out
    go_wp2
    go_ret2
    exact types_some HU.out hO hK

end Go.Proofs.YtgnooffedmeenaaGreatDoor.W

namespace Go.Proofs.YtgnooffedmeenaaGreatDoor.W
open Go.RowKit

end Go.Proofs.YtgnooffedmeenaaGreatDoor.W

namespace Go.Proofs.YtgnooffedmeenaaGreatDoor.S
open Go.RowKit W

def rsL (R : Option (List Int)) : List Int := match R with
 | none => []
 | some x => x
def rsE (R : Option (List Int)) : Int := match R with
 | none => 60
 | some _ => 0
def ReadR (w : World) (R : Option (List Int)) (e : Ending) (w' : World) : Prop :=
 ∃ v, e = .returned (.tuple #[v, .int .i64 (rsE R)]) ∧ Own w' 3 1 (Fresh w) v (rsL R).length (ivs (rsL R)) ∧ Keep NoB w w'
theorem read_none {w w' : World} {R : Option (List Int)} (hR : R = none) (hk : Keep NoB w w') : ReadR w R (.returned (.tuple #[.slice none 0 0, .int .i64 60])) w' := by
 subst hR; exact ⟨_, rfl, Own.nil _ _ _ _, hk⟩
theorem shS_ok {l : List Int} (h : okS l = true) : shS l = txt l := if_pos h
theorem shS_no {l : List Int} (h : okS l = false) : shS l = [] := if_neg (by rw [h]; decide)
theorem shG_ok {a r : List Int} (h : okG a r = true) : shG a r = txt a ++ 62 :: txt r := if_pos h
theorem shG_no {a r : List Int} (h : okG a r = false) : shG a r = [] := if_neg (by rw [h]; decide)
theorem tE_none {s : List UInt8} (h : untxt s = none) : tE s = 20 ∧ tN s = 0 := by unfold tE tN; rw [h]; exact ⟨rfl, rfl⟩
theorem tE_some {s : List UInt8} {l : List Int} (h : untxt s = some l) : tE s = 0 ∧ tL s = l ∧ tN s = l.length := by
 have hl := tL_length s
 have h2 : tL s = l := by unfold tL; rw [h]; rfl
 refine ⟨by unfold tE; rw [h]; rfl, h2, ?_⟩
 rw [← hl, h2]
theorem rdS_1 {s : List UInt8} (h : untxt s = none) : rdS s = none := by unfold rdS; rw [h]
theorem rdS_2 {s : List UInt8} {l : List Int} (h : untxt s = some l) (ho : okS l = false) : rdS s = none := by unfold rdS; rw [h]; exact if_neg (by rw [ho]; decide)
theorem rdS_3 {s : List UInt8} {l : List Int} (h : untxt s = some l) (ho : okS l = true) : rdS s = some l := by unfold rdS; rw [h]; exact if_pos ho
theorem untxt_len {s : List UInt8} {l : List Int} (h : untxt s = some l) : l.length ≤ 1024 := by
 by_cases h2 : s.length ≤ 1024 ∧ (s.all fun c => decide (unlet c ≠ 0)) = true
 ·rw [untxt_some h2.1 h2.2] at h
  injection h with h
  rw [← h, List.length_map]; exact h2.1
 ·rw [untxt_none h2] at h; cases h
theorem str_mid (a b : List UInt8) : W.str a ++ (⟨#[62]⟩ : ByteArray) ++ W.str b = W.str (a ++ 62 :: b) := by
 apply ByteArray.ext
 simp [ByteArray.data_append]
theorem txt_le (l : List Int) : (txt l).length ≤ 1024 := by
 unfold txt
 split
 ·rename_i h
  rw [flat_let_length _ h.2]; exact h.1
 ·simp

theorem types_no (S : ByteArray) (s : List UInt8) (w : World) (hL : LetAt w) (hs : Hid (S.data.toList = s)) (h1 : S.size ≤ 9223372036854775807) (h : untxt s = none) :
  Calls Tryz.prog 254 #[.string S] w fun e w' => ∃ B d, e = .returned (.tuple #[.slice B 0 d, .int .i64 20]) ∧ Keep NoB w w' := by
 refine (types_any S s w hL hs h1).mono ?_
 rintro e w' ⟨B, d, rfl, _, hk⟩
 rw [(tE_none h).1, (tE_none h).2]
 exact ⟨B, d, rfl, hk⟩
theorem types_yes (S : ByteArray) (s : List UInt8) (l : List Int) (w : World) (hL : LetAt w) (hs : Hid (S.data.toList = s)) (h1 : S.size ≤ 9223372036854775807) (h : untxt s = some l) :
  Calls Tryz.prog 254 #[.string S] w fun e w' => ∃ B d, e = .returned (.tuple #[.slice B l.length d, .int .i64 0]) ∧ Own w' 3 1 (Fresh w) (.slice B l.length d) l.length (ivs l) ∧ Keep NoB w w' := by
 obtain ⟨e1, e2, e3⟩ := tE_some h
 have := types_any S s w hL hs h1
 unfold TypesR at this
 rw [e1, e2, e3] at this
 exact this

set_option maxRecDepth 100000 in
set_option maxHeartbeats 2000000 in
theorem showS_any (A : Option Addr) (l : List Int) (na c : Nat) (w : World) (hL : LetAt w) (hr : Rd w A (ivs l)) (hn : Hid (l.length = na)) (hm : na ≤ 9223372036854775807) :
  Calls Tryz.prog 144 #[.slice A na c] w fun e w' => e = .returned (.string (W.str (shS l))) ∧ Keep NoB w w' := by
 cases ho : okS l
 ·have HC := Lib.hid (fun w hr => chkS_any A l na c w hr hn hm 60 (chkS_no ho))
  rw [shS_no ho]
  clear ho
  go_enter Tryz.func144, Tryz.ntmps144
  go_wp2_with (go_at_call 117; refine (HC.out _ hr).mono ?_; rintro e w1 ⟨rfl, k1⟩)
  go_ret
  exact ⟨rfl, k1⟩
 ·have HC := Lib.hid (fun w hr => chkS_any A l na c w hr hn hm 0 (chkS_ok ho))
  have HT := Lib.hid (fun w hL hr => text_any A l na c w hL hr hn hm)
  rw [shS_ok ho]
  clear ho
  go_enter Tryz.func144, Tryz.ntmps144
  go_wp2_with fail
  refine (HC.out _ hr).mono ?_
  rintro e w1 ⟨rfl, k1⟩
  go_wp2_with fail
  refine (HT.out _ (hL.keep k1) (hr.keepN k1)).mono ?_
  rintro e w2 ⟨rfl, k2⟩
  go_wp2
  go_ret
  exact ⟨rfl, keepN k1 k2⟩

set_option maxRecDepth 100000 in
set_option maxHeartbeats 2000000 in
theorem readS_any (S : ByteArray) (s : List UInt8) (w : World) (hL : LetAt w) (hs : Hid (S.data.toList = s)) (h1 : S.size ≤ 9223372036854775807) :
  Calls Tryz.prog 252 #[.string S] w (ReadR w (rdS s)) := by
 cases hu : untxt s with
 | none =>
  have HT := Lib.hid (types_no S s w hL hs h1 hu)
  have HD := Lib.hid (rdS_1 hu)
  clear hu
  go_enter Tryz.func252, Tryz.ntmps252
  go_wp2_with fail
  refine HT.out.mono ?_
  rintro e w1 ⟨B, d, rfl, k1⟩
  go_wp2
  go_ret2
  exact read_none HD.out k1
 | some l =>
  have HT := Lib.hid (types_yes S s l w hL hs h1 hu)
  have hlen := untxt_len hu
  cases ho : okS l
  ·have HD := Lib.hid (rdS_2 hu ho)
   have HI := Lib.hid (fun A c w hr => ifS_no A l l.length c w hr rfl (by omega) ho)
   clear hu ho hlen
   go_enter Tryz.func252, Tryz.ntmps252
   go_wp2_with fail
   refine HT.out.mono ?_
   rintro e w1 ⟨B, d, rfl, hO, k1⟩
   have r1 : Rd w1 B (ivs l) := by
    obtain ⟨A', c', e, hr⟩ := own_rdI hO
    cases e; exact hr
   go_wp2_with fail
   refine (HI.out _ _ _ r1).mono ?_
   rintro e w2 ⟨rfl, k2⟩
   go_wp2
   go_ret2
   exact read_none HD.out (keepN k1 k2)
  ·have HD := Lib.hid (rdS_3 hu ho)
   have HI := Lib.hid (fun A c w hr => ifS_yes A l l.length c w hr rfl (by omega) ho)
   clear hu ho hlen
   go_enter Tryz.func252, Tryz.ntmps252
   go_wp2_with fail
   refine HT.out.mono ?_
   rintro e w1 ⟨B, d, rfl, hO, k1⟩
   have r1 : Rd w1 B (ivs l) := by
    obtain ⟨A', c', e, hr⟩ := own_rdI hO
    cases e; exact hr
   have HO := Lib.hid hO
   clear hO
   go_wp2_with fail
   refine (HI.out _ _ _ r1).mono ?_
   rintro e w2 ⟨rfl, k2⟩
   go_wp2
   go_ret2
   rw [HD.out]
   exact ⟨_, rfl, HO.out.keepN k2, keepN k1 k2⟩

set_option maxRecDepth 100000 in
set_option maxHeartbeats 4000000 in
theorem showG_any (A : Option Addr) (a : List Int) (na ca : Nat) (B : Option Addr) (r : List Int) (nb cb : Nat) (w : World) (hL : LetAt w) (ha : Rd w A (ivs a)) (hr : Rd w B (ivs r)) (hna : Hid (a.length = na)) (hnb : Hid (r.length = nb)) (hn6 : na ≤ 4611686018427387903) (hm6 : nb ≤ 4611686018427387903) :
  Calls Tryz.prog 145 #[.agg #[.slice A na ca, .slice B nb cb]] w fun e w' => e = .returned (.string (W.str (shG a r))) ∧ Keep NoB w w' := by
 have bx := Blk.new w 34 #[.slice A na ca, .slice B nb cb]
 have k0 := (Keep.refl NoB w).alloc (.cells #[.slice A na ca, .slice B nb cb] 34)
 cases ho : okG a r
 ·have HC := Lib.hid (fun w ha hr => chkG_any A a na ca B r nb cb w ha hr hna hnb hn6 hm6 61 (chkG_no ho))
  rw [shG_no ho]
  clear ho
  go_enter Tryz.func145, Tryz.ntmps145
  go_wp2_with (go_at_call 102; refine (HC.out _ (ha.keepN k0) (hr.keepN k0)).mono ?_; rintro e w1 ⟨rfl, k1⟩)
  go_ret
  exact ⟨rfl, keepN k0 k1⟩
 ·have HC := Lib.hid (fun w ha hr => chkG_any A a na ca B r nb cb w ha hr hna hnb hn6 hm6 0 (chkG_ok ho))
  have HTa := Lib.hid (fun w hL hr => text_any A a na ca w hL hr hna (by omega))
  have HTb := Lib.hid (fun w hL hr => text_any B r nb cb w hL hr hnb (by omega))
  rw [shG_ok ho, ← str_mid]
  have q1 : (W.str (txt a)).size ≤ 1024 := by rw [size_of (s := txt a) (by simp)]; exact txt_le a
  have q2 : (W.str (txt r)).size ≤ 1024 := by rw [size_of (s := txt r) (by simp)]; exact txt_le r
  generalize W.str (txt a) = S1 at HTa q1 ⊢
  generalize W.str (txt r) = S2 at HTb q2 ⊢
  have q3 : ¬ 9223372036854775807 < S1.size + 1 := by omega
  have q4 : ¬ 9223372036854775807 < S1.size + 1 + S2.size := by omega
  have HL := Lib.hid hL
  clear ho hL
  go_enter Tryz.func145, Tryz.ntmps145
  go_wp2_with fail
  refine (HC.out _ (ha.keepN k0) (hr.keepN k0)).mono ?_
  rintro e w2 ⟨rfl, k1⟩
  obtain ⟨c0, c1⟩ := blk2 (bx.keep k1 id)
  have gK := keepN k0 k1
  have ha2 := ha.keepN gK
  have hr2 := hr.keepN gK
  clear bx k0 k1 ha hr HC
  go_wp2
  refine wp_region_sh ((0, false) :: (1, false) :: (2, false) :: (3, false) :: (4, false) :: (5, false) :: (6, false) :: (7, false) :: (8, false) :: []) (fun w' => Keep NoB w2 w') (by kernel_rfl) (by kernel_rfl) (by rfl) (by kernel_rfl) (stable_keep w2) (Keep.refl NoB w2).drew ?_
  refine shM_step rfl rfl rfl (by rfl) (by rfl) ?_
  apply Exists.intro
  refine ⟨fun z K hK => ?_, ?_, ?_⟩
  ·go_big_quiet_op
   exact hK _ rfl
  ·kernel_rfl
  refine shM_step rfl rfl rfl (by rfl) (by rfl) ?_
  apply Exists.intro
  refine ⟨fun z K hK => ?_, ?_, ?_⟩
  ·have d0 : ∀ y : KW z.w, y.w.cell? ⟨w.heap.size, 0, none⟩ = some (.slice A na ca) := fun y => Keep.cell (keepN z.has y.keep) c0 id
   go_big_quiet_op
   exact hK _ rfl
  ·kernel_rfl
  refine shM_step rfl rfl rfl (by rfl) (by rfl) ?_
  apply Exists.intro
  refine ⟨fun z K hK => ?_, ?_, ?_⟩
  ·go_big_quiet_op
   apply Exists.intro
   refine ⟨fun y => ?_, ?_⟩
   ·go_at_call 146
    exact kept_of (HTa.out _ (LetAt.keep HL.out (keepN gK (keepN z.has y.keep))) (ha2.keepN (keepN z.has y.keep)))
   ·exact hK _ rfl
  ·kernel_rfl
  refine shM_step rfl rfl rfl (by rfl) (by rfl) ?_
  apply Exists.intro
  refine ⟨fun z K hK => ?_, ?_, ?_⟩
  ·go_big_quiet_op
   exact hK _ rfl
  ·kernel_rfl
  refine shM_step rfl rfl rfl (by rfl) (by rfl) ?_
  apply Exists.intro
  refine ⟨fun z K hK => ?_, ?_, ?_⟩
  ·go_big_quiet_op
   exact hK _ rfl
  ·kernel_rfl
  refine shM_step rfl rfl rfl (by rfl) (by rfl) ?_
  apply Exists.intro
  refine ⟨fun z K hK => ?_, ?_, ?_⟩
  ·have d1 : ∀ y : KW z.w, y.w.cell? ⟨w.heap.size, 1, none⟩ = some (.slice B nb cb) := fun y => Keep.cell (keepN z.has y.keep) c1 id
   go_big_quiet_op
   exact hK _ rfl
  ·kernel_rfl
  refine shM_step rfl rfl rfl (by rfl) (by rfl) ?_
  apply Exists.intro
  refine ⟨fun z K hK => ?_, ?_, ?_⟩
  ·go_big_quiet_op
   apply Exists.intro
   refine ⟨fun y => ?_, ?_⟩
   ·go_at_call 146
    exact kept_of (HTb.out _ (LetAt.keep HL.out (keepN gK (keepN z.has y.keep))) (hr2.keepN (keepN z.has y.keep)))
   ·exact hK _ rfl
  ·kernel_rfl
  refine shM_step rfl rfl rfl (by rfl) (by rfl) ?_
  apply Exists.intro
  refine ⟨fun z K hK => ?_, ?_, ?_⟩
  ·go_big_quiet_op
   exact hK _ rfl
  ·kernel_rfl
  refine shM_step rfl rfl rfl (by rfl) (by rfl) ?_
  apply Exists.intro
  refine ⟨fun z K hK => ?_, ?_, ?_⟩
  ·go_big_quiet_op
   exact hK _ rfl
  ·kernel_rfl
  refine shM_nil (fun z => ?_)
  have hz := z.has
  generalize z.w = w6 at hz ⊢
  go_wp2
  go_ret
  exact ⟨rfl, keepN gK hz⟩

end Go.Proofs.YtgnooffedmeenaaGreatDoor.S

namespace Go.Proofs.YtgnooffedmeenaaGreatDoor.C
open Go.RowKit O

theorem goes_gen (op a b tgt : Int) (t : Bool) (w : World) (h1 : goesN op a b = tgt) (h2 : goesI op a b = t) :
  Calls Tryz.prog 106 #[instV op a b] w fun e w' => e = .returned (.tuple #[.int .i64 tgt, .bool t]) ∧ Keep NoB w w' := by subst h1 h2; exact goes_any op a b w
theorem ends_gen (op a b : Int) (t : Bool) (w : World) (h : endsI op a b = t) :
  Calls Tryz.prog 164 #[instV op a b] w fun e w' => e = .returned (.bool t) ∧ Keep NoB w w' := by subst h; exact ends_any op a b w
theorem chk_gen (op a b c : Int) (w : World) (h : chk op a b = c) :
  Calls Tryz.prog 165 #[instV op a b] w fun e w' => e = .returned (.int .i64 c) ∧ Keep NoB w w' := by subst h; exact check_any op a b w
theorem blk3 {w : World} {g : Nat} {t : TypeId} {a0 a1 a2 : Value} (h : Blk w g t #[a0, a1, a2]) : w.cell? ⟨g, 0, none⟩ = some a0 ∧ w.cell? ⟨g, 1, none⟩ = some a1 ∧ w.cell? ⟨g, 2, none⟩ = some a2 := ⟨h.cell 0, h.cell 1, h.cell 2⟩

set_option maxRecDepth 100000 in
set_option maxHeartbeats 4000000 in
theorem cchk_any (A : Option Addr) (l : List I3) (n c : Nat) (w : World) (hr : Rd w A (iis l)) (hn : Hid (l.length = n)) (hm : n ≤ 9223372036854775807) (R : Int) (hR : Hid (chkB l = R)) :
  Calls Tryz.prog 105 #[.slice A n c] w fun e w' => e = .returned (.int .i64 R) ∧ Keep NoB w w' := by
 by_cases h0 : n = 0
 ·subst h0
  obtain rfl : 50 = R := by rw [← hR.out, List.length_eq_zero_iff.1 hn.out]; rfl
  go_enter Tryz.func105, Tryz.ntmps105
  go_wp2
  go_ret
  exact ⟨rfl, Keep.refl _ _⟩
 have hz : ((n : Int) == 0) = false := by rw [beq_eq_false_iff_ne]; omega
 by_cases h5 : 512 < n
 ·obtain rfl : 50 = R := by rw [← hR.out, chkB_no (okB_long (by rw [hn.out]; omega))]
  have hq : decide ((512 : Int) < (n : Int)) = true := by rw [decide_eq_true_iff]; omega
  clear h5 h0
  go_enter Tryz.func105, Tryz.ntmps105
  go_wp2
  go_ret
  exact ⟨rfl, Keep.refl _ _⟩
 have hq : decide ((512 : Int) < (n : Int)) = false := by rw [decide_eq_false_iff_not]; omega
 obtain ⟨m, rfl⟩ : ∃ m, n = m + 1 := ⟨n - 1, by omega⟩
 have hz2 : ((m : Int) + 1 == 0) = false := by rw [beq_eq_false_iff_ne]; omega
 have hq2 : decide ((512 : Int) < (m : Int) + 1) = false := by rw [decide_eq_false_iff_not]; omega
 have hl0 : 0 < l.length := by rw [hn.out]; omega
 obtain ⟨g, off, rfl, hc⟩ := rdJ_at hr hl0
 have hml : m < l.length := by rw [hn.out]; omega
 obtain ⟨c0, c1, c2⟩ := hc m hml
 have HC := Lib.hid hc
 have hlast : Hid (lastB l = eB l[m]) := by
  show _ = _
  rw [lastB_at hl0]
  congr 2
  rw [hn.out]; omega
 clear hc hr h0 h5 hl0
 generalize l[m] = x at c0 c1 c2 hlast
 obtain ⟨op, a, b⟩ := x
 dsimp only at c0 c1 c2
 cases he : endsI op a b
 ·obtain rfl : 50 = R := by rw [← hR.out, chkB_no (okB_last (by rw [hlast.out]; exact he))]
  have HE := Lib.hid (fun w => ends_gen op a b _ w he)
  clear he hlast HC hR
  go_enter Tryz.func105, Tryz.ntmps105
  go_wp2_with (go_at_call 164; refine (HE.out _).mono ?_; rintro e w1 ⟨rfl, k1⟩)
  go_ret
  exact ⟨rfl, k1⟩
 have HL : Hid (lastB l = true) := by show _ = _; rw [hlast.out]; exact he
 have HE := Lib.hid (fun w => ends_gen op a b _ w he)
 clear he hlast
 go_enter Tryz.func105, Tryz.ntmps105
 go_wp2_with (go_at_call 164; refine (HE.out _).mono ?_; rintro e w1 ⟨rfl, k1⟩)
 clear c0 c1 c2 HE hml
 go_loopw [27] (fun i wr => ∃ k : Nat, k ≤ m + 1 ∧ i = .int .i64 k ∧ Hid ((l.take k).all (itemB (m + 1)) = true) ∧ Keep NoB w wr) (fun i _ => m + 1 - (intOf i).toNat)
 case atStart => exact ⟨0, Nat.zero_le _, rfl, rfl, k1⟩
 case round =>
  obtain ⟨k, hk, rfl, hall, hK⟩ := hrel
  by_cases hlt : k < m + 1
  ·have hkl : k < l.length := by rw [hn.out]; exact hlt
   obtain ⟨d0, d1, d2⟩ := HC.out k hkl
   have c0 := hK.cell d0 id
   have c1 := hK.cell d1 id
   have c2 := hK.cell d2 id
   have HT := Lib.hid (show l.take (k + 1) = l.take k ++ [l[k]] from List.take_succ_eq_append_getElem hkl)
   have HN : Hid (itemB l.length l[k] = false → 50 = R) := fun h => by rw [← hR.out, chkB_no (okB_item (all_no hkl h))]
   rw [hn.out] at HN
   clear d0 d1 d2
   generalize l[k] = x at c0 c1 c2 HT HN
   obtain ⟨op, a, b⟩ := x
   dsimp only at c0 c1 c2
   obtain ⟨tgt, hto⟩ : ∃ tgt, goesN op a b = tgt := ⟨_, rfl⟩
   have hb : 0 ≤ tgt ∧ tgt ≤ 511 := by rw [← hto]; exact gN_in (op, a, b)
   have HG := Lib.hid (fun w => goes_gen op a b tgt _ w hto rfl)
   have bx := Blk.new wr 55 #[.int .i64 op, .int .i64 a, .int .i64 b]
   have gK := hK.alloc (.cells #[.int .i64 op, .int .i64 a, .int .i64 b] 55)
   cases ho : okI op a b
   ·obtain rfl := HN.out (item_no1 ho)
    have HO := Lib.hid (fun w => chk_gen op a b 40 w (by unfold chk; rw [ho]; rfl))
    clear ho hto HN HT HL hall hK hR
    go_wp2_with fail
    refine (HG.out _).mono ?_
    rintro e w2 ⟨rfl, k2⟩
    replace bx := bx.keep k2 id
    replace gK := keepN gK k2
    obtain ⟨x0, x1, x2⟩ := blk3 bx
    go_wp2_with (go_at_call 165; refine (HO.out _).mono ?_; rintro e w3 ⟨rfl, k3⟩)
    go_ret
    exact ⟨rfl, keepN gK k3⟩
   have HO := Lib.hid (fun w => chk_gen op a b 0 w (by unfold chk; rw [ho]; rfl))
   by_cases ht : tgt < ((m + 1 : Nat) : Int)
   ·have ht2 : ¬ ((m : Int) + 1 ≤ tgt) := by omega
    have ha2 : Hid ((l.take (k + 1)).all (itemB (m + 1)) = true) := by
     show _ = _
     rw [HT.out, List.all_append, hall.out]
     simp only [List.all_cons, List.all_nil, Bool.and_true, Bool.true_and]
     exact item_yes ho (by show goesN op a b < _; rw [hto]; exact ht)
    clear ho hto HN HT HL hall hK hR ht
    go_wp2_with fail
    refine (HG.out _).mono ?_
    rintro e w2 ⟨rfl, k2⟩
    replace bx := bx.keep k2 id
    replace gK := keepN gK k2
    obtain ⟨x0, x1, x2⟩ := blk3 bx
    go_wp2_with (go_at_call 165; refine (HO.out _).mono ?_; rintro e w3 ⟨rfl, k3⟩)
    go_roundw
    case rel => exact ⟨k + 1, by omega, by go_num, ha2, keepN gK k3⟩
    case measure => simp [intOf]; omega
   ·obtain rfl := HN.out (item_no2 (by show ¬ goesN op a b < _; rw [hto]; exact ht))
    have ht2 : ((m : Int) + 1 ≤ tgt) := by omega
    clear ho hto HN HT HL hall hK hR ht
    go_wp2_with fail
    refine (HG.out _).mono ?_
    rintro e w2 ⟨rfl, k2⟩
    replace bx := bx.keep k2 id
    replace gK := keepN gK k2
    obtain ⟨x0, x1, x2⟩ := blk3 bx
    go_wp2_with (go_at_call 165; refine (HO.out _).mono ?_; rintro e w3 ⟨rfl, k3⟩)
    go_ret
    exact ⟨rfl, keepN gK k3⟩
  ·obtain rfl : 0 = R := by
    rw [← hR.out, chkB_ok (okB_mk (by rw [hn.out]; have := decide_eq_false_iff_not.1 hq; omega) HL.out ?_)]
    have := hall.out
    rw [List.take_of_length_le (by rw [hn.out]; omega)] at this
    rw [hn.out]; exact this
   clear HC hR
   go_wp2
   go_ret
   exact ⟨rfl, hK⟩

end Go.Proofs.YtgnooffedmeenaaGreatDoor.C

namespace Go.Proofs.YtgnooffedmeenaaGreatDoor.C
open Go.RowKit O

end Go.Proofs.YtgnooffedmeenaaGreatDoor.C

namespace Go.Proofs.YtgnooffedmeenaaGreatDoor.C
open Go.RowKit O

def AllI (l : List I3) : Prop := ∀ x ∈ l, O.I64 x.2.1 ∧ O.I64 x.2.2

end Go.Proofs.YtgnooffedmeenaaGreatDoor.C

namespace Go.Proofs.YtgnooffedmeenaaGreatDoor.M.L
open Go.RowKit

structure ImOk (p : I.Im) : Prop where
 ok : I.okI p = true
 hI : ∀ f ∈ p.fn, C.AllI f.bd
theorem ImOk.fn {p : I.Im} (h : ImOk p) {k : Nat} {f : F.Fu} (hf : p.fn[k]? = some f) : F.okF f = true ∧ C.AllI f.bd :=
 ⟨List.all_eq_true.1 ((I.okI_iff p).1 h.ok).2.2 _ (List.mem_of_getElem? hf), h.hI _ (List.mem_of_getElem? hf)⟩
theorem ImOk.ns {p : I.Im} (h : ImOk p) : p.sh.length ≤ 64 := ((I.okI_iff p).1 h.ok).1.1
theorem ImOk.nf {p : I.Im} (h : ImOk p) : p.fn.length ≤ 64 := ((I.okI_iff p).1 h.ok).1.2.1.2
theorem txI_le {x : C.I3} (h : O.I64 x.2.1 ∧ O.I64 x.2.2) : (O.textI x.1 x.2.1 x.2.2).length ≤ 60 := by
 have h1 := O.name_len x.1
 have h2 := O.word_len (O.rowAt x.1).ka x.2.1 h.1
 have h3 := O.word_len (O.rowAt x.1).kb x.2.2 h.2
 unfold O.textI O.partL
 rw [List.length_append, List.length_append]
 split <;> split <;> simp <;> omega
theorem note_le {i : Nat} (h : i ≤ 512) : (noteB i).length ≤ 24 := by
 have := Lib.itoa_length_le (i : Int) (by omega) (by omega)
 unfold noteB
 simp
 omega
theorem okN_le {s : Bs} (h : F.okN s = true) : s.length ≤ 32 := ((F.okN_iff s).1 h).1
theorem insn_none {x : C.I3} (hx : O.I64 x.2.1 ∧ O.I64 x.2.2) : (joinW (insL none x)).length ≤ 60 := by
 show (joinW (wordsX x)).length ≤ 60
 rw [join_words]
 exact txI_le hx
theorem insn_len {p : I.Im} (hp : I.okI p = true) (k : Nat) {x : C.I3} (hx : O.I64 x.2.1 ∧ O.I64 x.2.2) : (joinW (insL (NWp p k x) x)).length ≤ 60 := by
 cases hn : NWp p k x with
 | none => exact insn_none hx
 | some s =>
  have h3 := okN_le ((goodP hp).nok k x s hn).1
  have h4 := O.name_len x.1
  show ((O.rowAt x.1).name ++ 32 :: s).length ≤ 60
  simp
  omega
theorem ins_le {p : I.Im} (hp : I.okI p = true) (kind k : Nat) {i : Nat} (hi : i ≤ 512) {x : C.I3} (hx : O.I64 x.2.1 ∧ O.I64 x.2.2) : (insS kind p k i x).length ≤ 200 := by
 have h1 := note_le hi
 have h2 : (joinW (insL (if kind = 0 then NWp p k x else none) x)).length ≤ 60 := by
  split
  ·exact insn_len hp k hx
  ·exact insn_none hx
 have h3 : (if kind = 2 then noteB i else []).length ≤ 24 := by
  split
  ·exact h1
  ·simp
 unfold insS
 rw [List.length_append]
 omega
theorem say_le {p : I.Im} (hp : ImOk p) {kind : Nat} {lab : Nat → Nat → Bool} {l : Ln4} (hl : OkQ lab p l) : (sayQ kind p l).length ≤ 2300 := by
 obtain ⟨w, s, i, j⟩ := l
 have hw := hl.w
 dsimp only at hw
 have hw : w = 0 ∨ w = 1 ∨ w = 2 ∨ w = 3 ∨ w = 4 := by omega
 unfold sayQ
 rcases hw with rfl | rfl | rfl | rfl | rfl <;> dsimp only
 ·have := S.txt_le (p.sh[s]?.getD [])
  show (shapeW ++ 32 :: S.shS _).length ≤ 2300
  unfold S.shS
  split <;> simp [shapeW] <;> omega
 ·obtain ⟨_, f, hf, _⟩ := hl.f (fun h => nomatch h)
  dsimp only at hf
  rw [hf]
  have h2 := okN_le ((F.okF_iff f).1 (hp.fn hf).1).1
  have ha := S.txt_le f.ar
  have hb := S.txt_le f.rs
  show (funcW ++ 32 :: (f.nm ++ 32 :: S.shG f.ar f.rs)).length ≤ 2300
  unfold S.shG
  split <;> simp [funcW] <;> omega
 ·have hc := S.txt_le (p.fn[i]?.getD fu0).lc
  show (localW ++ 32 :: W.txt _).length ≤ 2300
  simp [localW]
  omega
 ·show ((LBp p i j).getD [] ++ [58]).length ≤ 2300
  rw [List.length_append]
  cases h : LBp p i j with
  | none => show ([] : Bs).length + 1 ≤ 2300; decide
  | some s =>
   have := okN_le ((goodP hp.ok).lok i j s h)
   show s.length + 1 ≤ 2300
   omega
 ·obtain ⟨_, f, hf, hlt, _⟩ := hl.f (fun h => nomatch h)
  dsimp only at hf hlt
  have hlt := hlt (by omega)
  have hb := (ok_body (hp.fn hf).1).2.2.1
  show (insS kind p i j ((p.fn[i]?.getD fu0).bd[j]?.getD (0, 0, 0))).length ≤ 2300
  rw [hf]
  show (insS kind p i j (f.bd[j]?.getD (0, 0, 0))).length ≤ 2300
  rw [List.getElem?_eq_getElem hlt]
  exact Nat.le_trans (ins_le hp.ok kind i (by omega) ((hp.fn hf).2 _ (List.getElem_mem hlt))) (by omega)
theorem bodyQ_len {lab : Nat → Bool} {k : Nat} : ∀ n i : Nat, (bodyQ lab k i n).length ≤ 2 * n
 | 0, _ => Nat.le_refl _
 | n + 1, i => by
  have := bodyQ_len (lab := lab) (k := k) n (i + 1)
  rw [bodyQ, List.length_append, List.length_cons]
  split <;> simp <;> omega
theorem funcsQ_len {lab : Nat → Nat → Bool} : ∀ (q : List F.Fu) (k : Nat), (∀ f ∈ q, F.okF f = true) → (funcsQ lab k q).length ≤ 1026 * q.length
 | [], _, _ => Nat.le_refl _
 | f :: q, k, h => by
  have h1 := funcsQ_len (lab := lab) q (k + 1) (fun g hg => h g (by simp [hg]))
  have h2 := bodyQ_len (lab := lab k) (k := k) f.bd.length 0
  have h3 := (ok_body (h f (by simp))).2.2.1
  rw [funcsQ, List.length_append, List.length_cons]
  unfold funcQ
  rw [List.length_cons, List.length_append]
  split <;> simp <;> omega
theorem seqQ_len {p : I.Im} (hp : ImOk p) (lab : Nat → Nat → Bool) : (seqQ lab p).length ≤ 65728 := by
 have h1 := hp.ns
 have h2 := hp.nf
 have h3 := funcsQ_len (lab := lab) p.fn 0 (fun f hf => List.all_eq_true.1 ((I.okI_iff p).1 hp.ok).2.2 _ hf)
 unfold seqQ shapesQ
 rw [List.length_append, List.length_map, List.length_range]
 have : 1026 * p.fn.length ≤ 1026 * 64 := Nat.mul_le_mul_left _ h2
 omega
theorem textOf_le {M : Nat} : ∀ (l : List Bs), (∀ s ∈ l, s.length ≤ M) → (textOf l).length ≤ (M + 1) * l.length
 | [], _ => Nat.zero_le _
 | s :: l, h => by
  have h1 := h s (by simp)
  have h2 := textOf_le l (fun x hx => h x (by simp [hx]))
  rw [text_cons, List.length_append, List.length_cons, List.length_cons, Nat.mul_add, Nat.mul_one]
  omega
theorem textOf_pre {p : I.Im} (hp : ImOk p) {kind : Nat} {lab : Nat → Nat → Bool} {pre : List Ln4} (h : ∀ l ∈ pre, OkQ lab p l) (hl : pre.length ≤ 65728) : (textOf (pre.map (sayQ kind p))).length ≤ 2301 * 65728 := by
 refine Nat.le_trans (textOf_le (M := 2300) _ fun s hs => ?_) (Nat.mul_le_mul_left _ (by rw [List.length_map]; exact hl))
 obtain ⟨l, hl, rfl⟩ := List.mem_map.1 hs
 exact say_le hp (h l hl)
end Go.Proofs.YtgnooffedmeenaaGreatDoor.M.L
