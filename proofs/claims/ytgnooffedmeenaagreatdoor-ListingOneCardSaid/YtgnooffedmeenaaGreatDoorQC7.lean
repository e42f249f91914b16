/-
  Part 7 of the proofs of LNamesRow, LOneRow: what is laid, and what the functions that the law runs answer. Conditions: each theorem names its own.
-/
import Derived.Laws.ResultCell
import Derived.Laws.Rows
import Derived.Lib.IndexLaws
import Derived.Lib.Split
import Derived.StillTail
import Derived.Test.YtgnooffedmeenaaGreatDoorQC6
namespace Go.Proofs.YtgnooffedmeenaaGreatDoor.M.L
open Go.RowKit

def pick (n : Nat) : List LR → List (Nat × Int × Int)
 | [] => []
 | e :: r => if 0 ≤ e.2.1 then (n, e.2) :: pick (n + 1) r else pick (n + 1) r
theorem pick_append : ∀ (a b : List LR) (n : Nat), pick n (a ++ b) = pick n a ++ pick (n + a.length) b
 | [], _, _ => rfl
 | e :: a, b, n => by
  rw [List.cons_append, pick, pick, pick_append a b (n + 1), List.length_cons, show n + 1 + a.length = n + (a.length + 1) by omega]
  split
  ·rfl
  ·rfl
theorem pick_mem {x : Nat × Int × Int} : ∀ (l : List LR) (n : Nat), x ∈ pick n l ↔ ∃ j s, x.1 = n + j ∧ l[j]? = some (s, x.2) ∧ 0 ≤ x.2.1
 | [], n => by simp [pick]
 | e :: l, n => by
  have ih := pick_mem (x := x) l (n + 1)
  have hr : (∃ j s, x.1 = n + j ∧ (e :: l)[j]? = some (s, x.2) ∧ 0 ≤ x.2.1) ↔ (x.1 = n ∧ e.2 = x.2 ∧ 0 ≤ x.2.1) ∨ ∃ j s, x.1 = n + 1 + j ∧ l[j]? = some (s, x.2) ∧ 0 ≤ x.2.1 := by
   constructor
   ·rintro ⟨j, s, h1, h2, h3⟩
    cases j with
    | zero =>
     rw [List.getElem?_cons_zero] at h2
     injection h2 with h2
     exact .inl ⟨h1, by rw [h2], h3⟩
    | succ j =>
     rw [List.getElem?_cons_succ] at h2
     exact .inr ⟨j, s, by omega, h2, h3⟩
   ·rintro (⟨h1, h2, h3⟩ | ⟨j, s, h1, h2, h3⟩)
    ·exact ⟨0, e.1, h1, by rw [List.getElem?_cons_zero, ← h2], h3⟩
    ·exact ⟨j + 1, s, by omega, by rw [List.getElem?_cons_succ]; exact h2, h3⟩
  rw [hr, pick]
  by_cases h : 0 ≤ e.2.1
  ·rw [if_pos h, List.mem_cons, ih]
   constructor
   ·rintro (rfl | h2)
    ·exact .inl ⟨rfl, rfl, h⟩
    ·exact .inr h2
   ·rintro (⟨h1, h2, _⟩ | h2)
    ·exact .inl (Prod.ext h1 h2.symm)
    ·exact .inr h2
  ·rw [if_neg h, ih]
   constructor
   ·exact .inr
   ·rintro (⟨_, h2, h3⟩ | h2)
    ·rw [← h2] at h3; exact absurd h3 h
    ·exact h2
theorem pick_lt : ∀ (l : List LR) (n : Nat), (pick n l).Pairwise fun x y => x.1 < y.1
 | [], _ => List.Pairwise.nil
 | e :: l, n => by
  rw [pick]
  split
  ·rw [List.pairwise_cons]
   refine ⟨fun y hy => ?_, pick_lt l (n + 1)⟩
   obtain ⟨j, _, h, _⟩ := (pick_mem l (n + 1)).1 hy
   show n < y.1
   omega
  ·exact pick_lt l (n + 1)
def insO (k : Nat) : List F.Fu → List (Int × Int)
 | [] => []
 | f :: r => ((List.range f.bd.length).map fun i => ((k : Int), ((i : Nat) : Int))) ++ insO (k + 1) r
theorem pick_one (m : Nat) (s : Bs) (k i : Nat) : pick m [(s, (k : Int), (i : Int))] = [(m, (k : Int), (i : Int))] := by
 rw [pick, if_pos (by show 0 ≤ (k : Int); omega)]
 rfl
theorem pick_body {kind : Nat} {p : I.Im} {t : List Nat} {k : Nat} : ∀ (b : List C.I3) (i n : Nat), (pick n (bodyR kind p t k i b)).map Prod.snd = (List.range b.length).map fun j => ((k : Int), ((i + j : Nat) : Int))
 | [], _, _ => rfl
 | x :: b, i, n => by
  have e0 : ∀ m, (pick m (itemR kind p t k i x)).map Prod.snd = [((k : Int), (i : Int))] := by
   intro m
   unfold itemR
   by_cases hk : kind = 0
   ·rw [if_pos hk]
    cases labA t i with
    | none => show (pick m [_]).map _ = _; rw [pick_one]; rfl
    | some s => show (pick m ([_] ++ [_])).map _ = _; rw [pick_append, pick_one]; rfl
   ·rw [if_neg hk]
    show (pick m [_]).map _ = _
    rw [pick_one]; rfl
  rw [bodyR, pick_append, List.map_append, e0, pick_body b (i + 1), List.length_cons, List.range_succ_eq_map, List.map_cons, List.map_map, Nat.add_zero]
  show _ :: _ = _ :: _
  congr 1
  refine List.map_congr_left fun j _ => ?_
  show ((k : Int), ((i + 1 + j : Nat) : Int)) = ((k : Int), ((i + (j + 1) : Nat) : Int))
  rw [show i + 1 + j = i + (j + 1) by omega]
theorem pick_plain : ∀ (l : List (List Bs)) (n : Nat), pick n (l.map plainR) = []
 | [], _ => rfl
 | w :: l, n => by
  rw [List.map_cons, pick, if_neg (by show ¬ (0 : Int) ≤ -1; decide), pick_plain l]
theorem pick_funcs {kind : Nat} {p : I.Im} : ∀ (q : List F.Fu) (k n : Nat), (pick n (funcsR kind p k q)).map Prod.snd = insO k q
 | [], _, _ => rfl
 | f :: q, k, n => by
  rw [funcsR, pick_append, List.map_append, pick_funcs q (k + 1), insO]
  congr 1
  unfold funcR
  rw [pick_append, List.map_append, pick_plain, pick_body]
  show [] ++ _ = _
  rw [List.nil_append]
  refine List.map_congr_left fun j _ => ?_
  rw [Nat.zero_add]
theorem pick_all (kind : Nat) (p : I.Im) : (pick 0 (allR kind p)).map Prod.snd = insO 0 p.fn := by
 unfold allR
 rw [pick_append, List.map_append, pick_funcs]
 have h := pick_plain (p.sh.map shapeT) 0
 rw [List.map_map] at h
 rw [show p.sh.map (fun s => plainR (shapeT s)) = p.sh.map (plainR ∘ shapeT) from rfl, h]
 rfl
def cum (q : List F.Fu) (i : Nat) : Nat := ((q.take i).map fun f => f.bd.length).sum
theorem cum_zero (q : List F.Fu) : cum q 0 = 0 := rfl
theorem cum_succ {q : List F.Fu} {i : Nat} {f : F.Fu} (h : q[i]? = some f) : cum q (i + 1) = cum q i + f.bd.length := by
 unfold cum
 rw [List.take_add_one, h, List.map_append, List.sum_append_nat]
 simp
theorem cum_cons (f : F.Fu) (q : List F.Fu) (i : Nat) : cum (f :: q) (i + 1) = f.bd.length + cum q i := by
 unfold cum
 rw [List.take_succ_cons, List.map_cons, List.sum_cons]
theorem ins_at : ∀ (q : List F.Fu) (k i j : Nat) (f : F.Fu), q[i]? = some f → j < f.bd.length → (insO k q)[cum q i + j]? = some (((k + i : Nat) : Int), ((j : Nat) : Int))
 | [], k, i, j, f, h, _ => by simp at h
 | g :: q, k, 0, j, f, h, hj => by
  rw [List.getElem?_cons_zero] at h
  injection h with h
  subst h
  rw [cum_zero, Nat.zero_add, insO, List.getElem?_append_left (by simpa using hj), List.getElem?_map, List.getElem?_range hj]
  rfl
 | g :: q, k, i + 1, j, f, h, hj => by
  have ih := ins_at q (k + 1) i j f (by simpa using h) hj
  rw [cum_cons, insO, List.getElem?_append_right (by simp; omega), List.length_map, List.length_range, show g.bd.length + cum q i + j - g.bd.length = cum q i + j by omega, ih]
  rw [show k + 1 + i = k + (i + 1) by omega]
theorem ins_len : ∀ (q : List F.Fu) (k : Nat), (insO k q).length = cum q q.length
 | [], _ => rfl
 | f :: q, k => by rw [insO, List.length_append, ins_len q (k + 1), List.length_cons, cum_cons]; simp
theorem ins_ge : ∀ (q : List F.Fu) (k : Nat), ∀ x ∈ insO k q, (k : Int) ≤ x.1
 | [], _, x, hx => by cases hx
 | f :: q, k, x, hx => by
  rw [insO, List.mem_append] at hx
  rcases hx with hx | hx
  ·obtain ⟨j, _, rfl⟩ := List.mem_map.1 hx
   exact Int.le_refl _
  ·have := ins_ge q (k + 1) x hx
   omega
theorem ins_nodup : ∀ (q : List F.Fu) (k : Nat), (insO k q).Nodup
 | [], _ => List.nodup_nil
 | f :: q, k => by
  rw [insO, List.nodup_append]
  refine ⟨?_, ins_nodup q (k + 1), fun x hx y hy e => ?_⟩
  ·refine List.Pairwise.map (R := fun a b => a ≠ b) _ (fun a b hab e => ?_) List.nodup_range
   injection e with _ e
   exact hab (by omega)
  ·subst e
   obtain ⟨j, _, rfl⟩ := List.mem_map.1 hx
   have := ins_ge q (k + 1) _ hy
   dsimp only at this
   omega
def lineI (p : I.Im) (fn pl : Int) : Option Nat := if 0 ≤ fn then (allR 0 p).findIdx? fun e => decide (e.2.1 = fn ∧ e.2.2 = pl) else none
def placeI (p : I.Im) (line : Int) : Option (Int × Int) := if 1 ≤ line then (match (allR 0 p)[(line - 1).toNat]? with
 | some e => if 0 ≤ e.2.1 then some e.2 else none
 | none => none) else none
def posI (p : I.Im) (c : Nat) : Nat := ((pick 0 (allR 0 p))[c]?.map Prod.fst).getD 0
theorem pick_at {p : I.Im} {i j : Nat} {f : F.Fu} (hf : p.fn[i]? = some f) (hj : j < f.bd.length) : (pick 0 (allR 0 p))[cum p.fn i + j]? = some (posI p (cum p.fn i + j), ((i : Nat) : Int), ((j : Nat) : Int)) := by
 have h := ins_at p.fn 0 i j f hf hj
 rw [← pick_all 0 p, List.getElem?_map, Nat.zero_add] at h
 unfold posI
 cases hc : (pick 0 (allR 0 p))[cum p.fn i + j]? with
 | none => rw [hc] at h; cases h
 | some x =>
  rw [hc] at h
  injection h with h
  show some x = some (x.1, _)
  rw [← h]
theorem pos_lt {p : I.Im} {a b : Nat} (h : a < b) (hb : b < cum p.fn p.fn.length) : posI p a < posI p b := by
 have hl : (pick 0 (allR 0 p)).length = cum p.fn p.fn.length := by rw [← ins_len p.fn 0, ← pick_all 0 p, List.length_map]
 have := (List.pairwise_iff_getElem.1 (pick_lt (allR 0 p) 0)) a b (by omega) (by omega) h
 unfold posI
 rw [List.getElem?_eq_getElem (by omega), List.getElem?_eq_getElem (by omega)]
 exact this
theorem pos_entry {p : I.Im} {i j : Nat} {f : F.Fu} (hf : p.fn[i]? = some f) (hj : j < f.bd.length) : ∃ s, (allR 0 p)[posI p (cum p.fn i + j)]? = some (s, ((i : Nat) : Int), ((j : Nat) : Int)) := by
 have h := List.mem_of_getElem? (pick_at hf hj)
 obtain ⟨m, s, h1, h2, _⟩ := (pick_mem (allR 0 p) 0).1 h
 refine ⟨s, ?_⟩
 dsimp only at h1
 rw [Nat.zero_add] at h1
 rw [h1]; exact h2
theorem entry_pos {p : I.Im} {n : Nat} {s : Bs} {x : Int × Int} (h : (allR 0 p)[n]? = some (s, x)) (h0 : 0 ≤ x.1) : ∃ i j f, p.fn[i]? = some f ∧ j < f.bd.length ∧ x = (((i : Nat) : Int), ((j : Nat) : Int)) ∧ n = posI p (cum p.fn i + j) := by
 have hm : (n, x) ∈ pick 0 (allR 0 p) := (pick_mem (allR 0 p) 0).2 ⟨n, s, by simp, h, h0⟩
 have key : ∀ (q : List F.Fu) (k : Nat), x ∈ insO k q → ∃ i j f, q[i]? = some f ∧ j < f.bd.length ∧ x = (((k + i : Nat) : Int), ((j : Nat) : Int)) := by
  intro q
  induction q with
  | nil => intro k hx; cases hx
  | cons f q ih =>
   intro k hx
   rw [insO, List.mem_append] at hx
   rcases hx with hx | hx
   ·obtain ⟨j, hj, rfl⟩ := List.mem_map.1 hx
    exact ⟨0, j, f, rfl, List.mem_range.1 hj, rfl⟩
   ·obtain ⟨i, j, g, h1, h2, h3⟩ := ih (k + 1) hx
    exact ⟨i + 1, j, g, h1, h2, by rw [h3, show k + 1 + i = k + (i + 1) by omega]⟩
 have hx : x ∈ insO 0 p.fn := by rw [← pick_all 0 p]; exact List.mem_map.2 ⟨_, hm, rfl⟩
 obtain ⟨i, j, f, h1, h2, h3⟩ := key p.fn 0 hx
 rw [Nat.zero_add] at h3
 refine ⟨i, j, f, h1, h2, h3, ?_⟩
 obtain ⟨c, hc, hce⟩ := List.getElem_of_mem hm
 have h4 := pick_at h1 h2
 obtain ⟨hc2, h5⟩ := List.getElem?_eq_some_iff.1 h4
 have hnd : ((pick 0 (allR 0 p)).map Prod.snd).Nodup := by rw [pick_all]; exact ins_nodup _ _
 have e : c = cum p.fn i + j := by
  rcases Nat.lt_trichotomy c (cum p.fn i + j) with hlt | heq | hgt
  ·have := (List.pairwise_iff_getElem.1 hnd) c _ (by simpa using hc) (by simpa using hc2) hlt
   rw [List.getElem_map, List.getElem_map, hce, h5] at this
   exact absurd h3 this
  ·exact heq
  ·have := (List.pairwise_iff_getElem.1 hnd) _ c (by simpa using hc2) (by simpa using hc) hgt
   rw [List.getElem_map, List.getElem_map, hce, h5] at this
   exact absurd h3.symm this
 subst e
 rw [hce] at h5
 injection h5 with h5 _
theorem line_of {p : I.Im} {i j : Nat} {f : F.Fu} (hf : p.fn[i]? = some f) (hj : j < f.bd.length) : lineI p ((i : Nat) : Int) ((j : Nat) : Int) = some (posI p (cum p.fn i + j)) := by
 obtain ⟨s, h1⟩ := pos_entry hf hj
 obtain ⟨hn, h2⟩ := List.getElem?_eq_some_iff.1 h1
 unfold lineI
 rw [if_pos (by omega), List.findIdx?_eq_some_iff_getElem]
 refine ⟨hn, by rw [h2]; exact decide_eq_true ⟨rfl, rfl⟩, fun m hm => ?_⟩
 rw [Bool.not_eq_true, decide_eq_false_iff_not]
 rintro ⟨e1, e2⟩
 obtain ⟨i', j', f', g1, g2, g3, g4⟩ := entry_pos (p := p) (n := m) (s := (allR 0 p)[m].1) (x := (allR 0 p)[m].2) (List.getElem?_eq_getElem _) (by rw [e1]; omega)
 have e3 : (allR 0 p)[m].2 = (((i : Nat) : Int), ((j : Nat) : Int)) := Prod.ext e1 e2
 rw [e3] at g3
 injection g3 with g5 g6
 have : i' = i := by omega
 have : j' = j := by omega
 subst i' j'
 omega
theorem place_pos {p : I.Im} {i j : Nat} {f : F.Fu} (hf : p.fn[i]? = some f) (hj : j < f.bd.length) : placeI p ((posI p (cum p.fn i + j) : Nat) + 1 : Int) = some (((i : Nat) : Int), ((j : Nat) : Int)) := by
 obtain ⟨s, h1⟩ := pos_entry hf hj
 unfold placeI
 rw [if_pos (by omega), show (((posI p (cum p.fn i + j) : Nat) : Int) + 1 - 1).toNat = posI p (cum p.fn i + j) by omega, h1]
 exact if_pos (by show (0 : Int) ≤ ((i : Nat) : Int); omega)

end Go.Proofs.YtgnooffedmeenaaGreatDoor.M.L

namespace Go.Proofs.YtgnooffedmeenaaGreatDoor.M
open Go

end Go.Proofs.YtgnooffedmeenaaGreatDoor.M

namespace Go.Proofs.YtgnooffedmeenaaGreatDoor.M
open Go

end Go.Proofs.YtgnooffedmeenaaGreatDoor.M

namespace Go.Proofs.YtgnooffedmeenaaGreatDoor.M.L
open Go.RowKit

theorem byte_hit {s : Bs} (h : noLF s = true) (r : Bs) : Lib.indexByte (s ++ 10 :: r) 10 = (s.length : Int) := by
 induction s with
 | nil => rfl
 | cons c s ih =>
  unfold noLF at h
  rw [List.all_cons, Bool.and_eq_true, decide_eq_true_iff] at h
  have ih := ih h.2
  rw [List.cons_append, Lib.indexByte, if_neg (by rw [beq_iff_eq]; exact h.1), ih]
  rw [if_neg (by rw [beq_iff_eq]; omega), List.length_cons]
  omega
theorem text_cons (s : Bs) (l : List Bs) : textOf (s :: l) = s ++ 10 :: textOf l := by unfold textOf; rw [List.flatMap_cons, List.append_assoc]; rfl
theorem index_text {s : Bs} {l : List Bs} (h : noLF s = true) : Lib.index (textOf (s :: l)) [10] = (s.length : Int) := by rw [Lib.index_one, text_cons, byte_hit h]
theorem drop_text (s : Bs) (l : List Bs) : (textOf (s :: l)).drop (s.length + 1) = textOf l := by
 rw [text_cons, show s ++ 10 :: textOf l = (s ++ [10]) ++ textOf l by simp, List.drop_left' (by simp)]
theorem count_lines : ∀ l : List Bs, (∀ s ∈ l, noLF s = true) → Lib.count (textOf l) [10] = l.length
 | [], _ => rfl
 | s :: l, h => by
  have h1 := index_text (l := l) (h s (by simp))
  rw [Lib.count_hit (by simp) h1]
  show 1 + Lib.count ((textOf (s :: l)).drop (s.length + 1)) [10] = _
  rw [drop_text, count_lines l fun s hs => h s (by simp [hs]), List.length_cons, Nat.add_comm]
theorem split_lines : ∀ l : List Bs, (∀ s ∈ l, noLF s = true) → Lib.splitK [10] 0 l.length (textOf l) = l ++ [[]]
 | [], _ => rfl
 | s :: l, h => by
  have h1 := index_text (l := l) (h s (by simp))
  rw [List.length_cons, Lib.splitK, h1, if_neg (by rw [beq_iff_eq]; omega)]
  show (textOf (s :: l)).take (s.length + 0) :: Lib.splitK [10] 0 l.length ((textOf (s :: l)).drop (s.length + 1)) = _
  rw [drop_text, split_lines l fun s hs => h s (by simp [hs]), Nat.add_zero, text_cons, List.take_left' rfl]
  rfl
theorem splitB_lines {S : ByteArray} {l : List Bs} (hs : S.data.toList = textOf l) (h : ∀ s ∈ l, noLF s = true) : Lib.countB S ⟨#[10]⟩ = l.length ∧ (Lib.splitB ⟨#[10]⟩ 0 (Lib.countB S ⟨#[10]⟩) S).map (·.data.toList) = l ++ [[]] := by
 have h1 : Lib.countB S ⟨#[10]⟩ = l.length := by
  show Lib.count S.data.toList [10] = _
  rw [hs]; exact count_lines l h
 refine ⟨h1, ?_⟩
 rw [h1, Lib.splitB_data, hs]
 exact split_lines l h

/-! ### What stands in an instruction's line -/

theorem prefix_ins (kind : Nat) (p : I.Im) (k i : Nat) (x : C.I3) : ∃ r, insS kind p k i x = (O.rowAt x.1).name ++ r := by
 unfold insS insL
 have h : ∀ (w : Bs) (ws : List Bs) (t : Bs), ∃ r, joinW (w :: ws) ++ t = w ++ r := by
  intro w ws t
  cases ws with
  | nil => exact ⟨t, rfl⟩
  | cons v vs => exact ⟨32 :: (joinW (v :: vs) ++ t), by show (w ++ 32 :: joinW (v :: vs)) ++ t = _; simp⟩
 cases (if kind = 0 then NWp p k x else none) with
 | none => exact h _ _ _
 | some s => exact h _ _ _
theorem body_entry {kind : Nat} {p : I.Im} {t : List Nat} {k : Nat} : ∀ (b : List C.I3) (i : Nat) (s : Bs) (y : Int × Int), (s, y) ∈ bodyR kind p t k i b → 0 ≤ y.1 → ∃ j x, b[j]? = some x ∧ y = (((k : Nat) : Int), ((i + j : Nat) : Int)) ∧ s = insS kind p k (i + j) x
 | [], _, _, _, h, _ => by cases h
 | x :: b, i, s, y, h, h0 => by
  rw [bodyR, List.mem_append] at h
  rcases h with h | h
  ·unfold itemR at h
   rcases List.mem_append.1 h with h | h
   ·have hno : ∀ (o : Option Bs), (s, y) ∈ (match o with | some s => [((s ++ [58] : Bs), (-1 : Int), (-1 : Int))] | none => []) → False := by
     intro o ho
     cases o with
     | none => cases ho
     | some q =>
      have ho : (s, y) ∈ [_] := ho
      rw [List.mem_singleton] at ho
      injection ho with _ ho
      rw [ho] at h0
      exact absurd h0 (by decide)
    by_cases hk : kind = 0
    ·rw [if_pos hk] at h
     cases hl : labA t i with
     | none => rw [hl] at h; exact (hno none h).elim
     | some q => rw [hl] at h; exact (hno (some q) h).elim
    ·rw [if_neg hk] at h; cases h
   ·rw [List.mem_singleton] at h
    injection h with h1 h2
    exact ⟨0, x, rfl, by rw [h2, Nat.add_zero], h1⟩
  ·obtain ⟨j, x', h1, h2, h3⟩ := body_entry b (i + 1) s y h h0
   exact ⟨j + 1, x', by rw [List.getElem?_cons_succ]; exact h1, by rw [h2, show i + 1 + j = i + (j + 1) by omega], by rw [h3, show i + 1 + j = i + (j + 1) by omega]⟩
theorem plain_entry {l : List (List Bs)} {s : Bs} {y : Int × Int} (h : (s, y) ∈ l.map plainR) (h0 : 0 ≤ y.1) : False := by
 obtain ⟨w, _, e⟩ := List.mem_map.1 h
 injection e with _ e
 rw [← e] at h0
 exact absurd h0 (by decide)
theorem funcs_entry {kind : Nat} {p : I.Im} : ∀ (q : List F.Fu) (k : Nat) (s : Bs) (y : Int × Int), (s, y) ∈ funcsR kind p k q → 0 ≤ y.1 → ∃ i f j x, q[i]? = some f ∧ f.bd[j]? = some x ∧ y = (((k + i : Nat) : Int), ((j : Nat) : Int)) ∧ s = insS kind p (k + i) j x
 | [], _, _, _, h, _ => by cases h
 | f :: q, k, s, y, h, h0 => by
  rw [funcsR, List.mem_append] at h
  rcases h with h | h
  ·unfold funcR at h
   rcases List.mem_append.1 h with h | h
   ·exact (plain_entry h h0).elim
   ·obtain ⟨j, x, h1, h2, h3⟩ := body_entry f.bd 0 s y h h0
    rw [Nat.zero_add] at h2 h3
    exact ⟨0, f, j, x, rfl, h1, h2, h3⟩
  ·obtain ⟨i, g, j, x, h1, h2, h3, h4⟩ := funcs_entry q (k + 1) s y h h0
   exact ⟨i + 1, g, j, x, by rw [List.getElem?_cons_succ]; exact h1, h2, by rw [h3, show k + 1 + i = k + (i + 1) by omega], by rw [h4, show k + 1 + i = k + (i + 1) by omega]⟩
theorem entry_text {kind : Nat} {p : I.Im} {n : Nat} {s : Bs} {i j : Nat} (h : (allR kind p)[n]? = some (s, ((i : Nat) : Int), ((j : Nat) : Int))) : ∃ f x, p.fn[i]? = some f ∧ f.bd[j]? = some x ∧ s = insS kind p i j x := by
 have hm := List.mem_of_getElem? h
 unfold allR at hm
 rcases List.mem_append.1 hm with hm | hm
 ·have h2 : (s, ((i : Nat) : Int), ((j : Nat) : Int)) ∈ (p.sh.map shapeT).map plainR := by rw [List.map_map]; exact hm
  exact (plain_entry h2 (by show (0 : Int) ≤ ((i : Nat) : Int); omega)).elim
 ·obtain ⟨i', f, j', x, h1, h2, h3, h4⟩ := funcs_entry p.fn 0 _ _ hm (by show (0 : Int) ≤ ((i : Nat) : Int); omega)
  rw [Nat.zero_add] at h3 h4
  injection h3 with e1 e2
  have e1 : i = i' := by omega
  have e2 : j = j' := by omega
  subst e1 e2
  exact ⟨f, x, h1, h2, h4⟩

end Go.Proofs.YtgnooffedmeenaaGreatDoor.M.L

namespace Go.Proofs.YtgnooffedmeenaaGreatDoor.M.L
open Go.RowKit

abbrev Ln4 := Nat × Nat × Nat × Nat
def fu0 : F.Fu := ⟨[], [], [], [], []⟩
def bodyQ (lab : Nat → Bool) (k i : Nat) : Nat → List Ln4
 | 0 => []
 | n + 1 => (if lab i = true then [(3, 0, k, i)] else []) ++ (4, 0, k, i) :: bodyQ lab k (i + 1) n
def funcQ (lab : Nat → Nat → Bool) (k : Nat) (f : F.Fu) : List Ln4 := (1, 0, k, 0) :: ((if f.lc = [] then [] else [(2, 0, k, 0)]) ++ bodyQ (lab k) k 0 f.bd.length)
def funcsQ (lab : Nat → Nat → Bool) (k : Nat) : List F.Fu → List Ln4
 | [] => []
 | f :: r => funcQ lab k f ++ funcsQ lab (k + 1) r
def shapesQ (n : Nat) : List Ln4 := (List.range n).map fun i => (0, i, 0, 0)
def seqQ (lab : Nat → Nat → Bool) (p : I.Im) : List Ln4 := shapesQ p.sh.length ++ funcsQ lab 0 p.fn
def labB (p : I.Im) (k i : Nat) : Bool := (LBp p k i).isSome
def lab0 : Nat → Nat → Bool := fun _ _ => false

def sayQ (kind : Nat) (p : I.Im) (l : Ln4) : Bs :=
 match l.1 with
 | 0 => joinW (shapeT (p.sh[l.2.1]?.getD []))
 | 1 => joinW [funcW, (p.fn[l.2.2.1]?.getD fu0).nm, S.shG (p.fn[l.2.2.1]?.getD fu0).ar (p.fn[l.2.2.1]?.getD fu0).rs]
 | 2 => joinW [localW, W.txt (p.fn[l.2.2.1]?.getD fu0).lc]
 | 3 => ((LBp p l.2.2.1 l.2.2.2).getD []) ++ [58]
 | _ => insS kind p l.2.2.1 l.2.2.2 ((p.fn[l.2.2.1]?.getD fu0).bd[l.2.2.2]?.getD (0, 0, 0))
def toLR (kind : Nat) (p : I.Im) (l : Ln4) : LR := (sayQ kind p l, if l.1 = 4 then (((l.2.2.1 : Nat) : Int), ((l.2.2.2 : Nat) : Int)) else (-1, -1))

theorem bodyQ_lr {kind : Nat} {p : I.Im} {k : Nat} {f : F.Fu} (hf : p.fn[k]? = some f) : ∀ (n i : Nat), i + n = f.bd.length →
  (bodyQ (if kind = 0 then labB p k else lab0 k) k i n).map (toLR kind p) = bodyR kind p (tgs f.bd) k i (f.bd.drop i)
 | 0, i, h => by rw [List.drop_eq_nil_of_le (by omega)]; rfl
 | n + 1, i, h => by
  have hi : i < f.bd.length := by omega
  have ih := bodyQ_lr hf (kind := kind) n (i + 1) (by omega)
  rw [List.drop_eq_getElem_cons hi, bodyR, bodyQ, List.map_append, List.map_cons, ih]
  unfold itemR
  have e1 : toLR kind p (4, 0, k, i) = (insS kind p k i f.bd[i], (k : Int), (i : Int)) := by
   unfold toLR sayQ
   dsimp only
   rw [hf, if_pos rfl]
   simp [List.getElem?_eq_getElem hi]
  have hlb : LBp p k i = labA (tgs f.bd) i := by unfold LBp; rw [hf]; rfl
  rw [e1, List.append_assoc]
  congr 1
  by_cases hk : kind = 0
  ·rw [if_pos hk, if_pos hk]
   unfold labB
   rw [hlb]
   cases hl : labA (tgs f.bd) i with
   | none => rfl
   | some s =>
    show [toLR kind p (3, 0, k, i)] = [(s ++ [58], -1, -1)]
    unfold toLR sayQ
    dsimp only
    rw [hlb, hl]
    rfl
  ·rw [if_neg hk, if_neg hk]
   rfl
theorem funcQ_lr {kind : Nat} {p : I.Im} {k : Nat} {f : F.Fu} (hf : p.fn[k]? = some f) : (funcQ (if kind = 0 then labB p else lab0) k f).map (toLR kind p) = funcR kind p k f := by
 have h := bodyQ_lr (kind := kind) hf f.bd.length 0 (by omega)
 rw [List.drop_zero] at h
 unfold funcQ funcR headT
 have e0 : (if kind = 0 then labB p else lab0) k = if kind = 0 then labB p k else lab0 k := by split <;> rfl
 rw [e0, List.map_cons, List.map_append, h, List.map_cons, List.cons_append]
 congr 1
 ·unfold toLR sayQ
  dsimp only
  rw [hf]
  rfl
 ·congr 1
  by_cases hl : f.lc = []
  ·rw [if_pos hl, if_pos hl]; rfl
  ·rw [if_neg hl, if_neg hl]
   show [toLR kind p (2, 0, k, 0)] = [_]
   unfold toLR sayQ
   dsimp only
   rw [hf]
   rfl
theorem funcsQ_lr {kind : Nat} {p : I.Im} : ∀ (q : List F.Fu) (k : Nat), (∀ j f, q[j]? = some f → p.fn[k + j]? = some f) → (funcsQ (if kind = 0 then labB p else lab0) k q).map (toLR kind p) = funcsR kind p k q
 | [], _, _ => rfl
 | f :: q, k, h => by
  have h0 := h 0 f rfl
  rw [Nat.add_zero] at h0
  rw [funcsQ, funcsR, List.map_append, funcQ_lr h0, funcsQ_lr q (k + 1) (fun j g hg => by rw [show k + 1 + j = k + (j + 1) by omega]; exact h (j + 1) g (by rw [List.getElem?_cons_succ]; exact hg))]
theorem seqQ_lr (kind : Nat) (p : I.Im) : (seqQ (if kind = 0 then labB p else lab0) p).map (toLR kind p) = allR kind p := by
 unfold seqQ allR
 rw [List.map_append, funcsQ_lr p.fn 0 (fun j f h => by rw [Nat.zero_add]; exact h)]
 congr 1
 unfold shapesQ
 rw [List.map_map]
 refine List.ext_getElem (by simp) fun i h1 h2 => ?_
 have hi : i < p.sh.length := by simpa using h2
 simp only [List.getElem_map, List.getElem_range, Function.comp]
 unfold toLR sayQ plainR
 simp [List.getElem?_eq_getElem hi]
theorem text_seq (kind : Nat) (p : I.Im) : textR kind p = textOf ((seqQ (if kind = 0 then labB p else lab0) p).map (sayQ kind p)) := by
 unfold textR
 rw [← seqQ_lr, List.map_map]
 rfl

/-! ### Which lines there are -/

structure OkQ (lab : Nat → Nat → Bool) (p : I.Im) (l : Ln4) : Prop where
 w : l.1 ≤ 4
 s : l.1 = 0 → l.2.1 < p.sh.length ∧ l.2.2 = (0, 0)
 f : l.1 ≠ 0 → l.2.1 = 0 ∧ ∃ f, p.fn[l.2.2.1]? = some f ∧ (3 ≤ l.1 → l.2.2.2 < f.bd.length) ∧ (l.1 ≤ 2 → l.2.2.2 = 0)
 b : l.1 = 3 → lab l.2.2.1 l.2.2.2 = true
theorem bodyQ_mem {lab : Nat → Bool} {k : Nat} {l : Ln4} : ∀ (n i : Nat), l ∈ bodyQ lab k i n → ∃ j, i ≤ j ∧ j < i + n ∧ ((l = (3, 0, k, j) ∧ lab j = true) ∨ l = (4, 0, k, j))
 | 0, _, h => by cases h
 | n + 1, i, h => by
  rw [bodyQ, List.mem_append, List.mem_cons] at h
  rcases h with h | h | h
  ·split at h
   ·rename_i hl
    rw [List.mem_singleton] at h
    exact ⟨i, Nat.le_refl _, by omega, .inl ⟨h, hl⟩⟩
   ·cases h
  ·exact ⟨i, Nat.le_refl _, by omega, .inr h⟩
  ·obtain ⟨j, h1, h2, h3⟩ := bodyQ_mem n (i + 1) h
   exact ⟨j, by omega, by omega, h3⟩
theorem funcsQ_mem {lab : Nat → Nat → Bool} {l : Ln4} : ∀ (q : List F.Fu) (k : Nat), l ∈ funcsQ lab k q → ∃ j f, q[j]? = some f ∧ l ∈ funcQ lab (k + j) f
 | [], _, h => by cases h
 | f :: q, k, h => by
  rw [funcsQ, List.mem_append] at h
  rcases h with h | h
  ·exact ⟨0, f, rfl, h⟩
  ·obtain ⟨j, g, h1, h2⟩ := funcsQ_mem q (k + 1) h
   exact ⟨j + 1, g, by rw [List.getElem?_cons_succ]; exact h1, by rw [show k + (j + 1) = k + 1 + j by omega]; exact h2⟩
section
variable {lab : Nat → Nat → Bool} {p : I.Im}
theorem ne_lit {a b : Nat} {P : Prop} (h : a = b) (hn : Nat.beq a b = false) : P := by rw [h, Nat.beq_refl] at hn; cases hn
theorem okQ_0 {i : Nat} (h : i < p.sh.length) : OkQ lab p (0, i, 0, 0) :=
 ⟨Nat.zero_le 4, fun _ => ⟨h, rfl⟩, fun h => absurd rfl h, fun h => ne_lit (a := 0) (b := 3) h rfl⟩
theorem okQ_1 {k : Nat} {f : F.Fu} (hf : p.fn[k]? = some f) : OkQ lab p (1, 0, k, 0) :=
 ⟨(by show 1 ≤ 4; decide), fun h => ne_lit (a := 1) (b := 0) h rfl, fun _ => ⟨rfl, f, hf, fun h => absurd (show 3 ≤ 1 from h) (by decide), fun _ => rfl⟩, fun h => ne_lit (a := 1) (b := 3) h rfl⟩
theorem okQ_2 {k : Nat} {f : F.Fu} (hf : p.fn[k]? = some f) : OkQ lab p (2, 0, k, 0) :=
 ⟨(by show 2 ≤ 4; decide), fun h => ne_lit (a := 2) (b := 0) h rfl, fun _ => ⟨rfl, f, hf, fun h => absurd (show 3 ≤ 2 from h) (by decide), fun _ => rfl⟩, fun h => ne_lit (a := 2) (b := 3) h rfl⟩
theorem okQ_3 {k j : Nat} {f : F.Fu} (hf : p.fn[k]? = some f) (hj : j < f.bd.length) (hl : lab k j = true) : OkQ lab p (3, 0, k, j) :=
 ⟨(by show 3 ≤ 4; decide), fun h => ne_lit (a := 3) (b := 0) h rfl, fun _ => ⟨rfl, f, hf, fun _ => hj, fun h => absurd (show 3 ≤ 2 from h) (by decide)⟩, fun _ => hl⟩
theorem okQ_4 {k j : Nat} {f : F.Fu} (hf : p.fn[k]? = some f) (hj : j < f.bd.length) : OkQ lab p (4, 0, k, j) :=
 ⟨(by show 4 ≤ 4; decide), fun h => ne_lit (a := 4) (b := 0) h rfl, fun _ => ⟨rfl, f, hf, fun _ => hj, fun h => absurd (show 4 ≤ 2 from h) (by decide)⟩, fun h => ne_lit (a := 4) (b := 3) h rfl⟩
theorem seqQ_ok {l : Ln4} (h : l ∈ seqQ lab p) : OkQ lab p l := by
 unfold seqQ at h
 rcases List.mem_append.1 h with h | h
 ·unfold shapesQ at h
  obtain ⟨i, hi, rfl⟩ := List.mem_map.1 h
  exact okQ_0 (List.mem_range.1 hi)
 ·obtain ⟨k, f, hf, hl⟩ := funcsQ_mem p.fn 0 h
  rw [Nat.zero_add] at hl
  unfold funcQ at hl
  rcases List.mem_cons.1 hl with rfl | hl
  ·exact okQ_1 hf
  ·rcases List.mem_append.1 hl with hl | hl
   ·split at hl
    ·cases hl
    ·rw [List.mem_singleton] at hl
     subst hl
     exact okQ_2 hf
   ·obtain ⟨j, _, h2, h3⟩ := bodyQ_mem _ _ hl
    rw [Nat.zero_add] at h2
    rcases h3 with ⟨rfl, h4⟩ | rfl
    ·exact okQ_3 hf h2 h4
    ·exact okQ_4 hf h2
end

/-! ### Line and Place by them -/

theorem line_seq (p : I.Im) (fn pl : Int) (hfn : 0 ≤ fn) : lineI p fn pl = (seqQ (labB p) p).findIdx? fun l => decide (l.1 = 4 ∧ ((l.2.2.1 : Nat) : Int) = fn ∧ ((l.2.2.2 : Nat) : Int) = pl) := by
 unfold lineI
 rw [if_pos hfn]
 have e := seqQ_lr 0 p
 rw [if_pos rfl] at e
 rw [← e, List.findIdx?_map]
 congr 1
 funext l
 show decide _ = decide _
 congr 1
 unfold toLR
 dsimp only
 by_cases h4 : l.1 = 4
 ·rw [if_pos h4]; simp [h4]
 ·rw [if_neg h4]
  refine propext ⟨fun h => ?_, fun h => absurd h.1 h4⟩
  have h1 : (-1 : Int) = fn := h.1
  omega
theorem line_neg {p : I.Im} {fn pl : Int} (h : ¬ 0 ≤ fn) : lineI p fn pl = none := if_neg h
theorem place_seq (p : I.Im) (line : Int) : placeI p line = if 1 ≤ line then (match (seqQ (labB p) p)[(line - 1).toNat]? with
  | some l => if l.1 = 4 then some (((l.2.2.1 : Nat) : Int), ((l.2.2.2 : Nat) : Int)) else none
  | none => none) else none := by
 unfold placeI
 have e := seqQ_lr 0 p
 rw [if_pos rfl] at e
 rw [← e, List.getElem?_map]
 split
 ·cases (seqQ (labB p) p)[(line - 1).toNat]? with
  | none => rfl
  | some l =>
   show (if 0 ≤ (toLR 0 p l).2.1 then some (toLR 0 p l).2 else none) = _
   unfold toLR
   dsimp only
   by_cases h4 : l.1 = 4
   ·rw [if_pos h4, if_pos h4]
    exact if_pos (by show (0 : Int) ≤ ((l.2.2.1 : Nat) : Int); omega)
   ·rw [if_neg h4, if_neg h4]
    rfl
 ·rfl

end Go.Proofs.YtgnooffedmeenaaGreatDoor.M.L

namespace Go.Proofs.YtgnooffedmeenaaGreatDoor
open Go.RowKit

section
variable {P : Program} {ops : Array Oper} {md : Region.Mode}

end
end Go.Proofs.YtgnooffedmeenaaGreatDoor

namespace Go.Proofs.YtgnooffedmeenaaGreatDoor.S
open Go.RowKit W

theorem all_no {l : List Int} {p : Int → Bool} {k : Nat} (hk : k < l.length) (h : p l[k] = false) : l.all p = false :=
 List.all_eq_false.2 ⟨_, List.getElem_mem hk, by rw [h]; decide⟩
theorem all_step {l : List Int} {p : Int → Bool} {k : Nat} (hk : k < l.length) (h : (l.take k).all p = true) (h2 : p l[k] = true) : (l.take (k + 1)).all p = true := by
 rw [List.take_succ_eq_append_getElem hk, List.all_append, h]
 simp [h2]
theorem knownF_any (t : Int) (w : World) : Calls Tryz.prog 161 #[.int .i64 t] w fun e w' => e = .returned (.bool (knownB t)) ∧ Keep NoB w w' :=
 (known_any t w).mono fun _ _ ⟨he, hw⟩ => ⟨he, by rw [← hw]; exact Keep.refl _ _⟩
set_option maxHeartbeats 1000000 in
theorem heldF_any (t : Int) (w : World) : Calls Tryz.prog 162 #[.int .i64 t] w fun e w' => e = .returned (.bool (heldB t)) ∧ Keep NoB w w' := by
 have HK := Lib.hid (fun w => known_any t w)
 cases hk : knownB t
 ·rw [hk] at HK
  have hR : heldB t = false := by rw [known_not] at hk; rw [held_not]; omega
  rw [hR]
  clear hk hR
  go_enter Tryz.func162, Tryz.ntmps162
  go_wp2_with (go_at_call 161; refine (HK.out _).mono ?_; rintro e w1 ⟨rfl, rfl⟩)
  go_ret
  exact ⟨rfl, Keep.refl _ _⟩
 ·rw [hk] at HK
  by_cases h4 : t = 4
  ·subst h4
   have hR : heldB 4 = false := by decide
   rw [hR]
   clear hk hR
   go_enter Tryz.func162, Tryz.ntmps162
   go_wp2_with (go_at_call 161; refine (HK.out _).mono ?_; rintro e w1 ⟨rfl, rfl⟩)
   go_ret
   exact ⟨rfl, Keep.refl _ _⟩
  ·have hR : heldB t = true := by rw [known_iff] at hk; rw [held_iff]; omega
   have hq : (t != 4) = true := by rw [bne_iff_ne]; exact h4
   rw [hR]
   clear hk hR h4
   go_enter Tryz.func162, Tryz.ntmps162
   go_wp2_with (go_at_call 161; refine (HK.out _).mono ?_; rintro e w1 ⟨rfl, rfl⟩)
   go_ret
   exact ⟨rfl, Keep.refl _ _⟩

set_option maxRecDepth 100000 in
set_option maxHeartbeats 2000000 in
theorem allS_any (A : Option Addr) (l : List Int) (n c : Nat) (w : World) (hr : Rd w A (ivs l)) (hn : Hid (l.length = n)) (hm : n ≤ 9223372036854775807) (R : Bool) (hR : Hid (R = l.all heldB)) :
  Calls Tryz.prog 174 #[.slice A n c, .func (.func 162) #[] #[]] w fun e w' => e = .returned (.bool R) ∧ Keep NoB w w' := by
 go_enter Tryz.func174, Tryz.ntmps174
 go_wp2
 go_loopw [9] (fun i wr => ∃ k : Nat, k ≤ n ∧ i = .int .i64 k ∧ Hid ((l.take k).all heldB = true) ∧ Keep NoB w wr) (fun i _ => n - (intOf i).toNat)
 case atStart => exact ⟨0, Nat.zero_le _, rfl, rfl, Keep.refl _ _⟩
 case round =>
  obtain ⟨k, hk, rfl, ht, hK⟩ := hrel
  by_cases hlt : k < n
  ·have hka : k < l.length := by rw [hn.out]; exact hlt
   obtain ⟨ga, oa, rfl, hca⟩ := rdI_at hr (by omega)
   have ca := hK.cell (hca k hka) id
   have HT := Lib.hid (fun h => all_step (p := heldB) hka ht.out h)
   have HN := Lib.hid (fun h => all_no (p := heldB) hka h)
   clear hca hr ht
   generalize l[k] = x at ca HT HN
   have HC := Lib.hid (fun w => heldF_any x w)
   cases hx : heldB x
   ·rw [hx] at HC
    obtain rfl : R = false := by rw [hR.out]; exact HN.out hx
    clear hx HT HN hR
    go_wp2_with (go_at_call 162; refine (HC.out _).mono ?_; rintro e w3 ⟨rfl, k3⟩)
    go_ret
    exact ⟨rfl, keepN hK k3⟩
   ·rw [hx] at HC
    have HV := Lib.hid (HT.out hx)
    clear hx HT HN hR
    go_wp2_with (go_at_call 162; refine (HC.out _).mono ?_; rintro e w3 ⟨rfl, k3⟩)
    go_roundw
    case rel => exact ⟨k + 1, by omega, by go_num, HV, keepN hK k3⟩
    case measure => simp [intOf]; omega
  ·obtain rfl : R = true := by
    rw [hR.out]
    have e1 := ht.out
    rwa [List.take_of_length_le (by rw [hn.out]; omega)] at e1
   clear hR
   go_wp2
   go_ret
   exact ⟨rfl, hK⟩

set_option maxRecDepth 100000 in
set_option maxHeartbeats 2000000 in
theorem allK_any (A : Option Addr) (l : List Int) (n c : Nat) (w : World) (hr : Rd w A (ivs l)) (hn : Hid (l.length = n)) (hm : n ≤ 9223372036854775807) (R : Bool) (hR : Hid (R = l.all knownB)) :
  Calls Tryz.prog 160 #[.slice A n c, .func (.func 161) #[] #[]] w fun e w' => e = .returned (.bool R) ∧ Keep NoB w w' := by
 go_enter Tryz.func160, Tryz.ntmps160
 go_wp2
 go_loopw [9] (fun i wr => ∃ k : Nat, k ≤ n ∧ i = .int .i64 k ∧ Hid ((l.take k).all knownB = true) ∧ Keep NoB w wr) (fun i _ => n - (intOf i).toNat)
 case atStart => exact ⟨0, Nat.zero_le _, rfl, rfl, Keep.refl _ _⟩
 case round =>
  obtain ⟨k, hk, rfl, ht, hK⟩ := hrel
  by_cases hlt : k < n
  ·have hka : k < l.length := by rw [hn.out]; exact hlt
   obtain ⟨ga, oa, rfl, hca⟩ := rdI_at hr (by omega)
   have ca := hK.cell (hca k hka) id
   have HT := Lib.hid (fun h => all_step (p := knownB) hka ht.out h)
   have HN := Lib.hid (fun h => all_no (p := knownB) hka h)
   clear hca hr ht
   generalize l[k] = x at ca HT HN
   have HC := Lib.hid (fun w => knownF_any x w)
   cases hx : knownB x
   ·rw [hx] at HC
    obtain rfl : R = false := by rw [hR.out]; exact HN.out hx
    clear hx HT HN hR
    go_wp2_with (go_at_call 161; refine (HC.out _).mono ?_; rintro e w3 ⟨rfl, k3⟩)
    go_ret
    exact ⟨rfl, keepN hK k3⟩
   ·rw [hx] at HC
    have HV := Lib.hid (HT.out hx)
    clear hx HT HN hR
    go_wp2_with (go_at_call 161; refine (HC.out _).mono ?_; rintro e w3 ⟨rfl, k3⟩)
    go_roundw
    case rel => exact ⟨k + 1, by omega, by go_num, HV, keepN hK k3⟩
    case measure => simp [intOf]; omega
  ·obtain rfl : R = true := by
    rw [hR.out]
    have e1 := ht.out
    rwa [List.take_of_length_le (by rw [hn.out]; omega)] at e1
   clear hR
   go_wp2
   go_ret
   exact ⟨rfl, hK⟩

set_option maxRecDepth 100000 in
set_option maxHeartbeats 2000000 in
theorem allH_any (A : Option Addr) (l : List Int) (n c : Nat) (w : World) (hr : Rd w A (ivs l)) (hn : Hid (l.length = n)) (hm : n ≤ 9223372036854775807) (R : Bool) (hR : Hid (R = l.all heldB)) :
  Calls Tryz.prog 160 #[.slice A n c, .func (.func 162) #[] #[]] w fun e w' => e = .returned (.bool R) ∧ Keep NoB w w' := by
 go_enter Tryz.func160, Tryz.ntmps160
 go_wp2
 go_loopw [9] (fun i wr => ∃ k : Nat, k ≤ n ∧ i = .int .i64 k ∧ Hid ((l.take k).all heldB = true) ∧ Keep NoB w wr) (fun i _ => n - (intOf i).toNat)
 case atStart => exact ⟨0, Nat.zero_le _, rfl, rfl, Keep.refl _ _⟩
 case round =>
  obtain ⟨k, hk, rfl, ht, hK⟩ := hrel
  by_cases hlt : k < n
  ·have hka : k < l.length := by rw [hn.out]; exact hlt
   obtain ⟨ga, oa, rfl, hca⟩ := rdI_at hr (by omega)
   have ca := hK.cell (hca k hka) id
   have HT := Lib.hid (fun h => all_step (p := heldB) hka ht.out h)
   have HN := Lib.hid (fun h => all_no (p := heldB) hka h)
   clear hca hr ht
   generalize l[k] = x at ca HT HN
   have HC := Lib.hid (fun w => heldF_any x w)
   cases hx : heldB x
   ·rw [hx] at HC
    obtain rfl : R = false := by rw [hR.out]; exact HN.out hx
    clear hx HT HN hR
    go_wp2_with (go_at_call 162; refine (HC.out _).mono ?_; rintro e w3 ⟨rfl, k3⟩)
    go_ret
    exact ⟨rfl, keepN hK k3⟩
   ·rw [hx] at HC
    have HV := Lib.hid (HT.out hx)
    clear hx HT HN hR
    go_wp2_with (go_at_call 162; refine (HC.out _).mono ?_; rintro e w3 ⟨rfl, k3⟩)
    go_roundw
    case rel => exact ⟨k + 1, by omega, by go_num, HV, keepN hK k3⟩
    case measure => simp [intOf]; omega
  ·obtain rfl : R = true := by
    rw [hR.out]
    have e1 := ht.out
    rwa [List.take_of_length_le (by rw [hn.out]; omega)] at e1
   clear hR
   go_wp2
   go_ret
   exact ⟨rfl, hK⟩

end Go.Proofs.YtgnooffedmeenaaGreatDoor.S

namespace Go.Proofs.YtgnooffedmeenaaGreatDoor.S
open Go.RowKit W

theorem blk2 {w : World} {g : Nat} {t : TypeId} {a0 a1 : Value} (h : Blk w g t #[a0, a1]) : w.cell? ⟨g, 0, none⟩ = some a0 ∧ w.cell? ⟨g, 1, none⟩ = some a1 := ⟨h.cell 0, h.cell 1⟩
theorem okS_len {l : List Int} (h : ¬ (1 ≤ l.length ∧ l.length ≤ 16)) : okS l = false := by unfold okS; rw [decide_eq_false h]; rfl
theorem okS_all {l : List Int} (h : l.all heldB = false) : okS l = false := by unfold okS; rw [h, Bool.and_false]
theorem okS_mk {l : List Int} (h : 1 ≤ l.length ∧ l.length ≤ 16) (h2 : l.all heldB = true) : okS l = true := (okS_iff l).2 ⟨h, h2⟩
theorem okG_len {a r : List Int} (h : ¬ (a.length + r.length ≤ 64)) : okG a r = false := by unfold okG; rw [decide_eq_false h]; rfl
theorem okG_args {a r : List Int} (h : a.all knownB = false) : okG a r = false := by unfold okG; rw [h, Bool.false_and, Bool.and_false]
theorem okG_res {a r : List Int} (h : r.all heldB = false) : okG a r = false := by unfold okG; rw [h, Bool.and_false, Bool.and_false]
theorem okG_mk {a r : List Int} (h : a.length + r.length ≤ 64) (h2 : a.all knownB = true) (h3 : r.all heldB = true) : okG a r = true := (okG_iff a r).2 ⟨h, h2, h3⟩
set_option maxRecDepth 100000 in
set_option maxHeartbeats 2000000 in
theorem chkS_any (A : Option Addr) (l : List Int) (n c : Nat) (w : World) (hr : Rd w A (ivs l)) (hn : Hid (l.length = n)) (hm : n ≤ 9223372036854775807) (R : Int) (hR : Hid (chkS l = R)) :
  Calls Tryz.prog 117 #[.slice A n c] w fun e w' => e = .returned (.int .i64 R) ∧ Keep NoB w w' := by
 by_cases h0 : n = 0
 ·subst h0
  obtain rfl : 60 = R := by rw [← hR.out]; exact (chkS_no (okS_len (by rw [hn.out]; omega))).symm
  go_enter Tryz.func117, Tryz.ntmps117
  go_wp2
  go_ret
  exact ⟨rfl, Keep.refl _ _⟩
 have hq1 : ((n : Int) == 0) = false := by rw [beq_eq_false_iff_ne]; omega
 by_cases h1 : 16 < n
 ·obtain rfl : 60 = R := by rw [← hR.out]; exact (chkS_no (okS_len (by rw [hn.out]; omega))).symm
  clear hR h0
  go_enter Tryz.func117, Tryz.ntmps117
  go_wp2
  go_ret
  exact ⟨rfl, Keep.refl _ _⟩
 have HC0 := Lib.hid (fun w hr (R : Bool) hR => allS_any A l n c w hr hn hm R hR)
 cases hh : l.all heldB
 ·obtain rfl : 60 = R := by rw [← hR.out]; exact (chkS_no (okS_all hh)).symm
  have HC := Lib.hid (fun w hr => HC0.out w hr _ hh.symm)
  clear hh hR HC0 h0
  go_enter Tryz.func117, Tryz.ntmps117
  go_wp2_with (go_at_call 174; refine (HC.out _ hr).mono ?_; rintro e w1 ⟨rfl, k1⟩)
  go_ret
  exact ⟨rfl, k1⟩
 ·obtain rfl : 0 = R := by rw [← hR.out]; exact (chkS_ok (okS_mk (by rw [hn.out]; omega) hh)).symm
  have HC := Lib.hid (fun w hr => HC0.out w hr _ hh.symm)
  clear hh hR HC0 h0
  go_enter Tryz.func117, Tryz.ntmps117
  go_wp2_with (go_at_call 174; refine (HC.out _ hr).mono ?_; rintro e w1 ⟨rfl, k1⟩)
  go_ret
  exact ⟨rfl, k1⟩

set_option maxRecDepth 100000 in
set_option maxHeartbeats 4000000 in
theorem chkG_any (A : Option Addr) (a : List Int) (n c : Nat) (B : Option Addr) (r : List Int) (m d : Nat) (w : World) (ha : Rd w A (ivs a)) (hr : Rd w B (ivs r)) (hn : Hid (a.length = n)) (hm : Hid (r.length = m)) (hn6 : n ≤ 4611686018427387903) (hm6 : m ≤ 4611686018427387903) (R : Int) (hR : Hid (chkG a r = R)) :
  Calls Tryz.prog 102 #[.agg #[.slice A n c, .slice B m d]] w fun e w' => e = .returned (.int .i64 R) ∧ Keep NoB w w' := by
 have bx := Blk.new w 34 #[.slice A n c, .slice B m d]
 have k0 := (Keep.refl NoB w).alloc (.cells #[.slice A n c, .slice B m d] 34)
 by_cases h1 : 64 < n + m
 ·obtain rfl : 61 = R := by rw [← hR.out]; exact (chkG_no (okG_len (by rw [hn.out, hm.out]; omega))).symm
  have hq : (64 : Int) < (n : Int) + (m : Int) := by omega
  clear hR
  go_enter Tryz.func102, Tryz.ntmps102
  go_wp2
  go_ret
  exact ⟨rfl, k0⟩
 have hq : ¬ (64 : Int) < (n : Int) + (m : Int) := by omega
 have HA := Lib.hid (fun w hr (R : Bool) hR => allK_any A a n c w hr hn (by omega) R hR)
 have HB := Lib.hid (fun w hr (R : Bool) hR => allH_any B r m d w hr hm (by omega) R hR)
 cases h2 : a.all knownB
 ·obtain rfl : 61 = R := by rw [← hR.out]; exact (chkG_no (okG_args h2)).symm
  have HA2 := Lib.hid (fun w hr => HA.out w hr _ h2.symm)
  clear h2 hR HA HB
  go_enter Tryz.func102, Tryz.ntmps102
  go_wp2_with (go_at_call 160; refine (HA2.out _ (ha.keepN k0)).mono ?_; rintro e w1 ⟨rfl, k1⟩)
  go_ret
  exact ⟨rfl, keepN k0 k1⟩
 have HA2 := Lib.hid (fun w hr => HA.out w hr _ h2.symm)
 cases h3 : r.all heldB
 ·obtain rfl : 61 = R := by rw [← hR.out]; exact (chkG_no (okG_res h3)).symm
  have HB2 := Lib.hid (fun w hr => HB.out w hr _ h3.symm)
  clear h2 h3 hR HA HB
  go_enter Tryz.func102, Tryz.ntmps102
  go_wp2_with fail
  refine (HA2.out _ (ha.keepN k0)).mono ?_
  rintro e w1 ⟨rfl, k1⟩
  obtain ⟨c0, c1⟩ := blk2 (bx.keep k1 id)
  have hr1 := (hr.keepN k0).keepN k1
  go_wp2_with fail
  refine (HB2.out _ hr1).mono ?_
  rintro e w2 ⟨rfl, k2⟩
  go_wp2
  go_ret
  exact ⟨rfl, keepN (keepN k0 k1) k2⟩
 ·obtain rfl : 0 = R := by rw [← hR.out]; exact (chkG_ok (okG_mk (by rw [hn.out, hm.out]; omega) h2 h3)).symm
  have HB2 := Lib.hid (fun w hr => HB.out w hr _ h3.symm)
  clear h2 h3 hR HA HB
  go_enter Tryz.func102, Tryz.ntmps102
  go_wp2_with fail
  refine (HA2.out _ (ha.keepN k0)).mono ?_
  rintro e w1 ⟨rfl, k1⟩
  obtain ⟨c0, c1⟩ := blk2 (bx.keep k1 id)
  have hr1 := (hr.keepN k0).keepN k1
  go_wp2_with fail
  refine (HB2.out _ hr1).mono ?_
  rintro e w2 ⟨rfl, k2⟩
  go_wp2
  go_ret
  exact ⟨rfl, keepN (keepN k0 k1) k2⟩

set_option maxRecDepth 100000 in
set_option maxHeartbeats 2000000 in
theorem great_no (S A B : Option Addr) (k c0 n c m d : Nat) (w : World) (h1 : k ≤ 100) (h2 : n ≤ 100) (h3 : m ≤ 100) :
  Calls Tryz.prog 44 #[.slice S k c0, .agg #[.slice A n c, .slice B m d]] w fun e w' => e = .returned (.int .i64 0) ∧ Keep NoB w w' := by
 go_enter Tryz.func44, Tryz.ntmps44
 go_wp2
 go_ret
 exact ⟨rfl, (Keep.refl _ _).alloc _⟩
set_option maxRecDepth 100000 in
set_option maxHeartbeats 2000000 in
theorem great_yes (S A B : Option Addr) (k c0 n c m d : Nat) (w : World) (h : ¬ (k ≤ 100 ∧ n ≤ 100 ∧ m ≤ 100)) :
  Calls Tryz.prog 44 #[.slice S k c0, .agg #[.slice A n c, .slice B m d]] w fun e w' => e = .returned (.int .i64 1) ∧ Keep NoB w w' := by
 by_cases h1 : k ≤ 100
 ·by_cases h2 : n ≤ 100
  ·have h3 : ¬ m ≤ 100 := by omega
   clear h
   go_enter Tryz.func44, Tryz.ntmps44
   go_wp2
   go_ret
   exact ⟨rfl, (Keep.refl _ _).alloc _⟩
  ·clear h
   go_enter Tryz.func44, Tryz.ntmps44
   go_wp2
   go_ret
   exact ⟨rfl, (Keep.refl _ _).alloc _⟩
 ·clear h
  go_enter Tryz.func44, Tryz.ntmps44
  go_wp2
  go_ret
  exact ⟨rfl, (Keep.refl _ _).alloc _⟩

end Go.Proofs.YtgnooffedmeenaaGreatDoor.S

namespace Go.Proofs.YtgnooffedmeenaaGreatDoor.S
open Go.RowKit W

end Go.Proofs.YtgnooffedmeenaaGreatDoor.S

namespace Go.Proofs.YtgnooffedmeenaaGreatDoor.S
open Go.RowKit W

end Go.Proofs.YtgnooffedmeenaaGreatDoor.S

namespace Go.Proofs.YtgnooffedmeenaaGreatDoor.S
open Go.RowKit W

end Go.Proofs.YtgnooffedmeenaaGreatDoor.S

namespace Go.Proofs.YtgnooffedmeenaaGreatDoor.S
open Go.RowKit Go.Shelf W
attribute [local go_sem] Oper.semAt_some

def RdK (A : Option Addr) (b : List UInt8) (W W' : World) : Prop := V.Rd W A b → V.Rd W' A b
theorem RdK.trans {A : Option Addr} {b : List UInt8} {X Y Z : World} (h : RdK A b X Y) (h' : RdK A b Y Z) : RdK A b X Z := fun hr => h' (h hr)
end Go.Proofs.YtgnooffedmeenaaGreatDoor.S

namespace Go.Proofs.YtgnooffedmeenaaGreatDoor.S
open Go.RowKit Go.Shelf W
attribute [local go_sem] Oper.semAt_some

end Go.Proofs.YtgnooffedmeenaaGreatDoor.S

namespace Go.Proofs.YtgnooffedmeenaaGreatDoor.S
open Go.RowKit W

end Go.Proofs.YtgnooffedmeenaaGreatDoor.S

namespace Go.Proofs.YtgnooffedmeenaaGreatDoor.S
open Go.RowKit W

abbrev Sg := Option ((List Int × List Int) × Nat)
end Go.Proofs.YtgnooffedmeenaaGreatDoor.S

namespace Go.Proofs.YtgnooffedmeenaaGreatDoor.S
open Go.RowKit W

end Go.Proofs.YtgnooffedmeenaaGreatDoor.S

namespace Go.Proofs.YtgnooffedmeenaaGreatDoor.S
open Go.RowKit W

end Go.Proofs.YtgnooffedmeenaaGreatDoor.S

namespace Go.Proofs.YtgnooffedmeenaaGreatDoor.W
open Go.RowKit


end Go.Proofs.YtgnooffedmeenaaGreatDoor.W

namespace Go.Proofs.YtgnooffedmeenaaGreatDoor.W
open Go.RowKit

end Go.Proofs.YtgnooffedmeenaaGreatDoor.W

namespace Go.Proofs.YtgnooffedmeenaaGreatDoor.S
open Go.RowKit W

theorem shS_ok {l : List Int} (h : okS l = true) : shS l = txt l := if_pos h
theorem shS_no {l : List Int} (h : okS l = false) : shS l = [] := if_neg (by rw [h]; decide)
theorem shG_ok {a r : List Int} (h : okG a r = true) : shG a r = txt a ++ 62 :: txt r := if_pos h
theorem shG_no {a r : List Int} (h : okG a r = false) : shG a r = [] := if_neg (by rw [h]; decide)
theorem str_mid (a b : List UInt8) : W.str a ++ (⟨#[62]⟩ : ByteArray) ++ W.str b = W.str (a ++ 62 :: b) := by
 apply ByteArray.ext
 simp [ByteArray.data_append]
theorem txt_le (l : List Int) : (txt l).length ≤ 1024 := by
 unfold txt
 split
 ·rename_i h
  rw [flat_let_length _ h.2]; exact h.1
 ·simp

set_option maxRecDepth 100000 in
set_option maxHeartbeats 2000000 in
theorem showS_any (A : Option Addr) (l : List Int) (na c : Nat) (w : World) (hL : LetAt w) (hr : Rd w A (ivs l)) (hn : Hid (l.length = na)) (hm : na ≤ 9223372036854775807) :
  Calls Tryz.prog 144 #[.slice A na c] w fun e w' => e = .returned (.string (W.str (shS l))) ∧ Keep NoB w w' := by
 cases ho : okS l
 ·have HC := Lib.hid (fun w hr => chkS_any A l na c w hr hn hm 60 (chkS_no ho))
  rw [shS_no ho]
  clear ho
  go_enter Tryz.func144, Tryz.ntmps144
  go_wp2_with (go_at_call 117; refine (HC.out _ hr).mono ?_; rintro e w1 ⟨rfl, k1⟩)
  go_ret
  exact ⟨rfl, k1⟩
 ·have HC := Lib.hid (fun w hr => chkS_any A l na c w hr hn hm 0 (chkS_ok ho))
  have HT := Lib.hid (fun w hL hr => text_any A l na c w hL hr hn hm)
  rw [shS_ok ho]
  clear ho
  go_enter Tryz.func144, Tryz.ntmps144
  go_wp2_with fail
  refine (HC.out _ hr).mono ?_
  rintro e w1 ⟨rfl, k1⟩
  go_wp2_with fail
  refine (HT.out _ (hL.keep k1) (hr.keepN k1)).mono ?_
  rintro e w2 ⟨rfl, k2⟩
  go_wp2
  go_ret
  exact ⟨rfl, keepN k1 k2⟩

set_option maxRecDepth 100000 in
set_option maxHeartbeats 4000000 in
theorem showG_any (A : Option Addr) (a : List Int) (na ca : Nat) (B : Option Addr) (r : List Int) (nb cb : Nat) (w : World) (hL : LetAt w) (ha : Rd w A (ivs a)) (hr : Rd w B (ivs r)) (hna : Hid (a.length = na)) (hnb : Hid (r.length = nb)) (hn6 : na ≤ 4611686018427387903) (hm6 : nb ≤ 4611686018427387903) :
  Calls Tryz.prog 145 #[.agg #[.slice A na ca, .slice B nb cb]] w fun e w' => e = .returned (.string (W.str (shG a r))) ∧ Keep NoB w w' := by
 have bx := Blk.new w 34 #[.slice A na ca, .slice B nb cb]
 have k0 := (Keep.refl NoB w).alloc (.cells #[.slice A na ca, .slice B nb cb] 34)
 cases ho : okG a r
 ·have HC := Lib.hid (fun w ha hr => chkG_any A a na ca B r nb cb w ha hr hna hnb hn6 hm6 61 (chkG_no ho))
  rw [shG_no ho]
  clear ho
  go_enter Tryz.func145, Tryz.ntmps145
  go_wp2_with (go_at_call 102; refine (HC.out _ (ha.keepN k0) (hr.keepN k0)).mono ?_; rintro e w1 ⟨rfl, k1⟩)
  go_ret
  exact ⟨rfl, keepN k0 k1⟩
 ·have HC := Lib.hid (fun w ha hr => chkG_any A a na ca B r nb cb w ha hr hna hnb hn6 hm6 0 (chkG_ok ho))
  have HTa := Lib.hid (fun w hL hr => text_any A a na ca w hL hr hna (by omega))
  have HTb := Lib.hid (fun w hL hr => text_any B r nb cb w hL hr hnb (by omega))
  rw [shG_ok ho, ← str_mid]
  have q1 : (W.str (txt a)).size ≤ 1024 := by rw [size_of (s := txt a) (by simp)]; exact txt_le a
  have q2 : (W.str (txt r)).size ≤ 1024 := by rw [size_of (s := txt r) (by simp)]; exact txt_le r
  generalize W.str (txt a) = S1 at HTa q1 ⊢
  generalize W.str (txt r) = S2 at HTb q2 ⊢
  have q3 : ¬ 9223372036854775807 < S1.size + 1 := by omega
  have q4 : ¬ 9223372036854775807 < S1.size + 1 + S2.size := by omega
  have HL := Lib.hid hL
  clear ho hL
  go_enter Tryz.func145, Tryz.ntmps145
  go_wp2_with fail
  refine (HC.out _ (ha.keepN k0) (hr.keepN k0)).mono ?_
  rintro e w2 ⟨rfl, k1⟩
  obtain ⟨c0, c1⟩ := blk2 (bx.keep k1 id)
  have gK := keepN k0 k1
  have ha2 := ha.keepN gK
  have hr2 := hr.keepN gK
  clear bx k0 k1 ha hr HC
  go_wp2
  refine wp_region_sh ((0, false) :: (1, false) :: (2, false) :: (3, false) :: (4, false) :: (5, false) :: (6, false) :: (7, false) :: (8, false) :: []) (fun w' => Keep NoB w2 w') (by kernel_rfl) (by kernel_rfl) (by rfl) (by kernel_rfl) (stable_keep w2) (Keep.refl NoB w2).drew ?_
  refine shM_step rfl rfl rfl (by rfl) (by rfl) ?_
  apply Exists.intro
  refine ⟨fun z K hK => ?_, ?_, ?_⟩
  ·go_big_quiet_op
   exact hK _ rfl
  ·kernel_rfl
  refine shM_step rfl rfl rfl (by rfl) (by rfl) ?_
  apply Exists.intro
  refine ⟨fun z K hK => ?_, ?_, ?_⟩
  ·have d0 : ∀ y : KW z.w, y.w.cell? ⟨w.heap.size, 0, none⟩ = some (.slice A na ca) := fun y => Keep.cell (keepN z.has y.keep) c0 id
   go_big_quiet_op
   exact hK _ rfl
  ·kernel_rfl
  refine shM_step rfl rfl rfl (by rfl) (by rfl) ?_
  apply Exists.intro
  refine ⟨fun z K hK => ?_, ?_, ?_⟩
  ·go_big_quiet_op
   apply Exists.intro
   refine ⟨fun y => ?_, ?_⟩
   ·go_at_call 146
    exact kept_of (HTa.out _ (LetAt.keep HL.out (keepN gK (keepN z.has y.keep))) (ha2.keepN (keepN z.has y.keep)))
   ·exact hK _ rfl
  ·kernel_rfl
  refine shM_step rfl rfl rfl (by rfl) (by rfl) ?_
  apply Exists.intro
  refine ⟨fun z K hK => ?_, ?_, ?_⟩
  ·go_big_quiet_op
   exact hK _ rfl
  ·kernel_rfl
  refine shM_step rfl rfl rfl (by rfl) (by rfl) ?_
  apply Exists.intro
  refine ⟨fun z K hK => ?_, ?_, ?_⟩
  ·go_big_quiet_op
   exact hK _ rfl
  ·kernel_rfl
  refine shM_step rfl rfl rfl (by rfl) (by rfl) ?_
  apply Exists.intro
  refine ⟨fun z K hK => ?_, ?_, ?_⟩
  ·have d1 : ∀ y : KW z.w, y.w.cell? ⟨w.heap.size, 1, none⟩ = some (.slice B nb cb) := fun y => Keep.cell (keepN z.has y.keep) c1 id
   go_big_quiet_op
   exact hK _ rfl
  ·kernel_rfl
  refine shM_step rfl rfl rfl (by rfl) (by rfl) ?_
  apply Exists.intro
  refine ⟨fun z K hK => ?_, ?_, ?_⟩
  ·go_big_quiet_op
   apply Exists.intro
   refine ⟨fun y => ?_, ?_⟩
   ·go_at_call 146
    exact kept_of (HTb.out _ (LetAt.keep HL.out (keepN gK (keepN z.has y.keep))) (hr2.keepN (keepN z.has y.keep)))
   ·exact hK _ rfl
  ·kernel_rfl
  refine shM_step rfl rfl rfl (by rfl) (by rfl) ?_
  apply Exists.intro
  refine ⟨fun z K hK => ?_, ?_, ?_⟩
  ·go_big_quiet_op
   exact hK _ rfl
  ·kernel_rfl
  refine shM_step rfl rfl rfl (by rfl) (by rfl) ?_
  apply Exists.intro
  refine ⟨fun z K hK => ?_, ?_, ?_⟩
  ·go_big_quiet_op
   exact hK _ rfl
  ·kernel_rfl
  refine shM_nil (fun z => ?_)
  have hz := z.has
  generalize z.w = w6 at hz ⊢
  go_wp2
  go_ret
  exact ⟨rfl, keepN gK hz⟩

end Go.Proofs.YtgnooffedmeenaaGreatDoor.S

namespace Go.Proofs.YtgnooffedmeenaaGreatDoor.C
open Go.RowKit O

theorem goes_gen (op a b tgt : Int) (t : Bool) (w : World) (h1 : goesN op a b = tgt) (h2 : goesI op a b = t) :
  Calls Tryz.prog 106 #[instV op a b] w fun e w' => e = .returned (.tuple #[.int .i64 tgt, .bool t]) ∧ Keep NoB w w' := by subst h1 h2; exact goes_any op a b w
theorem ends_gen (op a b : Int) (t : Bool) (w : World) (h : endsI op a b = t) :
  Calls Tryz.prog 164 #[instV op a b] w fun e w' => e = .returned (.bool t) ∧ Keep NoB w w' := by subst h; exact ends_any op a b w
theorem chk_gen (op a b c : Int) (w : World) (h : chk op a b = c) :
  Calls Tryz.prog 165 #[instV op a b] w fun e w' => e = .returned (.int .i64 c) ∧ Keep NoB w w' := by subst h; exact check_any op a b w
theorem blk3 {w : World} {g : Nat} {t : TypeId} {a0 a1 a2 : Value} (h : Blk w g t #[a0, a1, a2]) : w.cell? ⟨g, 0, none⟩ = some a0 ∧ w.cell? ⟨g, 1, none⟩ = some a1 ∧ w.cell? ⟨g, 2, none⟩ = some a2 := ⟨h.cell 0, h.cell 1, h.cell 2⟩

set_option maxRecDepth 100000 in
set_option maxHeartbeats 4000000 in
theorem cchk_any (A : Option Addr) (l : List I3) (n c : Nat) (w : World) (hr : Rd w A (iis l)) (hn : Hid (l.length = n)) (hm : n ≤ 9223372036854775807) (R : Int) (hR : Hid (chkB l = R)) :
  Calls Tryz.prog 105 #[.slice A n c] w fun e w' => e = .returned (.int .i64 R) ∧ Keep NoB w w' := by
 by_cases h0 : n = 0
 ·subst h0
  obtain rfl : 50 = R := by rw [← hR.out, List.length_eq_zero_iff.1 hn.out]; rfl
  go_enter Tryz.func105, Tryz.ntmps105
  go_wp2
  go_ret
  exact ⟨rfl, Keep.refl _ _⟩
 have hz : ((n : Int) == 0) = false := by rw [beq_eq_false_iff_ne]; omega
 by_cases h5 : 512 < n
 ·obtain rfl : 50 = R := by rw [← hR.out, chkB_no (okB_long (by rw [hn.out]; omega))]
  have hq : decide ((512 : Int) < (n : Int)) = true := by rw [decide_eq_true_iff]; omega
  clear h5 h0
  go_enter Tryz.func105, Tryz.ntmps105
  go_wp2
  go_ret
  exact ⟨rfl, Keep.refl _ _⟩
 have hq : decide ((512 : Int) < (n : Int)) = false := by rw [decide_eq_false_iff_not]; omega
 obtain ⟨m, rfl⟩ : ∃ m, n = m + 1 := ⟨n - 1, by omega⟩
 have hz2 : ((m : Int) + 1 == 0) = false := by rw [beq_eq_false_iff_ne]; omega
 have hq2 : decide ((512 : Int) < (m : Int) + 1) = false := by rw [decide_eq_false_iff_not]; omega
 have hl0 : 0 < l.length := by rw [hn.out]; omega
 obtain ⟨g, off, rfl, hc⟩ := rdJ_at hr hl0
 have hml : m < l.length := by rw [hn.out]; omega
 obtain ⟨c0, c1, c2⟩ := hc m hml
 have HC := Lib.hid hc
 have hlast : Hid (lastB l = eB l[m]) := by
  show _ = _
  rw [lastB_at hl0]
  congr 2
  rw [hn.out]; omega
 clear hc hr h0 h5 hl0
 generalize l[m] = x at c0 c1 c2 hlast
 obtain ⟨op, a, b⟩ := x
 dsimp only at c0 c1 c2
 cases he : endsI op a b
 ·obtain rfl : 50 = R := by rw [← hR.out, chkB_no (okB_last (by rw [hlast.out]; exact he))]
  have HE := Lib.hid (fun w => ends_gen op a b _ w he)
  clear he hlast HC hR
  go_enter Tryz.func105, Tryz.ntmps105
  go_wp2_with (go_at_call 164; refine (HE.out _).mono ?_; rintro e w1 ⟨rfl, k1⟩)
  go_ret
  exact ⟨rfl, k1⟩
 have HL : Hid (lastB l = true) := by show _ = _; rw [hlast.out]; exact he
 have HE := Lib.hid (fun w => ends_gen op a b _ w he)
 clear he hlast
 go_enter Tryz.func105, Tryz.ntmps105
 go_wp2_with (go_at_call 164; refine (HE.out _).mono ?_; rintro e w1 ⟨rfl, k1⟩)
 clear c0 c1 c2 HE hml
 go_loopw [27] (fun i wr => ∃ k : Nat, k ≤ m + 1 ∧ i = .int .i64 k ∧ Hid ((l.take k).all (itemB (m + 1)) = true) ∧ Keep NoB w wr) (fun i _ => m + 1 - (intOf i).toNat)
 case atStart => exact ⟨0, Nat.zero_le _, rfl, rfl, k1⟩
 case round =>
  obtain ⟨k, hk, rfl, hall, hK⟩ := hrel
  by_cases hlt : k < m + 1
  ·have hkl : k < l.length := by rw [hn.out]; exact hlt
   obtain ⟨d0, d1, d2⟩ := HC.out k hkl
   have c0 := hK.cell d0 id
   have c1 := hK.cell d1 id
   have c2 := hK.cell d2 id
   have HT := Lib.hid (show l.take (k + 1) = l.take k ++ [l[k]] from List.take_succ_eq_append_getElem hkl)
   have HN : Hid (itemB l.length l[k] = false → 50 = R) := fun h => by rw [← hR.out, chkB_no (okB_item (all_no hkl h))]
   rw [hn.out] at HN
   clear d0 d1 d2
   generalize l[k] = x at c0 c1 c2 HT HN
   obtain ⟨op, a, b⟩ := x
   dsimp only at c0 c1 c2
   obtain ⟨tgt, hto⟩ : ∃ tgt, goesN op a b = tgt := ⟨_, rfl⟩
   have hb : 0 ≤ tgt ∧ tgt ≤ 511 := by rw [← hto]; exact gN_in (op, a, b)
   have HG := Lib.hid (fun w => goes_gen op a b tgt _ w hto rfl)
   have bx := Blk.new wr 55 #[.int .i64 op, .int .i64 a, .int .i64 b]
   have gK := hK.alloc (.cells #[.int .i64 op, .int .i64 a, .int .i64 b] 55)
   cases ho : okI op a b
   ·obtain rfl := HN.out (item_no1 ho)
    have HO := Lib.hid (fun w => chk_gen op a b 40 w (by unfold chk; rw [ho]; rfl))
    clear ho hto HN HT HL hall hK hR
    go_wp2_with fail
    refine (HG.out _).mono ?_
    rintro e w2 ⟨rfl, k2⟩
    replace bx := bx.keep k2 id
    replace gK := keepN gK k2
    obtain ⟨x0, x1, x2⟩ := blk3 bx
    go_wp2_with (go_at_call 165; refine (HO.out _).mono ?_; rintro e w3 ⟨rfl, k3⟩)
    go_ret
    exact ⟨rfl, keepN gK k3⟩
   have HO := Lib.hid (fun w => chk_gen op a b 0 w (by unfold chk; rw [ho]; rfl))
   by_cases ht : tgt < ((m + 1 : Nat) : Int)
   ·have ht2 : ¬ ((m : Int) + 1 ≤ tgt) := by omega
    have ha2 : Hid ((l.take (k + 1)).all (itemB (m + 1)) = true) := by
     show _ = _
     rw [HT.out, List.all_append, hall.out]
     simp only [List.all_cons, List.all_nil, Bool.and_true, Bool.true_and]
     exact item_yes ho (by show goesN op a b < _; rw [hto]; exact ht)
    clear ho hto HN HT HL hall hK hR ht
    go_wp2_with fail
    refine (HG.out _).mono ?_
    rintro e w2 ⟨rfl, k2⟩
    replace bx := bx.keep k2 id
    replace gK := keepN gK k2
    obtain ⟨x0, x1, x2⟩ := blk3 bx
    go_wp2_with (go_at_call 165; refine (HO.out _).mono ?_; rintro e w3 ⟨rfl, k3⟩)
    go_roundw
    case rel => exact ⟨k + 1, by omega, by go_num, ha2, keepN gK k3⟩
    case measure => simp [intOf]; omega
   ·obtain rfl := HN.out (item_no2 (by show ¬ goesN op a b < _; rw [hto]; exact ht))
    have ht2 : ((m : Int) + 1 ≤ tgt) := by omega
    clear ho hto HN HT HL hall hK hR ht
    go_wp2_with fail
    refine (HG.out _).mono ?_
    rintro e w2 ⟨rfl, k2⟩
    replace bx := bx.keep k2 id
    replace gK := keepN gK k2
    obtain ⟨x0, x1, x2⟩ := blk3 bx
    go_wp2_with (go_at_call 165; refine (HO.out _).mono ?_; rintro e w3 ⟨rfl, k3⟩)
    go_ret
    exact ⟨rfl, keepN gK k3⟩
  ·obtain rfl : 0 = R := by
    rw [← hR.out, chkB_ok (okB_mk (by rw [hn.out]; have := decide_eq_false_iff_not.1 hq; omega) HL.out ?_)]
    have := hall.out
    rw [List.take_of_length_le (by rw [hn.out]; omega)] at this
    rw [hn.out]; exact this
   clear HC hR
   go_wp2
   go_ret
   exact ⟨rfl, hK⟩

end Go.Proofs.YtgnooffedmeenaaGreatDoor.C

namespace Go.Proofs.YtgnooffedmeenaaGreatDoor.C
open Go.RowKit O

end Go.Proofs.YtgnooffedmeenaaGreatDoor.C

namespace Go.Proofs.YtgnooffedmeenaaGreatDoor.C
open Go.RowKit O

def AllI (l : List I3) : Prop := ∀ x ∈ l, O.I64 x.2.1 ∧ O.I64 x.2.2

end Go.Proofs.YtgnooffedmeenaaGreatDoor.C

namespace Go.Proofs.YtgnooffedmeenaaGreatDoor.M.L
open Go.RowKit

structure ImOk (p : I.Im) : Prop where
 ok : I.okI p = true
 hI : ∀ f ∈ p.fn, C.AllI f.bd
theorem ImOk.fn {p : I.Im} (h : ImOk p) {k : Nat} {f : F.Fu} (hf : p.fn[k]? = some f) : F.okF f = true ∧ C.AllI f.bd :=
 ⟨List.all_eq_true.1 ((I.okI_iff p).1 h.ok).2.2 _ (List.mem_of_getElem? hf), h.hI _ (List.mem_of_getElem? hf)⟩
theorem ImOk.ns {p : I.Im} (h : ImOk p) : p.sh.length ≤ 64 := ((I.okI_iff p).1 h.ok).1.1
theorem ImOk.nf {p : I.Im} (h : ImOk p) : p.fn.length ≤ 64 := ((I.okI_iff p).1 h.ok).1.2.1.2
theorem txI_le {x : C.I3} (h : O.I64 x.2.1 ∧ O.I64 x.2.2) : (O.textI x.1 x.2.1 x.2.2).length ≤ 60 := by
 have h1 := O.name_len x.1
 have h2 := O.word_len (O.rowAt x.1).ka x.2.1 h.1
 have h3 := O.word_len (O.rowAt x.1).kb x.2.2 h.2
 unfold O.textI O.partL
 rw [List.length_append, List.length_append]
 split <;> split <;> simp <;> omega
theorem note_le {i : Nat} (h : i ≤ 512) : (noteB i).length ≤ 24 := by
 have := Lib.itoa_length_le (i : Int) (by omega) (by omega)
 unfold noteB
 simp
 omega
theorem okN_le {s : Bs} (h : F.okN s = true) : s.length ≤ 32 := ((F.okN_iff s).1 h).1
theorem insn_none {x : C.I3} (hx : O.I64 x.2.1 ∧ O.I64 x.2.2) : (joinW (insL none x)).length ≤ 60 := by
 show (joinW (wordsX x)).length ≤ 60
 rw [join_words]
 exact txI_le hx
theorem insn_len {p : I.Im} (hp : I.okI p = true) (k : Nat) {x : C.I3} (hx : O.I64 x.2.1 ∧ O.I64 x.2.2) : (joinW (insL (NWp p k x) x)).length ≤ 60 := by
 cases hn : NWp p k x with
 | none => exact insn_none hx
 | some s =>
  have h3 := okN_le ((goodP hp).nok k x s hn).1
  have h4 := O.name_len x.1
  show ((O.rowAt x.1).name ++ 32 :: s).length ≤ 60
  simp
  omega
theorem ins_le {p : I.Im} (hp : I.okI p = true) (kind k : Nat) {i : Nat} (hi : i ≤ 512) {x : C.I3} (hx : O.I64 x.2.1 ∧ O.I64 x.2.2) : (insS kind p k i x).length ≤ 200 := by
 have h1 := note_le hi
 have h2 : (joinW (insL (if kind = 0 then NWp p k x else none) x)).length ≤ 60 := by
  split
  ·exact insn_len hp k hx
  ·exact insn_none hx
 have h3 : (if kind = 2 then noteB i else []).length ≤ 24 := by
  split
  ·exact h1
  ·simp
 unfold insS
 rw [List.length_append]
 omega
theorem say_le {p : I.Im} (hp : ImOk p) {kind : Nat} {lab : Nat → Nat → Bool} {l : Ln4} (hl : OkQ lab p l) : (sayQ kind p l).length ≤ 2300 := by
 obtain ⟨w, s, i, j⟩ := l
 have hw := hl.w
 dsimp only at hw
 have hw : w = 0 ∨ w = 1 ∨ w = 2 ∨ w = 3 ∨ w = 4 := by omega
 unfold sayQ
 rcases hw with rfl | rfl | rfl | rfl | rfl <;> dsimp only
 ·have := S.txt_le (p.sh[s]?.getD [])
  show (shapeW ++ 32 :: S.shS _).length ≤ 2300
  unfold S.shS
  split <;> simp [shapeW] <;> omega
 ·obtain ⟨_, f, hf, _⟩ := hl.f (fun h => nomatch h)
  dsimp only at hf
  rw [hf]
  have h2 := okN_le ((F.okF_iff f).1 (hp.fn hf).1).1
  have ha := S.txt_le f.ar
  have hb := S.txt_le f.rs
  show (funcW ++ 32 :: (f.nm ++ 32 :: S.shG f.ar f.rs)).length ≤ 2300
  unfold S.shG
  split <;> simp [funcW] <;> omega
 ·have hc := S.txt_le (p.fn[i]?.getD fu0).lc
  show (localW ++ 32 :: W.txt _).length ≤ 2300
  simp [localW]
  omega
 ·show ((LBp p i j).getD [] ++ [58]).length ≤ 2300
  rw [List.length_append]
  cases h : LBp p i j with
  | none => show ([] : Bs).length + 1 ≤ 2300; decide
  | some s =>
   have := okN_le ((goodP hp.ok).lok i j s h)
   show s.length + 1 ≤ 2300
   omega
 ·obtain ⟨_, f, hf, hlt, _⟩ := hl.f (fun h => nomatch h)
  dsimp only at hf hlt
  have hlt := hlt (by omega)
  have hb := (ok_body (hp.fn hf).1).2.2.1
  show (insS kind p i j ((p.fn[i]?.getD fu0).bd[j]?.getD (0, 0, 0))).length ≤ 2300
  rw [hf]
  show (insS kind p i j (f.bd[j]?.getD (0, 0, 0))).length ≤ 2300
  rw [List.getElem?_eq_getElem hlt]
  exact Nat.le_trans (ins_le hp.ok kind i (by omega) ((hp.fn hf).2 _ (List.getElem_mem hlt))) (by omega)
theorem bodyQ_len {lab : Nat → Bool} {k : Nat} : ∀ n i : Nat, (bodyQ lab k i n).length ≤ 2 * n
 | 0, _ => Nat.le_refl _
 | n + 1, i => by
  have := bodyQ_len (lab := lab) (k := k) n (i + 1)
  rw [bodyQ, List.length_append, List.length_cons]
  split <;> simp <;> omega
theorem funcsQ_len {lab : Nat → Nat → Bool} : ∀ (q : List F.Fu) (k : Nat), (∀ f ∈ q, F.okF f = true) → (funcsQ lab k q).length ≤ 1026 * q.length
 | [], _, _ => Nat.le_refl _
 | f :: q, k, h => by
  have h1 := funcsQ_len (lab := lab) q (k + 1) (fun g hg => h g (by simp [hg]))
  have h2 := bodyQ_len (lab := lab k) (k := k) f.bd.length 0
  have h3 := (ok_body (h f (by simp))).2.2.1
  rw [funcsQ, List.length_append, List.length_cons]
  unfold funcQ
  rw [List.length_cons, List.length_append]
  split <;> simp <;> omega
theorem seqQ_len {p : I.Im} (hp : ImOk p) (lab : Nat → Nat → Bool) : (seqQ lab p).length ≤ 65728 := by
 have h1 := hp.ns
 have h2 := hp.nf
 have h3 := funcsQ_len (lab := lab) p.fn 0 (fun f hf => List.all_eq_true.1 ((I.okI_iff p).1 hp.ok).2.2 _ hf)
 unfold seqQ shapesQ
 rw [List.length_append, List.length_map, List.length_range]
 have : 1026 * p.fn.length ≤ 1026 * 64 := Nat.mul_le_mul_left _ h2
 omega
theorem textOf_le {M : Nat} : ∀ (l : List Bs), (∀ s ∈ l, s.length ≤ M) → (textOf l).length ≤ (M + 1) * l.length
 | [], _ => Nat.zero_le _
 | s :: l, h => by
  have h1 := h s (by simp)
  have h2 := textOf_le l (fun x hx => h x (by simp [hx]))
  rw [text_cons, List.length_append, List.length_cons, List.length_cons, Nat.mul_add, Nat.mul_one]
  omega
theorem textOf_pre {p : I.Im} (hp : ImOk p) {kind : Nat} {lab : Nat → Nat → Bool} {pre : List Ln4} (h : ∀ l ∈ pre, OkQ lab p l) (hl : pre.length ≤ 65728) : (textOf (pre.map (sayQ kind p))).length ≤ 2301 * 65728 := by
 refine Nat.le_trans (textOf_le (M := 2300) _ fun s hs => ?_) (Nat.mul_le_mul_left _ (by rw [List.length_map]; exact hl))
 obtain ⟨l, hl, rfl⟩ := List.mem_map.1 hs
 exact say_le hp (h l hl)
theorem allR_le {p : I.Im} (hp : ImOk p) (kind : Nat) : (∀ e ∈ allR kind p, e.1.length ≤ 2300 ∧ -1 ≤ e.2.1 ∧ e.2.1 ≤ 64 ∧ -1 ≤ e.2.2 ∧ e.2.2 ≤ 512) ∧ (allR kind p).length ≤ 65728 := by
 rw [← seqQ_lr]
 refine ⟨fun e he => ?_, by rw [List.length_map]; exact seqQ_len hp _⟩
 obtain ⟨l, hl, rfl⟩ := List.mem_map.1 he
 have ho := seqQ_ok hl
 refine ⟨say_le hp ho, ?_⟩
 unfold toLR
 dsimp only
 split
 ·rename_i h4
  obtain ⟨_, f, hf, hlt, _⟩ := ho.f (by omega)
  have h1 := (List.getElem?_eq_some_iff.1 hf).1
  have h2 := hp.nf
  have h3 := hlt (by omega)
  have h5 := (ok_body (hp.fn hf).1).2.2.1
  dsimp only
  omega
 ·dsimp only
  omega

end Go.Proofs.YtgnooffedmeenaaGreatDoor.M.L

namespace Go.Proofs.YtgnooffedmeenaaGreatDoor
open Go.RowKit Go.Shelf

abbrev BSet := Nat → Prop
structure IStep (B : Nat) (p : BSet) (W W' : World) : Prop where
 keep : Keep (fun k => B ≤ k ∧ ¬ p k) W W'
 cells : ∀ (k : Nat) (o : Obj), W'.heap[k]? = some o → o.isCells = true → W.heap[k]? = some o
theorem IStep.trans {B : Nat} {p : BSet} {W W1 W2 : World} (h : IStep B p W W1) (h' : IStep B p W1 W2) : IStep B p W W2 :=
 ⟨h.keep.trans h'.keep (fun _ h _ => h), fun k o hk hc => h.cells k o (h'.cells k o hk hc) hc⟩
theorem IStep.mono {B B' : Nat} {p p' : BSet} {W W' : World} (h : IStep B p W W') (hB : B' ≤ B) (hp : ∀ k, p' k → p k) : IStep B' p' W W' :=
 ⟨h.keep.mono (fun k h2 _ => ⟨Nat.le_trans hB h2.1, fun h3 => h2.2 (hp k h3)⟩), h.cells⟩
structure Rnd (p p' : BSet) (W W' : World) : Prop where
 own : ∀ k, k < W.heap.size → p' k → p k
 keep : Keep p W W'
theorem Rnd.refl (p : BSet) (W : World) : Rnd p p W W := ⟨fun _ _ h => h, Keep.refl _ _⟩
theorem Rnd.trans {p p1 p2 : BSet} {W W1 W2 : World} (h : Rnd p p1 W W1) (h' : Rnd p1 p2 W1 W2) : Rnd p p2 W W2 :=
 ⟨fun k hk h2 => h.own k hk (h'.own k (Nat.lt_of_lt_of_le hk h.keep.size) h2), h.keep.trans h'.keep (fun k h1 hk => h.own k hk h1)⟩
theorem Keep.noB {O : BSet} {W W' : World} (h : Keep NoB W W') : Keep O W W' := h.mono (fun _ hf => hf.elim)
theorem Rnd.not {p p' : BSet} {W W' : World} (h : Rnd p p' W W') {k : Nat} (hk : k < W.heap.size) (hn : ¬ p k) : ¬ p' k := fun h2 => hn (h.own k hk h2)
theorem Rnd.same {p p' : BSet} {W W' : World} (h : Rnd p p' W W') {k : Nat} (hk : k < W.heap.size) (hn : ¬ p k) : W'.heap[k]? = W.heap[k]? := h.keep.block k hk hn

section
variable {P : Program} {n : Nat}
end
end Go.Proofs.YtgnooffedmeenaaGreatDoor
