/-
  The plain mathematics of reading an instruction from bytes: what is read, and that an instruction's bytes, whatever stands behind them, are read as it was. No program, no conditions.
  The plain mathematics of reading a body: what so many instructions one behind the other are, and what is read of a body's bytes. No program, no conditions.
  The plain mathematics of reading a function: what is read of bytes at a place. No program, no conditions.
  The plain mathematics of images: which may be, their sum, their bytes, and what is read of bytes. No program, no conditions.
  What Check, Count, ifBody and hasPlace of layer code answer: is a list a body, and how many have an op? Conditions: the list lies in memory.
  What Count, ifBody and hasPlace of layer code answer. Conditions: the list lies in memory.
  The document's Kinds, least, most, in and Check. Conditions: none but that numbers fit an int64.
  What Known, Check, Zero and Nil answer, the code's and the document's. No conditions.
  What Nil answers, the code's and the document's; great. No conditions.
  What the document's Ints and Same answer: are two lists the same? Conditions: the lists lie in memory.
  What Zeros and Of answer: new lists. Conditions: the lists lie in memory, no more than 4096 long.
  What Fits answers. Conditions: the lists lie in memory.
  What the listed package-level variables hold, carried from world to world; Letter and lettered. Conditions: the variables hold what their initialisers lay.
  What Show answers. Conditions: the variables that it reads hold what their initialisers lay; the value's number fits an int64.
  An array of strings among the listed package-level variables, as a list of texts. No conditions.
  What the project's own names of operations and codes answer, and what those that look a name up do. Conditions: the listed package-level variables hold the names.
  What the functions in an operand's fields tell: an operand's text. Conditions: the listed package-level variables hold what their initialisers lay.
  The document's in and Check. Conditions: none but that numbers fit an int64.
  The document's Ends and Goes. Conditions: none but that numbers fit an int64.
  What the document's Check, Count and Head of layer code answer, and its Lists: are two lists the same? Conditions: lists lie in memory; numbers fit an int64.
  A function in memory: its value, its cells, what it reads as. No conditions.
-/
import Derived.IntWalk
import Derived.LaidLaws
import Derived.LaidMore
import Derived.Lib.AppendIntMem
import Derived.Lib.ItoaLen
import Derived.Lib.SmallJoins
import Derived.OpenShut
import Derived.Test.YtgifflfjhockaaaGreatDoorQ4
import Derived.Test.YtgifflfjhockaaaGreatDoorQ3
import Derived.Test.YtgifflfjhockaaaGreatDoorQ2
import Derived.Test.YtgifflfjhockaaaGreatDoorShelf
namespace Go.Proofs.YtgifflfjhockaaaGreatDoor.O

/-- What comes next, if nothing is wrong with it, is its number's bytes. -/
theorem nx_ok {l : List UInt8} (h : (V.nx l).2.2 = 0) : l = V.encL (V.nx l).1 ++ l.drop (V.nx l).2.1 ∧ (V.encL (V.nx l).1).length = (V.nx l).2.1 := by
  rcases l with _ | ⟨b, r⟩
  · cases h
  · rw [V.nx_cons] at h ⊢
    split at h
    · cases h
    · rename_i h1
      split at h
      · cases h
      · rename_i h2
        rw [if_neg h1, if_neg h2]
        have ht := V.td_rng b.toNat (by simpa using b.toNat_lt)
        obtain ⟨t, hT⟩ : ∃ t, V.td b.toNat = t + 1 := ⟨V.td b.toNat - 1, by omega⟩
        simp only
        have hw := V.dc_width b (r.take t) (V.td b.toNat) rfl (by rw [hT]; simp; omega)
        rw [hT] at h1 h2 hw ⊢
        rw [List.take_succ_cons] at h2 ⊢
        have e := hw.2.1 (by omega)
        rw [e]
        refine ⟨?_, by simp; omega⟩
        rw [List.drop_succ_cons, List.cons_append, List.take_append_drop]

theorem num_ok {l : List UInt8} {p m : Nat} (h : (V.NumR l p m).2.1 = 0) :
    l.drop p = V.encL (V.NumR l p m).1 ++ l.drop (V.NumR l p m).2.2 ∧ (V.NumR l p m).1 ≤ m ∧ (V.NumR l p m).1 < 18446744073709551616 ∧ (V.NumR l p m).2.2 = p + (V.encL (V.NumR l p m).1).length := by
  unfold V.NumR at h ⊢
  unfold V.bnd at h ⊢
  have hw := (V.nx_width (l.drop p)).2.2.2
  simp only at h ⊢
  split at h
  · rename_i h1; exact absurd h h1
  · rename_i h1
    split at h
    · cases h
    · rename_i h2
      rw [if_neg h1, if_neg h2]
      have e := nx_ok (l := l.drop p) h
      rw [List.drop_drop] at e
      exact ⟨e.1, by omega, hw, by rw [e.2]⟩
theorem sig_ok {l : List UInt8} {p : Nat} (h : (V.SigR l p (lo 1) (hi 1)).2.1 = 0) :
    l.drop p = V.encL (V.zig (V.SigR l p (lo 1) (hi 1)).1) ++ l.drop (V.SigR l p (lo 1) (hi 1)).2.2 ∧ inK 1 (V.SigR l p (lo 1) (hi 1)).1 = true ∧ (V.SigR l p (lo 1) (hi 1)).2.2 = p + (V.encL (V.zig (V.SigR l p (lo 1) (hi 1)).1)).length := by
  unfold V.SigR at h ⊢
  split at h
  · rename_i h1; exact absurd h h1
  · rename_i h1
    split at h
    · cases h
    · rename_i h2
      rw [if_neg h1, if_neg h2]
      have e := nx_ok (l := l.drop p) (by omega)
      rw [List.drop_drop] at e
      simp only [V.zig_zag]
      exact ⟨e.1, decide_eq_true (by omega), by rw [e.2]⟩
/-- An operand that is read: its number, the error, the place behind it. -/
def decP (k : Int) (l : List UInt8) (p : Nat) : Int × Nat × Nat :=
  if k = 0 then (0, 0, p)
  else if k = 1 then V.SigR l p (lo 1) (hi 1)
  else if (V.NumR l p (hi k).toNat).2.1 ≠ 0 then (0, (V.NumR l p (hi k).toNat).2.1, (V.NumR l p (hi k).toNat).2.2)
  else if inK k (V.NumR l p (hi k).toNat).1 = true then ((V.NumR l p (hi k).toNat).1, 0, (V.NumR l p (hi k).toNat).2.2) else (0, 40, (V.NumR l p (hi k).toNat).2.2)

theorem decP_ok {k : Int} {l : List UInt8} {p : Nat} (h : (decP k l p).2.1 = 0) :
    l.drop p = encP k (decP k l p).1 ++ l.drop (decP k l p).2.2 ∧ inK k (decP k l p).1 = true ∧ (decP k l p).2.2 = p + (encP k (decP k l p).1).length := by
  unfold decP at h ⊢
  unfold encP
  by_cases h0 : k = 0
  · simp only [if_pos h0]
    subst h0
    exact ⟨rfl, by decide, rfl⟩
  · simp only [if_neg h0] at h ⊢
    by_cases h1 : k = 1
    · subst h1
      simp only [if_true] at h ⊢
      exact sig_ok h
    · simp only [if_neg h1] at h ⊢
      by_cases h2 : (V.NumR l p (hi k).toNat).2.1 ≠ 0
      · rw [if_pos h2] at h; exact absurd h h2
      · rw [if_neg h2] at h ⊢
        by_cases h3 : inK k (V.NumR l p (hi k).toNat).1 = true
        · rw [if_pos h3]
          have e := num_ok (l := l) (p := p) (m := (hi k).toNat) (by omega)
          exact ⟨e.1, h3, e.2.2.2⟩
        · rw [if_neg h3] at h; cases h
/-- An instruction that is read: it, the error, the place behind it. -/
structure Dec where
  op : Int
  a : Int
  b : Int
  er : Nat
  pl : Nat
def decI (l : List UInt8) (p : Nat) : Dec :=
  if (V.NumR l p 29).2.1 ≠ 0 then ⟨0, 0, 0, (V.NumR l p 29).2.1, (V.NumR l p 29).2.2⟩
  else if (decP (rowAt (V.NumR l p 29).1).ka l (V.NumR l p 29).2.2).2.1 ≠ 0 then ⟨0, 0, 0, (decP (rowAt (V.NumR l p 29).1).ka l (V.NumR l p 29).2.2).2.1, (decP (rowAt (V.NumR l p 29).1).ka l (V.NumR l p 29).2.2).2.2⟩
  else if (decP (rowAt (V.NumR l p 29).1).kb l (decP (rowAt (V.NumR l p 29).1).ka l (V.NumR l p 29).2.2).2.2).2.1 ≠ 0 then
    ⟨0, 0, 0, (decP (rowAt (V.NumR l p 29).1).kb l (decP (rowAt (V.NumR l p 29).1).ka l (V.NumR l p 29).2.2).2.2).2.1, (decP (rowAt (V.NumR l p 29).1).kb l (decP (rowAt (V.NumR l p 29).1).ka l (V.NumR l p 29).2.2).2.2).2.2⟩
  else ⟨(V.NumR l p 29).1, (decP (rowAt (V.NumR l p 29).1).ka l (V.NumR l p 29).2.2).1, (decP (rowAt (V.NumR l p 29).1).kb l (decP (rowAt (V.NumR l p 29).1).ka l (V.NumR l p 29).2.2).2.2).1, 0,
    (decP (rowAt (V.NumR l p 29).1).kb l (decP (rowAt (V.NumR l p 29).1).ka l (V.NumR l p 29).2.2).2.2).2.2⟩

/-- The same, by steps. -/
theorem decI_1 {l : List UInt8} {p n r q : Nat} (h : V.NumR l p 29 = (n, r, q)) (hr : r ≠ 0) : decI l p = ⟨0, 0, 0, r, q⟩ := by unfold decI; rw [h, if_pos hr]
theorem decI_2 {l : List UInt8} {p n q r1 q1 : Nat} {a : Int} (h : V.NumR l p 29 = (n, 0, q)) (h1 : decP (rowAt n).ka l q = (a, r1, q1)) (hr : r1 ≠ 0) : decI l p = ⟨0, 0, 0, r1, q1⟩ := by
  unfold decI; rw [h]; simp only; rw [h1, if_neg (by simp), if_pos hr]
theorem decI_3 {l : List UInt8} {p n q q1 r2 q2 : Nat} {a b : Int} (h : V.NumR l p 29 = (n, 0, q)) (h1 : decP (rowAt n).ka l q = (a, 0, q1)) (h2 : decP (rowAt n).kb l q1 = (b, r2, q2)) (hr : r2 ≠ 0) : decI l p = ⟨0, 0, 0, r2, q2⟩ := by
  unfold decI; rw [h]; simp only; rw [h1]; simp only; rw [h2, if_neg (by simp), if_neg (by simp), if_pos hr]
theorem decI_4 {l : List UInt8} {p n q q1 q2 : Nat} {a b : Int} (h : V.NumR l p 29 = (n, 0, q)) (h1 : decP (rowAt n).ka l q = (a, 0, q1)) (h2 : decP (rowAt n).kb l q1 = (b, 0, q2)) : decI l p = ⟨n, a, b, 0, q2⟩ := by
  unfold decI; rw [h]; simp only; rw [h1]; simp only; rw [h2]; simp

/-- What is read without an error may be, and was its bytes. -/
theorem decI_ok {l : List UInt8} {p : Nat} (h : (decI l p).er = 0) :
    okI (decI l p).op (decI l p).a (decI l p).b = true ∧ l.drop p = bytesI (decI l p).op (decI l p).a (decI l p).b ++ l.drop (decI l p).pl ∧ (decI l p).pl = p + (bytesI (decI l p).op (decI l p).a (decI l p).b).length := by
  obtain ⟨n, r, q, hN⟩ : ∃ n r q, V.NumR l p 29 = (n, r, q) := ⟨_, _, _, rfl⟩
  by_cases hr : r = 0
  · subst hr
    obtain ⟨a, r1, q1, hA⟩ : ∃ a r1 q1, decP (rowAt n).ka l q = (a, r1, q1) := ⟨_, _, _, rfl⟩
    by_cases hr1 : r1 = 0
    · subst hr1
      obtain ⟨b, r2, q2, hB⟩ : ∃ b r2 q2, decP (rowAt n).kb l q1 = (b, r2, q2) := ⟨_, _, _, rfl⟩
      by_cases hr2 : r2 = 0
      · subst hr2
        have eN := num_ok (l := l) (p := p) (m := 29) (by rw [hN])
        have eA := decP_ok (k := (rowAt n).ka) (l := l) (p := q) (by rw [hA])
        have eB := decP_ok (k := (rowAt n).kb) (l := l) (p := q1) (by rw [hB])
        rw [hN] at eN
        rw [hA] at eA
        rw [hB] at eB
        simp only at eN eA eB
        rw [decI_4 hN hA hB]
        simp only
        have ho : isOp (n : Int) = true := decide_eq_true (by omega)
        refine ⟨?_, ?_, ?_⟩
        · unfold okI; rw [ho, eA.2.1, eB.2.1]; rfl
        · unfold bytesI
          rw [eN.1, eA.1, eB.1]
          simp
        · unfold bytesI
          rw [eB.2.2, eA.2.2, eN.2.2.2]
          simp
          omega
      · rw [decI_3 hN hA hB hr2] at h; exact absurd h hr2
    · rw [decI_2 hN hA hr1] at h; exact absurd h hr1
  · rw [decI_1 hN hr] at h; exact absurd h hr
end Go.Proofs.YtgifflfjhockaaaGreatDoor.O

namespace Go.Proofs.YtgifflfjhockaaaGreatDoor.C
open Go.RowKit O

/-- What is read in one. -/
def d3 (l : List UInt8) (q : Nat) : I3 := ((decI l q).op, (decI l q).a, (decI l q).b)
/-- So many instructions, read one behind the other, and the place behind them. -/
def fwd (l : List UInt8) (p : Nat) : Nat → Option (List I3 × Nat)
  | 0 => some ([], p)
  | k + 1 => match fwd l p k with
    | none => none
    | some x => if (decI l x.2).er = 0 then some (x.1 ++ [d3 l x.2], (decI l x.2).pl) else none
theorem fwd_step {l : List UInt8} {p k q : Nat} {xs : List I3} (h : fwd l p k = some (xs, q)) (he : (decI l q).er = 0) : fwd l p (k + 1) = some (xs ++ [d3 l q], (decI l q).pl) := by
  rw [fwd, h]; exact if_pos he
theorem fwd_stop {l : List UInt8} {p k q : Nat} {xs : List I3} (h : fwd l p k = some (xs, q)) (he : (decI l q).er ≠ 0) : fwd l p (k + 1) = none := by
  rw [fwd, h]; exact if_neg he
theorem fwd_none {l : List UInt8} {p k : Nat} (h : fwd l p k = none) : ∀ m, k ≤ m → fwd l p m = none := by
  intro m
  induction m with
  | zero => intro hk; obtain rfl : k = 0 := by omega
            exact h
  | succ m ih =>
    intro hk
    by_cases e : k = m + 1
    · rw [← e]; exact h
    · rw [fwd, ih (by omega)]
theorem fwd_ok {l : List UInt8} {p : Nat} : ∀ (k : Nat) {xs : List I3} {q : Nat}, fwd l p k = some (xs, q) → l.drop p = byt xs ++ l.drop q ∧ q = p + (byt xs).length ∧ xs.length = k ∧ xs.all ok1 = true := by
  intro k
  induction k with
  | zero =>
    intro xs q h
    rw [fwd] at h
    injection h with h
    injection h with h1 h2
    subst h1 h2
    exact ⟨rfl, rfl, rfl, rfl⟩
  | succ k ih =>
    intro xs q h
    cases hf : fwd l p k with
    | none => rw [fwd, hf] at h; cases h
    | some y =>
      obtain ⟨ys, r⟩ := y
      by_cases he : (decI l r).er = 0
      · rw [fwd_step hf he] at h
        injection h with h
        injection h with h1 h2
        subst h1 h2
        obtain ⟨e1, e2, e3, e4⟩ := ih hf
        obtain ⟨o1, o2, o3⟩ := decI_ok he
        refine ⟨?_, ?_, by simp [e3], ?_⟩
        · rw [byt_snoc, e1, o2]; simp [d3]
        · rw [byt_snoc, o3, e2]; simp [d3]; omega
        · rw [List.all_append, e4]; simp [ok1, d3, o1]
      · rw [fwd_stop hf he] at h; cases h
/-- The body that stands at a place, and the place behind it. -/
def bodyOf (y : Option (List I3 × Nat)) : Option (List I3 × Nat) := match y with
  | none => none
  | some x => if okB x.1 = true then some x else none
def decB (l : List UInt8) (p : Nat) : Option (List I3 × Nat) := if (V.NumR l p 512).2.1 ≠ 0 then none else bodyOf (fwd l (V.NumR l p 512).2.2 (V.NumR l p 512).1)
theorem decB_ok {l : List UInt8} {p q : Nat} {xs : List I3} (h : decB l p = some (xs, q)) : okB xs = true ∧ l.drop p = bytesB xs ++ l.drop q ∧ q = p + (bytesB xs).length := by
  unfold decB at h
  by_cases hr : (V.NumR l p 512).2.1 = 0
  · rw [if_neg (by simpa using hr)] at h
    cases hf : fwd l (V.NumR l p 512).2.2 (V.NumR l p 512).1 with
    | none => rw [hf] at h; cases h
    | some y =>
      rw [hf] at h
      unfold bodyOf at h
      simp only at h
      by_cases ho : okB y.1 = true
      · rw [if_pos ho] at h
        injection h with h
        subst h
        obtain ⟨e1, e2, e3, _⟩ := fwd_ok _ hf
        obtain ⟨n1, n2, n3, n4⟩ := num_ok hr
        refine ⟨ho, ?_, ?_⟩
        · unfold bytesB; rw [n1, e1, e3]; simp
        · unfold bytesB; rw [e2, n4, e3]; simp; omega
      · rw [if_neg ho] at h; cases h
  · rw [if_pos hr] at h; cases h
theorem all_ok1 {l : List I3} (h : okB l = true) : l.all ok1 = true := by
  rw [List.all_eq_true]
  intro x hx
  exact (item_parts (List.all_eq_true.1 (okB_parts h).2.2.2 x hx)).1
end Go.Proofs.YtgifflfjhockaaaGreatDoor.C

namespace Go.Proofs.YtgifflfjhockaaaGreatDoor.F
open Go.RowKit W

/-- The name at a place, and the place behind it. -/
def nmR (l : List UInt8) (p : Nat) : Option (List UInt8 × Nat) :=
  if (V.bnd (V.nx (l.drop p)) 32).2.2 ≠ 0 then none else
  if l.length < p + (V.bnd (V.nx (l.drop p)) 32).2.1 + (V.bnd (V.nx (l.drop p)) 32).1 then none else
  some ((l.drop (p + (V.bnd (V.nx (l.drop p)) 32).2.1)).take (V.bnd (V.nx (l.drop p)) 32).1, p + (V.bnd (V.nx (l.drop p)) 32).2.1 + (V.bnd (V.nx (l.drop p)) 32).1)
/-- Locals at a place. -/
def lcR (l : List UInt8) (p : Nat) : Option (List Int × Nat) := match S.decG l p with
  | none => none
  | some x => if x.1.2 = [] then some (x.1.1, x.2) else none
/-- A function whose parts were read. -/
def ifF (f : Fu) (q : Nat) : Option (Fu × Nat) := if okF f = true then some (f, q) else none
def decF (l : List UInt8) (p : Nat) : Option (Fu × Nat) := match nmR l p with
  | none => none
  | some a => match S.decG l a.2 with
    | none => none
    | some g => match lcR l g.2 with
      | none => none
      | some c => match C.decB l c.2 with
        | none => none
        | some d => ifF ⟨a.1, g.1.1, g.1.2, c.1, d.1⟩ d.2
theorem nmR_ok {l : List UInt8} {p q : Nat} {s : List UInt8} (h : nmR l p = some (s, q)) : l.drop p = (V.encL s.length ++ s) ++ l.drop q ∧ q = p + (V.encL s.length ++ s).length ∧ s.length ≤ 32 ∧ q ≤ l.length := by
  unfold nmR at h
  have hN : V.NumR l p 32 = ((V.bnd (V.nx (l.drop p)) 32).1, (V.bnd (V.nx (l.drop p)) 32).2.2, p + (V.bnd (V.nx (l.drop p)) 32).2.1) := rfl
  have hok := S.num_ok (l := l) (p := p) (m := 32)
  rw [hN] at hok
  generalize V.bnd (V.nx (l.drop p)) 32 = b at h hok
  obtain ⟨n, d, r⟩ := b
  simp only at h hok
  split at h
  · cases h
  · rename_i h1
    split at h
    · cases h
    · rename_i h2
      obtain ⟨e1, e2, _, e4⟩ := hok (by simpa using h1)
      injection h with h
      injection h with h3 h4
      have hl : s.length = n := by rw [← h3, List.length_take, List.length_drop]; omega
      subst h4
      rw [hl]
      refine ⟨?_, by rw [List.length_append, hl]; omega, by omega, by omega⟩
      rw [e1, ← h3, List.append_assoc]
      congr 1
      have ht := List.take_append_drop n (l.drop (p + d))
      rw [List.drop_drop] at ht
      exact ht.symm
theorem lcR_ok {l : List UInt8} {p q : Nat} {a : List Int} (h : lcR l p = some (a, q)) : S.decG l p = some ((a, []), q) := by
  unfold lcR at h
  cases hg : S.decG l p with
  | none => rw [hg] at h; cases h
  | some x =>
    rw [hg] at h
    simp only at h
    obtain ⟨⟨x1, x2⟩, x3⟩ := x
    simp only at h
    split at h
    · rename_i h1
      injection h with h
      injection h with h2 h3
      rw [h1, h2, h3]
    · cases h
theorem decF_1 {l : List UInt8} {p : Nat} (h : nmR l p = none) : decF l p = none := by unfold decF; rw [h]
theorem decF_2 {l : List UInt8} {p : Nat} {a : List UInt8 × Nat} (h : nmR l p = some a) (h2 : S.decG l a.2 = none) : decF l p = none := by unfold decF; rw [h]; dsimp only; rw [h2]
theorem decF_3 {l : List UInt8} {p : Nat} {a : List UInt8 × Nat} {g : (List Int × List Int) × Nat} (h : nmR l p = some a) (h2 : S.decG l a.2 = some g) (h3 : lcR l g.2 = none) : decF l p = none := by
  unfold decF; rw [h]; dsimp only; rw [h2]; dsimp only; rw [h3]
theorem decF_4 {l : List UInt8} {p : Nat} {a : List UInt8 × Nat} {g : (List Int × List Int) × Nat} {c : List Int × Nat} (h : nmR l p = some a) (h2 : S.decG l a.2 = some g) (h3 : lcR l g.2 = some c) (h4 : C.decB l c.2 = none) : decF l p = none := by
  unfold decF; rw [h]; dsimp only; rw [h2]; dsimp only; rw [h3]; dsimp only; rw [h4]
theorem decF_5 {l : List UInt8} {p : Nat} {a : List UInt8 × Nat} {g : (List Int × List Int) × Nat} {c : List Int × Nat} {d : List C.I3 × Nat} (h : nmR l p = some a) (h2 : S.decG l a.2 = some g) (h3 : lcR l g.2 = some c) (h4 : C.decB l c.2 = some d) :
    decF l p = ifF ⟨a.1, g.1.1, g.1.2, c.1, d.1⟩ d.2 := by
  unfold decF; rw [h]; dsimp only; rw [h2]; dsimp only; rw [h3]; dsimp only; rw [h4]
theorem ifF_ok {f : Fu} {q : Nat} (h : okF f = true) : ifF f q = some (f, q) := if_pos h
theorem ifF_no {f : Fu} {q : Nat} (h : okF f = false) : ifF f q = none := if_neg (by rw [h]; decide)
theorem decF_ok {l : List UInt8} {p q : Nat} {f : Fu} (h : decF l p = some (f, q)) : okF f = true ∧ l.drop p = bytesF f ++ l.drop q ∧ q = p + (bytesF f).length := by
  cases h1 : nmR l p with
  | none => rw [decF_1 h1] at h; cases h
  | some a =>
    cases h2 : S.decG l a.2 with
    | none => rw [decF_2 h1 h2] at h; cases h
    | some g =>
      cases h3 : lcR l g.2 with
      | none => rw [decF_3 h1 h2 h3] at h; cases h
      | some c =>
        cases h4 : C.decB l c.2 with
        | none => rw [decF_4 h1 h2 h3 h4] at h; cases h
        | some d =>
          rw [decF_5 h1 h2 h3 h4] at h
          obtain ⟨a, qa⟩ := a
          obtain ⟨⟨ga, gr⟩, qg⟩ := g
          obtain ⟨c, qc⟩ := c
          obtain ⟨d, qd⟩ := d
          dsimp only at h h2 h3 h4
          unfold ifF at h
          split at h
          · rename_i ho
            injection h with h
            injection h with e1 e2
            subst e1 e2
            obtain ⟨a1, a2, _, _⟩ := nmR_ok h1
            obtain ⟨_, b1, b2⟩ := S.decG_ok h2
            obtain ⟨_, c1, c2⟩ := S.decG_ok (lcR_ok h3)
            obtain ⟨_, d1, d2⟩ := C.decB_ok h4
            refine ⟨ho, ?_, ?_⟩
            · unfold bytesF
              dsimp only
              rw [a1, b1, c1, d1]
              simp only [List.append_assoc]
            · unfold bytesF
              simp only [List.length_append] at a2 ⊢
              omega
          · cases h
/-- What Decode hands out. -/
def nilF : Fu := ⟨[], [], [], [], []⟩
end Go.Proofs.YtgifflfjhockaaaGreatDoor.F

namespace Go.Proofs.YtgifflfjhockaaaGreatDoor.I
open Go.RowKit W

/-- An image. -/
structure Im where
  sh : List (List Int)
  fn : List F.Fu
def nilI : Im := ⟨[], []⟩
def names (p : Im) : List (List UInt8) := p.fn.map fun f => f.nm
/-- It may be. -/
def okI (p : Im) : Bool := decide (p.sh.length ≤ 64 ∧ (1 ≤ p.fn.length ∧ p.fn.length ≤ 64) ∧ (names p).Nodup) && (p.sh.all S.okS && p.fn.all F.okF)
def chkI (p : Im) : Int := if okI p = true then 0 else 80
theorem okI_iff (p : Im) : okI p = true ↔ (p.sh.length ≤ 64 ∧ (1 ≤ p.fn.length ∧ p.fn.length ≤ 64) ∧ (names p).Nodup) ∧ p.sh.all S.okS = true ∧ p.fn.all F.okF = true := by
  unfold okI; rw [Bool.and_eq_true, Bool.and_eq_true, decide_eq_true_iff]
theorem okI_not {p : Im} (h : ¬ ((p.sh.length ≤ 64 ∧ (1 ≤ p.fn.length ∧ p.fn.length ≤ 64) ∧ (names p).Nodup) ∧ p.sh.all S.okS = true ∧ p.fn.all F.okF = true)) : okI p = false := by
  cases ho : okI p
  · rfl
  · exact absurd ((okI_iff p).1 ho) h
theorem chkI_ok {p : Im} (h : okI p = true) : chkI p = 0 := if_pos h
theorem chkI_no {p : Im} (h : okI p = false) : chkI p = 80 := if_neg (by rw [h]; decide)

/-- The sum's two numbers, nothing left out; the sum. -/
def adS (s : Nat × Nat) (x : UInt8) : Nat × Nat := (s.1 + x.toNat, s.2 + (s.1 + x.toNat))
def ad (l : List UInt8) : Nat × Nat := l.foldl adS (1, 0)
def sumN (l : List UInt8) : Nat := (ad l).2 % 65521 * 65536 + (ad l).1 % 65521
theorem ad_snoc (l : List UInt8) (x : UInt8) : ad (l ++ [x]) = adS (ad l) x := by simp [ad]
theorem ad_one (l : List UInt8) : ∀ s : Nat × Nat, (l.foldl adS s).1 = s.1 + (l.map UInt8.toNat).sum := by
  induction l with
  | nil => intro s; simp
  | cons x l ih => intro s; rw [List.foldl_cons, ih]; simp [adS]; omega
theorem ad_fst (l : List UInt8) : (ad l).1 = 1 + (l.map UInt8.toNat).sum := ad_one l _
theorem sumN_lt (l : List UInt8) : sumN l < 4294967296 := by
  unfold sumN
  have h1 := Nat.mod_lt (ad l).2 (show 0 < 65521 by omega)
  have h2 := Nat.mod_lt (ad l).1 (show 0 < 65521 by omega)
  omega
theorem sum_le (l : List UInt8) : (l.map UInt8.toNat).sum ≤ 255 * l.length := by
  induction l with
  | nil => simp
  | cons x l ih =>
    have := x.toNat_lt
    rw [List.map_cons, List.sum_cons, List.length_cons]
    omega
/-- A sum's bytes. -/
def four (n : Nat) : List UInt8 := [UInt8.ofNat (n / 16777216), UInt8.ofNat (n / 65536 % 256), UInt8.ofNat (n / 256 % 256), UInt8.ofNat (n % 256)]
theorem four_length (n : Nat) : (four n).length = 4 := rfl

/-- An image's bytes. -/
def magicL : List UInt8 := [98, 107, 115, 116, 1]
def shB (l : List (List Int)) : List UInt8 := V.encL l.length ++ l.flatMap S.bytesT
def fnB (l : List F.Fu) : List UInt8 := V.encL l.length ++ l.flatMap F.bytesF
def inI (p : Im) : List UInt8 := shB p.sh ++ fnB p.fn
def bodyI (p : Im) : List UInt8 := magicL ++ inI p
def bytesI (p : Im) : List UInt8 := bodyI p ++ four (sumN (bodyI p))
def encI (p : Im) : List UInt8 := if okI p = true then bytesI p else []
theorem encI_ok {p : Im} (h : okI p = true) : encI p = bytesI p := if_pos h
theorem encI_no {p : Im} (h : okI p = false) : encI p = [] := if_neg (by rw [h]; decide)
section
variable {α : Type}
/-- So many parts, one behind the other, from a place. -/
def rdK (dec : Nat → Option (α × Nat)) : Nat → Nat → Option (List α × Nat)
  | 0, p => some ([], p)
  | k + 1, p => match rdK dec k p with
    | none => none
    | some a => match dec a.2 with
      | none => none
      | some x => some (a.1 ++ [x.1], x.2)
/-- How many, and these. -/
def rdL (dec : Nat → Option (α × Nat)) (l : List UInt8) (p : Nat) : Option (List α × Nat) :=
  if (V.NumR l p 64).2.1 = 0 then rdK dec (V.NumR l p 64).1 (V.NumR l p 64).2.2 else none
theorem rdK_succ_no {dec : Nat → Option (α × Nat)} {k p : Nat} {a : List α × Nat} (h : rdK dec k p = some a) (h2 : dec a.2 = none) : rdK dec (k + 1) p = none := by
  show (match rdK dec k p with | none => none | some a => _) = _
  rw [h]; dsimp only; rw [h2]
theorem rdK_succ {dec : Nat → Option (α × Nat)} {k p : Nat} {a : List α × Nat} {x : α × Nat} (h : rdK dec k p = some a) (h2 : dec a.2 = some x) : rdK dec (k + 1) p = some (a.1 ++ [x.1], x.2) := by
  show (match rdK dec k p with | none => none | some a => _) = _
  rw [h]; dsimp only; rw [h2]
theorem rdK_none {dec : Nat → Option (α × Nat)} {k p : Nat} (h : rdK dec k p = none) : ∀ n, k ≤ n → rdK dec n p = none := by
  intro n hn
  obtain ⟨d, rfl⟩ := Nat.exists_eq_add_of_le hn
  clear hn
  induction d with
  | zero => exact h
  | succ d ih =>
    show (match rdK dec (k + d) p with | none => none | some a => _) = _
    rw [ih]
theorem rdK_ok {dec : Nat → Option (α × Nat)} {l : List UInt8} {ok : α → Bool} {by_ : α → List UInt8} (hd : ∀ p q x, dec p = some (x, q) → ok x = true ∧ l.drop p = by_ x ++ l.drop q ∧ q = p + (by_ x).length) (p : Nat) :
    ∀ (k q : Nat) (xs : List α), rdK dec k p = some (xs, q) → xs.length = k ∧ xs.all ok = true ∧ l.drop p = xs.flatMap by_ ++ l.drop q ∧ q = p + (xs.flatMap by_).length := by
  intro k
  induction k with
  | zero =>
    intro q xs h
    injection h with h
    injection h with h1 h2
    subst h1 h2
    exact ⟨rfl, rfl, rfl, rfl⟩
  | succ k ih =>
    intro q xs h
    cases h1 : rdK dec k p with
    | none => rw [rdK_none h1 (k + 1) (by omega)] at h; cases h
    | some a =>
      cases h2 : dec a.2 with
      | none => rw [rdK_succ_no h1 h2] at h; cases h
      | some x =>
        rw [rdK_succ h1 h2] at h
        injection h with h
        injection h with h3 h4
        obtain ⟨a, qa⟩ := a
        obtain ⟨x, qx⟩ := x
        dsimp only at h2 h3 h4
        subst h3 h4
        obtain ⟨e1, e2, e3, e4⟩ := ih _ _ h1
        obtain ⟨f1, f2, f3⟩ := hd _ _ _ h2
        refine ⟨by simp [e1], by rw [List.all_append, e2]; simp [f1], ?_, ?_⟩
        · rw [e3, f2]; simp [List.flatMap_append]
        · rw [f3, e4]; simp [List.flatMap_append]; omega
theorem rdL_ok {dec : Nat → Option (α × Nat)} {l : List UInt8} {ok : α → Bool} {by_ : α → List UInt8} (hd : ∀ p q x, dec p = some (x, q) → ok x = true ∧ l.drop p = by_ x ++ l.drop q ∧ q = p + (by_ x).length) {p q : Nat} {xs : List α}
    (h : rdL dec l p = some (xs, q)) : xs.length ≤ 64 ∧ xs.all ok = true ∧ l.drop p = (V.encL xs.length ++ xs.flatMap by_) ++ l.drop q ∧ q = p + (V.encL xs.length ++ xs.flatMap by_).length := by
  unfold rdL at h
  split at h
  · rename_i h0
    obtain ⟨k1, k2, _, k4⟩ := S.num_ok h0
    obtain ⟨e1, e2, e3, e4⟩ := rdK_ok hd _ _ _ _ h
    rw [← e1] at k1 k2 k4
    refine ⟨k2, e2, ?_, ?_⟩
    · rw [k1, e3, List.append_assoc]
    · rw [e4, k4, List.length_append]; omega
  · cases h
end

/-- What stands between Magic and the sum, and the place behind it. -/
def rdI (l : List UInt8) (p : Nat) : Option (Im × Nat) := match rdL (S.decS l) l p with
  | none => none
  | some a => match rdL (F.decF l) l a.2 with
    | none => none
    | some b => some (⟨a.1, b.1⟩, b.2)
theorem rdI_1 {l : List UInt8} {p : Nat} (h : rdL (S.decS l) l p = none) : rdI l p = none := by unfold rdI; rw [h]
theorem rdI_2 {l : List UInt8} {p : Nat} {a : List (List Int) × Nat} (h : rdL (S.decS l) l p = some a) (h2 : rdL (F.decF l) l a.2 = none) : rdI l p = none := by unfold rdI; rw [h]; dsimp only; rw [h2]
theorem rdI_3 {l : List UInt8} {p : Nat} {a : List (List Int) × Nat} {b : List F.Fu × Nat} (h : rdL (S.decS l) l p = some a) (h2 : rdL (F.decF l) l a.2 = some b) : rdI l p = some (⟨a.1, b.1⟩, b.2) := by
  unfold rdI; rw [h]; dsimp only; rw [h2]
theorem rdI_ok {l : List UInt8} {p q : Nat} {x : Im} (h : rdI l p = some (x, q)) : (x.sh.length ≤ 64 ∧ x.fn.length ≤ 64 ∧ x.sh.all S.okS = true ∧ x.fn.all F.okF = true) ∧ l.drop p = inI x ++ l.drop q ∧ q = p + (inI x).length := by
  cases h1 : rdL (S.decS l) l p with
  | none => rw [rdI_1 h1] at h; cases h
  | some a =>
    cases h2 : rdL (F.decF l) l a.2 with
    | none => rw [rdI_2 h1 h2] at h; cases h
    | some b =>
      rw [rdI_3 h1 h2] at h
      injection h with h
      injection h with h3 h4
      subst h3 h4
      obtain ⟨a, qa⟩ := a
      obtain ⟨b, qb⟩ := b
      dsimp only at h2
      obtain ⟨e1, e2, e3, e4⟩ := rdL_ok (ok := S.okS) (by_ := S.bytesT) (fun _ _ _ h => S.decS_ok h) h1
      obtain ⟨f1, f2, f3, f4⟩ := rdL_ok (ok := F.okF) (by_ := F.bytesF) (fun _ _ _ h => F.decF_ok h) h2
      refine ⟨⟨e1, f1, e2, f2⟩, ?_, ?_⟩
      · unfold inI shB fnB; dsimp only; rw [e3, f3, ← List.append_assoc]
      · unfold inI shB fnB; dsimp only; rw [List.length_append]; omega
/-- Which image stands between Magic and the sum, if one does. -/
def opI (l : List UInt8) : Option Im := match rdI l 0 with
  | none => none
  | some x => if x.2 = l.length ∧ okI x.1 = true then some x.1 else none
theorem opI_1 {l : List UInt8} (h : rdI l 0 = none) : opI l = none := by unfold opI; rw [h]
theorem opI_2 {l : List UInt8} {x : Im × Nat} (h : rdI l 0 = some x) (h2 : ¬ (x.2 = l.length ∧ okI x.1 = true)) : opI l = none := by unfold opI; rw [h]; exact if_neg h2
theorem opI_3 {l : List UInt8} {x : Im × Nat} (h : rdI l 0 = some x) (h1 : x.2 = l.length) (h2 : okI x.1 = true) : opI l = some x.1 := by unfold opI; rw [h]; exact if_pos ⟨h1, h2⟩
theorem opI_ok {l : List UInt8} {x : Im} (h : opI l = some x) : okI x = true ∧ l = inI x := by
  cases h1 : rdI l 0 with
  | none => rw [opI_1 h1] at h; cases h
  | some a =>
    by_cases h2 : a.2 = l.length ∧ okI a.1 = true
    · rw [opI_3 h1 h2.1 h2.2] at h
      injection h with h
      subst h
      obtain ⟨_, e1, e2⟩ := rdI_ok (x := a.1) (q := a.2) h1
      refine ⟨h2.2, ?_⟩
      rw [List.drop_zero, h2.1, List.drop_length, List.append_nil] at e1
      exact e1
    · rw [opI_2 h1 h2] at h; cases h
/-- What is read of any bytes, and what is wrong. -/
def decI (b : List UInt8) : Im × Int :=
  if b.take 5 ≠ magicL then (nilI, 81)
  else if b.length < 9 ∨ b.drop (b.length - 4) ≠ four (sumN (b.take (b.length - 4))) then (nilI, 82)
  else match opI ((b.take (b.length - 4)).drop 5) with
    | none => (nilI, 80)
    | some p => (p, 0)
theorem decI_1 {b : List UInt8} (h : b.take 5 ≠ magicL) : decI b = (nilI, 81) := if_pos h
theorem decI_2 {b : List UInt8} (h : b.take 5 = magicL) (h2 : b.length < 9 ∨ b.drop (b.length - 4) ≠ four (sumN (b.take (b.length - 4)))) : decI b = (nilI, 82) := by
  unfold decI; rw [if_neg (fun hh => hh h)]; exact if_pos h2
theorem decI_3 {b : List UInt8} (h : b.take 5 = magicL) (h2 : 9 ≤ b.length) (h3 : b.drop (b.length - 4) = four (sumN (b.take (b.length - 4)))) (h4 : opI ((b.take (b.length - 4)).drop 5) = none) : decI b = (nilI, 80) := by
  unfold decI; rw [if_neg (fun hh => hh h), if_neg (by rintro (hh | hh); omega; exact hh h3), h4]
theorem decI_4 {b : List UInt8} {p : Im} (h : b.take 5 = magicL) (h2 : 9 ≤ b.length) (h3 : b.drop (b.length - 4) = four (sumN (b.take (b.length - 4)))) (h4 : opI ((b.take (b.length - 4)).drop 5) = some p) : decI b = (p, 0) := by
  unfold decI; rw [if_neg (fun hh => hh h), if_neg (by rintro (hh | hh); omega; exact hh h3), h4]
/-- The five ways. -/
theorem decI_cases (b : List UInt8) : (b.take 5 ≠ magicL ∧ decI b = (nilI, 81)) ∨ (b.take 5 = magicL ∧ (b.length < 9 ∨ b.drop (b.length - 4) ≠ four (sumN (b.take (b.length - 4)))) ∧ decI b = (nilI, 82)) ∨
    (b.take 5 = magicL ∧ 9 ≤ b.length ∧ b.drop (b.length - 4) = four (sumN (b.take (b.length - 4))) ∧ opI ((b.take (b.length - 4)).drop 5) = none ∧ decI b = (nilI, 80)) ∨
    (b.take 5 = magicL ∧ 9 ≤ b.length ∧ b.drop (b.length - 4) = four (sumN (b.take (b.length - 4))) ∧ ∃ p, opI ((b.take (b.length - 4)).drop 5) = some p ∧ decI b = (p, 0)) := by
  by_cases h1 : b.take 5 = magicL
  · by_cases h2 : b.length < 9 ∨ b.drop (b.length - 4) ≠ four (sumN (b.take (b.length - 4)))
    · exact .inr (.inl ⟨h1, h2, decI_2 h1 h2⟩)
    · have h3 : 9 ≤ b.length := by
        rcases Nat.lt_or_ge b.length 9 with h | h
        · exact absurd (.inl h) h2
        · exact h
      have h4 : b.drop (b.length - 4) = four (sumN (b.take (b.length - 4))) := Decidable.byContradiction fun h => h2 (.inr h)
      cases h5 : opI ((b.take (b.length - 4)).drop 5) with
      | none => exact .inr (.inr (.inl ⟨h1, h3, h4, rfl, decI_3 h1 h3 h4 h5⟩))
      | some p => exact .inr (.inr (.inr ⟨h1, h3, h4, p, rfl, decI_4 h1 h3 h4 h5⟩))
  · exact .inl ⟨h1, decI_1 h1⟩
theorem decI_ok {b : List UInt8} (h : (decI b).2 = 0) : okI (decI b).1 = true ∧ b = bytesI (decI b).1 := by
  rcases decI_cases b with ⟨_, e⟩ | ⟨_, _, e⟩ | ⟨_, _, _, _, e⟩ | ⟨h1, h2, h3, p, h4, e⟩
  · rw [e] at h; cases h
  · rw [e] at h; cases h
  · rw [e] at h; cases h
  · rw [e]
    dsimp only
    obtain ⟨ho, hi⟩ := opI_ok h4
    refine ⟨ho, ?_⟩
    have hb : b.take (b.length - 4) = bodyI p := by
      unfold bodyI
      rw [← hi, ← h1]
      have : (b.take (b.length - 4)).take 5 = b.take 5 := by rw [List.take_take]; congr 1; omega
      rw [← this, List.take_append_drop]
    unfold bytesI
    rw [← hb, ← h3, List.take_append_drop]
theorem decI_bad {b : List UInt8} (h : (decI b).2 ≠ 0) : (decI b).1 = nilI := by
  rcases decI_cases b with ⟨_, e⟩ | ⟨_, _, e⟩ | ⟨_, _, _, _, e⟩ | ⟨h1, h2, h3, p, h4, e⟩
  · rw [e]
  · rw [e]
  · rw [e]
  · rw [e] at h; exact absurd rfl h
instance fuEq : DecidableEq F.Fu := fun a b => decidable_of_iff (F.sameF a b = true) (F.sameF_iff a b)
/-- Are both the same? -/
def sameI (p q : Im) : Bool := decide (p.sh = q.sh ∧ p.fn = q.fn)

end Go.Proofs.YtgifflfjhockaaaGreatDoor.I

namespace Go.Proofs.YtgifflfjhockaaaGreatDoor.C
open Go.RowKit O

theorem goes_gen (op a b to : Int) (t : Bool) (w : World) (h1 : goesN op a b = to) (h2 : goesI op a b = t) :
    Calls Tryz.prog 168 #[instV op a b] w fun e w' => e = .returned (.tuple #[.int .i64 to, .bool t]) ∧ Keep NoB w w' := by subst h1 h2; exact goes_any op a b w
theorem ends_gen (op a b : Int) (t : Bool) (w : World) (h : endsI op a b = t) :
    Calls Tryz.prog 167 #[instV op a b] w fun e w' => e = .returned (.bool t) ∧ Keep NoB w w' := by subst h; exact ends_any op a b w
theorem chk_gen (op a b c : Int) (w : World) (h : chk op a b = c) :
    Calls Tryz.prog 169 #[instV op a b] w fun e w' => e = .returned (.int .i64 c) ∧ Keep NoB w w' := by subst h; exact check_any op a b w
theorem blk3 {w : World} {g : Nat} {t : TypeId} {a0 a1 a2 : Value} (h : Blk w g t #[a0, a1, a2]) : w.cell? ⟨g, 0, none⟩ = some a0 ∧ w.cell? ⟨g, 1, none⟩ = some a1 ∧ w.cell? ⟨g, 2, none⟩ = some a2 := ⟨h.cell 0, h.cell 1, h.cell 2⟩

set_option maxRecDepth 100000 in
set_option maxHeartbeats 4000000 in
theorem cchk_any (A : Option Addr) (l : List I3) (n c : Nat) (w : World) (hr : Rd w A (iis l)) (hn : Hid (l.length = n)) (hm : n ≤ 9223372036854775807) (R : Int) (hR : Hid (chkB l = R)) :
    Calls Tryz.prog 125 #[.slice A n c] w fun e w' => e = .returned (.int .i64 R) ∧ Keep NoB w w' := by
  by_cases h0 : n = 0
  · subst h0
    obtain rfl : 50 = R := by rw [← hR.out, List.length_eq_zero_iff.1 hn.out]; rfl
    go_enter Tryz.func125, Tryz.ntmps125
    go_wp2
    go_ret
    exact ⟨rfl, Keep.refl _ _⟩
  have hz : ((n : Int) == 0) = false := by rw [beq_eq_false_iff_ne]; omega
  by_cases h5 : 512 < n
  · obtain rfl : 50 = R := by rw [← hR.out, chkB_no (okB_long (by rw [hn.out]; omega))]
    have hq : decide ((512 : Int) < (n : Int)) = true := by rw [decide_eq_true_iff]; omega
    clear h5 h0
    go_enter Tryz.func125, Tryz.ntmps125
    go_wp2
    go_ret
    exact ⟨rfl, Keep.refl _ _⟩
  have hq : decide ((512 : Int) < (n : Int)) = false := by rw [decide_eq_false_iff_not]; omega
  obtain ⟨m, rfl⟩ : ∃ m, n = m + 1 := ⟨n - 1, by omega⟩
  have hz2 : ((m : Int) + 1 == 0) = false := by rw [beq_eq_false_iff_ne]; omega
  have hq2 : decide ((512 : Int) < (m : Int) + 1) = false := by rw [decide_eq_false_iff_not]; omega
  have hl0 : 0 < l.length := by rw [hn.out]; omega
  obtain ⟨g, off, rfl, hc⟩ := rdJ_at hr hl0
  have hml : m < l.length := by rw [hn.out]; omega
  obtain ⟨c0, c1, c2⟩ := hc m hml
  have HC := Lib.hid hc
  have hlast : Hid (lastB l = eB l[m]) := by
    show _ = _
    rw [lastB_at hl0]
    congr 2
    rw [hn.out]; omega
  clear hc hr h0 h5 hl0
  generalize l[m] = x at c0 c1 c2 hlast
  obtain ⟨op, a, b⟩ := x
  dsimp only at c0 c1 c2
  cases he : endsI op a b
  · obtain rfl : 50 = R := by rw [← hR.out, chkB_no (okB_last (by rw [hlast.out]; exact he))]
    have HE := Lib.hid (fun w => ends_gen op a b _ w he)
    clear he hlast HC hR
    go_enter Tryz.func125, Tryz.ntmps125
    go_wp2_with (go_at_call 167; refine (HE.out _).mono ?_; rintro e w1 ⟨rfl, k1⟩)
    go_ret
    exact ⟨rfl, k1⟩
  have HL : Hid (lastB l = true) := by show _ = _; rw [hlast.out]; exact he
  have HE := Lib.hid (fun w => ends_gen op a b _ w he)
  clear he hlast
  go_enter Tryz.func125, Tryz.ntmps125
  go_wp2_with (go_at_call 167; refine (HE.out _).mono ?_; rintro e w1 ⟨rfl, k1⟩)
  clear c0 c1 c2 HE hml
  go_loopw [27] (fun i wr => ∃ k : Nat, k ≤ m + 1 ∧ i = .int .i64 k ∧ Hid ((l.take k).all (itemB (m + 1)) = true) ∧ Keep NoB w wr) (fun i _ => m + 1 - (intOf i).toNat)
  case atStart => exact ⟨0, Nat.zero_le _, rfl, rfl, k1⟩
  case round =>
    obtain ⟨k, hk, rfl, hall, hK⟩ := hrel
    by_cases hlt : k < m + 1
    · have hkl : k < l.length := by rw [hn.out]; exact hlt
      obtain ⟨d0, d1, d2⟩ := HC.out k hkl
      have c0 := hK.cell d0 id
      have c1 := hK.cell d1 id
      have c2 := hK.cell d2 id
      have HT := Lib.hid (show l.take (k + 1) = l.take k ++ [l[k]] from List.take_succ_eq_append_getElem hkl)
      have HN : Hid (itemB l.length l[k] = false → 50 = R) := fun h => by rw [← hR.out, chkB_no (okB_item (all_no hkl h))]
      rw [hn.out] at HN
      clear d0 d1 d2
      generalize l[k] = x at c0 c1 c2 HT HN
      obtain ⟨op, a, b⟩ := x
      dsimp only at c0 c1 c2
      obtain ⟨to, hto⟩ : ∃ to, goesN op a b = to := ⟨_, rfl⟩
      have hb : 0 ≤ to ∧ to ≤ 511 := by rw [← hto]; exact gN_in (op, a, b)
      have HG := Lib.hid (fun w => goes_gen op a b to _ w hto rfl)
      have bx := Blk.new wr 63 #[.int .i64 op, .int .i64 a, .int .i64 b]
      have gK := hK.alloc (.cells #[.int .i64 op, .int .i64 a, .int .i64 b] 63)
      cases ho : okI op a b
      · obtain rfl := HN.out (item_no1 ho)
        have HO := Lib.hid (fun w => chk_gen op a b 40 w (by unfold chk; rw [ho]; rfl))
        clear ho hto HN HT HL hall hK hR
        go_wp2_with fail
        refine (HG.out _).mono ?_
        rintro e w2 ⟨rfl, k2⟩
        replace bx := bx.keep k2 id
        replace gK := keepN gK k2
        obtain ⟨x0, x1, x2⟩ := blk3 bx
        go_wp2_with (go_at_call 169; refine (HO.out _).mono ?_; rintro e w3 ⟨rfl, k3⟩)
        go_ret
        exact ⟨rfl, keepN gK k3⟩
      have HO := Lib.hid (fun w => chk_gen op a b 0 w (by unfold chk; rw [ho]; rfl))
      by_cases ht : to < ((m + 1 : Nat) : Int)
      · have ht2 : ¬ ((m : Int) + 1 ≤ to) := by omega
        have ha2 : Hid ((l.take (k + 1)).all (itemB (m + 1)) = true) := by
          show _ = _
          rw [HT.out, List.all_append, hall.out]
          simp only [List.all_cons, List.all_nil, Bool.and_true, Bool.true_and]
          exact item_yes ho (by show goesN op a b < _; rw [hto]; exact ht)
        clear ho hto HN HT HL hall hK hR ht
        go_wp2_with fail
        refine (HG.out _).mono ?_
        rintro e w2 ⟨rfl, k2⟩
        replace bx := bx.keep k2 id
        replace gK := keepN gK k2
        obtain ⟨x0, x1, x2⟩ := blk3 bx
        go_wp2_with (go_at_call 169; refine (HO.out _).mono ?_; rintro e w3 ⟨rfl, k3⟩)
        go_roundw
        case rel => exact ⟨k + 1, by omega, by go_num, ha2, keepN gK k3⟩
        case measure => simp [intOf]; omega
      · obtain rfl := HN.out (item_no2 (by show ¬ goesN op a b < _; rw [hto]; exact ht))
        have ht2 : ((m : Int) + 1 ≤ to) := by omega
        clear ho hto HN HT HL hall hK hR ht
        go_wp2_with fail
        refine (HG.out _).mono ?_
        rintro e w2 ⟨rfl, k2⟩
        replace bx := bx.keep k2 id
        replace gK := keepN gK k2
        obtain ⟨x0, x1, x2⟩ := blk3 bx
        go_wp2_with (go_at_call 169; refine (HO.out _).mono ?_; rintro e w3 ⟨rfl, k3⟩)
        go_ret
        exact ⟨rfl, keepN gK k3⟩
    · obtain rfl : 0 = R := by
        rw [← hR.out, chkB_ok (okB_mk (by rw [hn.out]; have := decide_eq_false_iff_not.1 hq; omega) HL.out ?_)]
        have := hall.out
        rw [List.take_of_length_le (by rw [hn.out]; omega)] at this
        rw [hn.out]; exact this
      clear HC hR
      go_wp2
      go_ret
      exact ⟨rfl, hK⟩

end Go.Proofs.YtgifflfjhockaaaGreatDoor.C

namespace Go.Proofs.YtgifflfjhockaaaGreatDoor.C
open Go.RowKit O

/-- The slice, if the list is a body; nil, if it is not. -/
def ifV (l : List I3) (v : Value) : Value := if okB l = true then v else .slice none 0 0
theorem ifV_ok {l : List I3} (h : okB l = true) (v : Value) : ifV l v = v := if_pos h
theorem ifV_no {l : List I3} (h : okB l = false) (v : Value) : ifV l v = .slice none 0 0 := if_neg (by rw [h]; decide)

set_option maxRecDepth 100000 in
set_option maxHeartbeats 2000000 in
theorem ifBody_any (A : Option Addr) (l : List I3) (n c : Nat) (w : World) (hr : Rd w A (iis l)) (hn : Hid (l.length = n)) (hm : n ≤ 9223372036854775807) :
    Calls Tryz.prog 184 #[.slice A n c] w fun e w' => e = .returned (.tuple #[ifV l (.slice A n c), .int .i64 (chkB l)]) ∧ Keep NoB w w' := by
  cases ho : okB l
  · rw [ifV_no ho, chkB_no ho]
    have HC := Lib.hid (fun w hr => cchk_any A l n c w hr hn hm 50 (chkB_no ho))
    clear ho
    go_enter Tryz.func184, Tryz.ntmps184
    go_wp2_with (go_at_call 125; refine (HC.out _ hr).mono ?_; rintro e w1 ⟨rfl, k1⟩)
    go_ret2
    exact ⟨rfl, k1⟩
  · rw [ifV_ok ho, chkB_ok ho]
    have HC := Lib.hid (fun w hr => cchk_any A l n c w hr hn hm 0 (chkB_ok ho))
    clear ho
    go_enter Tryz.func184, Tryz.ntmps184
    go_wp2_with (go_at_call 125; refine (HC.out _ hr).mono ?_; rintro e w1 ⟨rfl, k1⟩)
    go_ret2
    exact ⟨rfl, k1⟩

end Go.Proofs.YtgifflfjhockaaaGreatDoor.C

namespace Go.Proofs.YtgifflfjhockaaaGreatDoor.O
open Go.RowKit

theorem pr_ii {a b a' b' : Int} (h1 : a = a') (h2 : b = b') : Ending.returned (.tuple #[.int .i64 a, .int .i64 b]) = .returned (.tuple #[.int .i64 a', .int .i64 b']) := by rw [h1, h2]

set_option maxRecDepth 100000 in
set_option maxHeartbeats 4000000 in
theorem rkinds_any (op : Int) (w : World) :
    Calls Tryz.prog 187 #[.int .i64 op] w fun e w' => e = .returned (.tuple #[.int .i64 (rowAt op).ka, .int .i64 (rowAt op).kb]) ∧ w = w' := by
  cases ho : isOp op
  · have hn := isOp_no ho
    rw [rowAt_no ho]
    have h : ∀ k : Int, 0 ≤ k → k < 30 → (op == k) = false := fun k h0 h1 => by rw [beq_eq_false_iff_ne]; intro e; exact hn ⟨by omega, by omega⟩
    have a1 := h 1 (by decide) (by decide); have a2 := h 2 (by decide) (by decide); have a3 := h 3 (by decide) (by decide); have a4 := h 4 (by decide) (by decide)
    have a5 := h 5 (by decide) (by decide); have a8 := h 8 (by decide) (by decide); have a9 := h 9 (by decide) (by decide); have a10 := h 10 (by decide) (by decide)
    have a11 := h 11 (by decide) (by decide); have a15 := h 15 (by decide) (by decide); have a16 := h 16 (by decide) (by decide); have a17 := h 17 (by decide) (by decide)
    have a18 := h 18 (by decide) (by decide); have a19 := h 19 (by decide) (by decide); have a20 := h 20 (by decide) (by decide); have a21 := h 21 (by decide) (by decide)
    have a22 := h 22 (by decide) (by decide); have a23 := h 23 (by decide) (by decide)
    clear h hn ho
    go_enter Tryz.func187, Tryz.ntmps187
    go_wp2
    go_ret2
    exact ⟨pr_ii rfl rfl, rfl⟩
  · have hb := isOp_yes ho
    clear ho
    have hc : op = 0 ∨ op = 1 ∨ op = 2 ∨ op = 3 ∨ op = 4 ∨ op = 5 ∨ op = 6 ∨ op = 7 ∨ op = 8 ∨ op = 9 ∨ op = 10 ∨ op = 11 ∨ op = 12 ∨ op = 13 ∨ op = 14 ∨ op = 15 ∨ op = 16 ∨ op = 17 ∨ op = 18 ∨ op = 19 ∨ op = 20 ∨ op = 21 ∨ op = 22 ∨ op = 23 ∨ op = 24 ∨ op = 25 ∨ op = 26 ∨ op = 27 ∨ op = 28 ∨ op = 29 := by omega
    clear hb
    rcases hc with rfl | rfl | rfl | rfl | rfl | rfl | rfl | rfl | rfl | rfl | rfl | rfl | rfl | rfl | rfl | rfl | rfl | rfl | rfl | rfl | rfl | rfl | rfl | rfl | rfl | rfl | rfl | rfl | rfl | rfl
    all_goals
      go_enter Tryz.func187, Tryz.ntmps187
      go_wp2
      go_ret2
      exact ⟨pr_ii rfl rfl, rfl⟩

set_option maxHeartbeats 1000000 in
theorem rleast_any (k : Int) (w : World) (h0 : 0 ≤ k) (h1 : k ≤ 10) (h2 : k ≠ 1) :
    Calls Tryz.prog 204 #[.int .i64 k] w fun e w' => e = .returned (.int .i64 (lo k)) ∧ w = w' := by
  have hc : k = 0 ∨ k = 2 ∨ k = 3 ∨ k = 4 ∨ k = 5 ∨ k = 6 ∨ k = 7 ∨ k = 8 ∨ k = 9 ∨ k = 10 := by omega
  clear h0 h1 h2
  rcases hc with rfl | rfl | rfl | rfl | rfl | rfl | rfl | rfl | rfl | rfl
  all_goals
    go_enter Tryz.func204, Tryz.ntmps204
    go_wp2
    go_ret
    exact ⟨rfl, rfl⟩

set_option maxHeartbeats 1000000 in
theorem rmost_any (k : Int) (w : World) (h0 : 0 ≤ k) (h1 : k ≤ 10) (h2 : k ≠ 1) :
    Calls Tryz.prog 203 #[.int .i64 k] w fun e w' => e = .returned (.int .i64 (hi k)) ∧ Keep NoB w w' := by
  have hc : k = 0 ∨ k = 2 ∨ k = 3 ∨ k = 4 ∨ k = 5 ∨ k = 6 ∨ k = 7 ∨ k = 8 ∨ k = 9 ∨ k = 10 := by omega
  clear h0 h1 h2
  rcases hc with rfl | rfl | rfl | rfl | rfl | rfl | rfl | rfl | rfl | rfl
  all_goals
    go_enter Tryz.func203, Tryz.ntmps203
    go_wp2
    go_ret
    exact ⟨rfl, (Keep.refl NoB w).alloc _⟩

end Go.Proofs.YtgifflfjhockaaaGreatDoor.O

namespace Go.Proofs.YtgifflfjhockaaaGreatDoor.W
open Go.RowKit

/-- What Check answers. -/
def chk (t n : Int) : Int := if okB t n = true then 0 else 21
set_option maxHeartbeats 400000 in
theorem known_any (t : Int) (w : World) :
    Calls Tryz.prog 156 #[.int .i64 t] w fun e w' => e = .returned (.bool (knownB t)) ∧ w = w' := by
  by_cases h1 : 1 ≤ t
  · by_cases h2 : t < 5
    · go_enter Tryz.func156, Tryz.ntmps156
      go_wp2
      go_ret
      exact ⟨ret_bool (by simp [knownB]; omega), rfl⟩
    · go_enter Tryz.func156, Tryz.ntmps156
      go_wp2
      go_ret
      exact ⟨ret_bool (by simp [knownB]; omega), rfl⟩
  · go_enter Tryz.func156, Tryz.ntmps156
    go_wp2
    go_ret
    exact ⟨ret_bool (by simp [knownB]; omega), rfl⟩

set_option maxHeartbeats 400000 in
theorem rknown_any (t : Int) (w : World) :
    Calls Tryz.prog 103 #[.int .i64 t] w fun e w' => e = .returned (.bool (knownB t)) ∧ w = w' := by
  go_enter Tryz.func103, Tryz.ntmps103
  go_wp2
  all_goals
    go_ret
    exact ⟨ret_bool (by rw [Bool.eq_iff_iff]; simp [knownB]; omega), rfl⟩

/-! ### Zero, Nil -/

end Go.Proofs.YtgifflfjhockaaaGreatDoor.W

namespace Go.Proofs.YtgifflfjhockaaaGreatDoor.W
open Go.RowKit

/-! ### great -/

end Go.Proofs.YtgifflfjhockaaaGreatDoor.W

namespace Go.Proofs.YtgifflfjhockaaaGreatDoor.W
open Go.RowKit

set_option maxRecDepth 100000 in
set_option maxHeartbeats 2000000 in
theorem ints_any (A B : Option Addr) (la lb : List Int) (n m c d : Nat) (w : World) (ha : Rd w A (ivs la)) (hb : Rd w B (ivs lb)) (hn : Hid (la.length = n)) (hm : Hid (lb.length = m))
    (h1 : n ≤ 9223372036854775807) (h2 : m ≤ 9223372036854775807) (R : Bool) (hR : Hid (R = decide (la = lb))) :
    Calls Tryz.prog 50 #[.slice A n c, .slice B m d] w fun e w' => e = .returned (.bool R) ∧ Keep NoB w w' := by
  by_cases hnm : n = m
  · subst hnm
    go_enter Tryz.func50, Tryz.ntmps50
    go_wp2
    go_loopw [5] (fun i wr => ∃ k : Nat, k ≤ n ∧ i = .int .i64 k ∧ Hid (la.take k = lb.take k) ∧ Keep NoB w wr) (fun i _ => n - (intOf i).toNat)
    case atStart => exact ⟨0, Nat.zero_le _, rfl, rfl, Keep.refl _ _⟩
    case round =>
      obtain ⟨k, hk, rfl, ht, hK⟩ := hrel
      by_cases hlt : k < n
      · have hka : k < la.length := by rw [hn.out]; exact hlt
        have hkb : k < lb.length := by rw [hm.out]; exact hlt
        obtain ⟨ga, oa, rfl, hca⟩ := rdI_at ha (by omega)
        obtain ⟨gb, ob, rfl, hcb⟩ := rdI_at hb (by omega)
        have ca := hK.cell (hca k hka) id
        have cb := hK.cell (hcb k hkb) id
        have HT := Lib.hid (show la.take (k + 1) = la.take k ++ [la[k]] from List.take_succ_eq_append_getElem hka)
        have HU := Lib.hid (show lb.take (k + 1) = lb.take k ++ [lb[k]] from List.take_succ_eq_append_getElem hkb)
        clear hca hcb
        by_cases he : la[k] = lb[k]
        · have HV : Hid (la.take (k + 1) = lb.take (k + 1)) := by show _ = _; rw [HT.out, HU.out, ht.out, he]
          rw [he] at ca
          clear he HT HU ha hb
          generalize lb[k] = y at ca cb
          go_wp2
          go_quiet (fail)
          go_wp2
          go_roundw
          case rel => exact ⟨k + 1, by omega, by go_num, HV, hK.drewN _⟩
          case measure => simp [intOf]; omega
        · have hf : R = false := by
            rw [hR.out, decide_eq_false_iff_not]
            intro e
            exact he (by simp [e])
          subst hf
          clear HT HU ha hb
          generalize la[k] = x at ca he
          generalize lb[k] = y at cb he
          have hne : (x != y) = true := by rw [bne_iff_ne]; exact he
          clear he
          go_wp2
          go_quiet (fail)
          go_wp2
          go_ret
          exact ⟨rfl, hK.drewN _⟩
      · have hf : R = true := by
          rw [hR.out, decide_eq_true_iff]
          have e1 := ht.out
          rwa [List.take_of_length_le (by rw [hn.out]; omega), List.take_of_length_le (by rw [hm.out]; omega)] at e1
        subst hf
        go_wp2
        go_ret
        exact ⟨rfl, hK⟩
  · have hf : R = false := by
      rw [hR.out, decide_eq_false_iff_not]
      intro e
      exact hnm (by rw [← hn.out, ← hm.out, e])
    subst hf
    have hne : ((n : Int) != (m : Int)) = true := by rw [bne_iff_ne]; omega
    clear hnm
    go_enter Tryz.func50, Tryz.ntmps50
    go_wp2
    go_ret
    exact ⟨rfl, Keep.refl _ _⟩

end Go.Proofs.YtgifflfjhockaaaGreatDoor.W

namespace Go.Proofs.YtgifflfjhockaaaGreatDoor.W
open Go.RowKit

theorem rd_new (w : World) (E : TypeId) (cs : Array Value) : Rd (w.alloc (.cells cs E)) (some ⟨w.heap.size, 0, none⟩) cs.toList := fun _ =>
  ⟨_, _, rfl, fun j u hu => by rw [Nat.zero_add, (Blk.new w E cs).cell j]; simpa using hu⟩

theorem own_after {w W W' : World} {E size n : Nat} {v v' : Value} {xs : List Value} (ho : ∀ g, v.ownBlock = some g → Fresh w g) (hK : Keep NoB w W) (hg : W.grownBy W' v.ownBlock)
    (hv : v'.ownBlock = v.ownBlock ∨ v'.ownBlock = some W.heap.size) (hrow : W'.ownsRow 0 E size v' n xs) : Own W' E size (Fresh w) v' n xs ∧ Keep NoB w W' := by
  refine ⟨⟨hrow, fun g e => ?_⟩, hK.grown hg (fun g e h => by have := ho g e; unfold Fresh at this; omega)⟩
  rcases hv with h | h
  · exact ho g (h ▸ e)
  · rw [h] at e; cases e; exact hK.size

theorem rd_made {w : World} {E : TypeId} {cs : Array Value} {b : Nat} {xs : List Value} (hb : b = w.heap.size) (hx : xs = cs.toList) : Rd (w.alloc (.cells cs E)) (some ⟨b, 0, none⟩) xs := by
  subst hb hx; exact rd_new w E cs

/-- The zeros of types. -/
def zs (l : List Int) : List (Int × Int) := l.map fun t => (t, 0)

/-- The types of values. -/
def ts (x : List (Int × Int)) : List Int := x.map (·.1)

end Go.Proofs.YtgifflfjhockaaaGreatDoor.W

namespace Go.Proofs.YtgifflfjhockaaaGreatDoor.W
open Go.RowKit

end Go.Proofs.YtgifflfjhockaaaGreatDoor.W

namespace Go.Proofs.YtgifflfjhockaaaGreatDoor.W
open Go.RowKit

theorem gLet : Tryz.prog.globalNamed "backstay/value.letters" = some 0 := by kernel_rfl
theorem gPow : Tryz.prog.globalNamed "internal/strconv.uint64pow10" = some 3 := by kernel_rfl
theorem gSyn : Tryz.prog.globalNamed "strconv.ErrSyntax" = some 4 := by kernel_rfl
theorem gRng : Tryz.prog.globalNamed "strconv.ErrRange" = some 5 := by kernel_rfl

theorem var_keep {n : String} {g : Nat} {cs : Array Value} {w w' : World} (hg : Tryz.prog.globalNamed n = some g) (h : w.var? Tryz.prog n = some cs) (hk : Keep NoB w w') : w'.var? Tryz.prog n = some cs :=
  Go.Joins.var_stays hg h hk.toBelow (Nat.le_refl _)

def letV : Array Value := #[.int .i32 0, .int .i32 73, .int .i32 82, .int .i32 70, .int .i32 80]
/-- The letters stand. -/
def LetAt (w : World) : Prop := w.var? Tryz.prog "backstay/value.letters" = some letV
theorem LetAt.keep {w w' : World} (h : LetAt w) (hk : Keep NoB w w') : LetAt w' := var_keep gLet h hk
theorem LetAt.cell {w : World} (h : LetAt w) (i : Nat) : w.cell? ⟨0, i, none⟩ = letV[i]? := World.var?_cell gLet h i

/-- What the texts of values are made with stands. -/
structure Laid (w : World) : Prop where
  pow : Lib.TabIs Tryz.prog w "internal/strconv.uint64pow10" .u64 Lib.pow10Tab
  syn : ∃ tp p, w.var? Tryz.prog "strconv.ErrSyntax" = some #[.iface tp p]
  rng : ∃ tp p, w.var? Tryz.prog "strconv.ErrRange" = some #[.iface tp p]
theorem Laid.keep {w w' : World} (h : Laid w) (hk : Keep NoB w w') : Laid w' :=
  ⟨var_keep gPow h.pow hk, h.syn.imp fun _ ⟨p, hp⟩ => ⟨p, var_keep gSyn hp hk⟩, h.rng.imp fun _ ⟨p, hp⟩ => ⟨p, var_keep gRng hp hk⟩⟩
set_option maxRecDepth 100000 in
set_option maxHeartbeats 1000000 in
theorem letter_any (t : Int) (w : World) (h : LetAt w) :
    Calls Tryz.prog 214 #[.int .i64 t] w fun e w' => e = .returned (.string (str (letC t))) ∧ w = w' := by
  cases hk : knownB t
  · have HL := Lib.hid (letC_none hk)
    go_enter Tryz.func214, Tryz.ntmps214
    go_wp2_with (go_at_call 156; refine (known_any _ _).mono ?_; rintro e w' ⟨rfl, rfl⟩)
    go_ret
    exact ⟨by rw [HL.out]; rfl, rfl⟩
  · rcases known_cases hk with rfl | rfl | rfl | rfl
    · have c : w.cell? ⟨0, 1, none⟩ = some (.int .i32 73) := h.cell 1
      go_enter Tryz.func214, Tryz.ntmps214
      go_wp2_with (go_at_call 156; refine (known_any _ _).mono ?_; rintro e w' ⟨rfl, rfl⟩)
      go_ret
      exact ⟨rfl, rfl⟩
    · have c : w.cell? ⟨0, 2, none⟩ = some (.int .i32 82) := h.cell 2
      go_enter Tryz.func214, Tryz.ntmps214
      go_wp2_with (go_at_call 156; refine (known_any _ _).mono ?_; rintro e w' ⟨rfl, rfl⟩)
      go_ret
      exact ⟨rfl, rfl⟩
    · have c : w.cell? ⟨0, 3, none⟩ = some (.int .i32 70) := h.cell 3
      go_enter Tryz.func214, Tryz.ntmps214
      go_wp2_with (go_at_call 156; refine (known_any _ _).mono ?_; rintro e w' ⟨rfl, rfl⟩)
      go_ret
      exact ⟨rfl, rfl⟩
    · have c : w.cell? ⟨0, 4, none⟩ = some (.int .i32 80) := h.cell 4
      go_enter Tryz.func214, Tryz.ntmps214
      go_wp2_with (go_at_call 156; refine (known_any _ _).mono ?_; rintro e w' ⟨rfl, rfl⟩)
      go_ret
      exact ⟨rfl, rfl⟩

end Go.Proofs.YtgifflfjhockaaaGreatDoor.W

namespace Go.Proofs.YtgifflfjhockaaaGreatDoor.W
open Go.RowKit

end Go.Proofs.YtgifflfjhockaaaGreatDoor.W

namespace Go.Proofs.YtgifflfjhockaaaGreatDoor.A
open Go.ChangeShapes Go.WideShapes Go.ChangeAt Go.RowKit

end Go.Proofs.YtgifflfjhockaaaGreatDoor.A

namespace Go.Proofs.YtgifflfjhockaaaGreatDoor.A
open Go.RowKit

theorem gBin : Tryz.prog.globalNamed "backstay/alu.binNames" = some 1 := by kernel_rfl
theorem gUn : Tryz.prog.globalNamed "backstay/alu.unNames" = some 2 := by kernel_rfl
theorem var_keepA {n : String} {g : Nat} {cs : Array Value} {w w' : World} (hg : Tryz.prog.globalNamed n = some g) (h : w.var? Tryz.prog n = some cs) (hk : Keep NoB w w') : w'.var? Tryz.prog n = some cs :=
  Go.Joins.var_stays hg h hk.toBelow (Nat.le_refl _)

/-- The names stand. -/
structure NamesAt (w : World) : Prop where
  bin : w.var? Tryz.prog "backstay/alu.binNames" = some (svs binNs).toArray
  un : w.var? Tryz.prog "backstay/alu.unNames" = some (svs unNs).toArray
theorem NamesAt.keep (w w' : World) (h : NamesAt w) (hk : Keep NoB w w') : NamesAt w' := ⟨var_keepA gBin h.bin hk, var_keepA gUn h.un hk⟩

end Go.Proofs.YtgifflfjhockaaaGreatDoor.A

namespace Go.Proofs.YtgifflfjhockaaaGreatDoor.O
open Go.RowKit

/-- What the texts of operands are made with stands. -/
structure LaidO (w : World) : Prop where
  lets : W.LetAt w
  names : A.NamesAt w
  lib : W.Laid w
theorem LaidO.keep {w w' : World} (h : LaidO w) (hk : Keep NoB w w') : LaidO w' := ⟨h.lets.keep hk, A.NamesAt.keep _ _ h.names hk, h.lib.keep hk⟩
def I64 (n : Int) : Prop := -9223372036854775808 ≤ n ∧ n ≤ 9223372036854775807

theorem nameAt_len {l : List (List UInt8)} {m : Nat} (h : l.all (fun s => decide (s.length ≤ m)) = true) (n : Int) : (A.nameAt l n).length ≤ m := by
  unfold A.nameAt
  split
  · rcases Nat.lt_or_ge n.toNat l.length with hlt | hge
    · rw [A.getD_at hlt]
      exact of_decide_eq_true (List.all_eq_true.1 h _ (List.getElem_mem hlt))
    · rw [A.getD_past hge]; exact Nat.zero_le _
  · exact Nat.zero_le _
theorem word_len (k n : Int) (hn : I64 n) : (word k n).length ≤ 21 := by
  unfold word
  split
  · unfold W.letC
    repeat' split
    all_goals simp
  · split
    · exact Nat.le_trans (nameAt_len (m := 6) (by decide) n) (by omega)
    · split
      · exact Nat.le_trans (nameAt_len (m := 6) (by decide) n) (by omega)
      · exact Lib.itoa_length_le n hn.1 hn.2

end Go.Proofs.YtgifflfjhockaaaGreatDoor.O

namespace Go.Proofs.YtgifflfjhockaaaGreatDoor.O
open Go.RowKit

set_option maxHeartbeats 1000000 in
theorem rin_any (k n : Int) (p : Bool) (w : World) (hp : Hid (inK k n = p)) (h0 : 0 ≤ k) (h1 : k ≤ 10) (hI : I64 n) :
    Calls Tryz.prog 189 #[.int .i64 k, .int .i64 n] w fun e w' => e = .returned (.bool p) ∧ Keep NoB w w' := by
  by_cases hk : k = 1
  · subst hk
    have : p = true := by
      rw [← hp.out]
      exact decide_eq_true hI
    subst this
    clear hp h0 h1 hI
    go_enter Tryz.func189, Tryz.ntmps189
    go_wp2
    go_ret
    exact ⟨rfl, Keep.refl _ _⟩
  · have hq : (k == 1) = false := by rw [beq_eq_false_iff_ne]; exact hk
    have HL := Lib.hid (fun w => rleast_any k w h0 h1 hk)
    have HM := Lib.hid (fun w => rmost_any k w h0 h1 hk)
    have hd : Hid (decide (lo k ≤ n ∧ n ≤ hi k) = p) := hp
    clear hp h0 h1 hk hI
    generalize lo k = L at HL hd
    generalize hi k = M at HM hd
    cases d1 : decide (L ≤ n)
    · have : p = false := by rw [← hd.out]; exact decide_eq_false fun h => of_decide_eq_false d1 h.1
      subst this
      clear hd
      go_enter Tryz.func189, Tryz.ntmps189
      go_wp2_with fail
      refine (HL.out _).mono ?_
      rintro e w1 ⟨rfl, rfl⟩
      go_wp2
      go_ret
      exact ⟨rfl, Keep.refl _ _⟩
    · cases d2 : decide (n ≤ M)
      · have : p = false := by rw [← hd.out]; exact decide_eq_false fun h => of_decide_eq_false d2 h.2
        subst this
        clear hd
        go_enter Tryz.func189, Tryz.ntmps189
        go_wp2_with fail
        refine (HL.out _).mono ?_
        rintro e w1 ⟨rfl, rfl⟩
        go_wp2_with fail
        refine (HM.out _).mono ?_
        rintro e w1 ⟨rfl, k1⟩
        go_wp2
        go_ret
        exact ⟨rfl, k1⟩
      · have : p = true := by rw [← hd.out]; exact decide_eq_true ⟨of_decide_eq_true d1, of_decide_eq_true d2⟩
        subst this
        clear hd
        go_enter Tryz.func189, Tryz.ntmps189
        go_wp2_with fail
        refine (HL.out _).mono ?_
        rintro e w1 ⟨rfl, rfl⟩
        go_wp2_with fail
        refine (HM.out _).mono ?_
        rintro e w1 ⟨rfl, k1⟩
        go_wp2
        go_ret
        exact ⟨rfl, k1⟩

theorem blk_inst {w : World} {g : Nat} {t : TypeId} {a0 a1 a2 : Value} (h : Blk w g t #[a0, a1, a2]) : w.cell? ⟨g, 0, none⟩ = some a0 ∧ w.cell? ⟨g, 1, none⟩ = some a1 ∧ w.cell? ⟨g, 2, none⟩ = some a2 := ⟨h.cell 0, h.cell 1, h.cell 2⟩

set_option maxHeartbeats 2000000 in
theorem rcheck_any (op a b : Int) (w : World) (ha : I64 a) (hb : I64 b) :
    Calls Tryz.prog 151 #[instV op a b] w fun e w' => e = .returned (.int .i64 (chk op a b)) ∧ Keep NoB w w' := by
  obtain ⟨j0, j1, l0, l1⟩ := kinds_ok op
  obtain ⟨p, hp⟩ : ∃ p, Hid (inK (rowAt op).ka a = p) := ⟨_, rfl⟩
  obtain ⟨q, hq⟩ : ∃ q, Hid (inK (rowAt op).kb b = q) := ⟨_, rfl⟩
  have HA := Lib.hid (fun w => rin_any (rowAt op).ka a p w hp j0 j1 ha)
  have HB := Lib.hid (fun w => rin_any (rowAt op).kb b q w hq l0 l1 hb)
  have HK := Lib.hid (fun w => rkinds_any op w)
  have HX : Hid (chk op a b = if (isOp op && p && q) = true then 0 else 40) := by show _ = _; unfold chk okI; rw [hp.out, hq.out]
  clear j0 j1 l0 l1 hp hq ha hb
  generalize (rowAt op).ka = j at HA HK
  generalize (rowAt op).kb = l at HB HK
  generalize chk op a b = c at HX ⊢
  have bx0 := Blk.new w 63 #[.int .i64 op, .int .i64 a, .int .i64 b]
  have gK := (Keep.refl NoB w).alloc (.cells #[.int .i64 op, .int .i64 a, .int .i64 b] 63)
  go_enter Tryz.func151, Tryz.ntmps151
  go_wp2_with fail
  refine (HK.out _).mono ?_
  rintro e w1 ⟨rfl, rfl⟩
  go_wp2_with fail
  refine (HA.out _).mono ?_
  rintro e w2 ⟨rfl, k2⟩
  have bx := bx0.keep k2 id
  replace gK := keepN gK k2
  clear k2 bx0
  obtain ⟨x0, x1, x2⟩ := blk_inst bx
  go_wp2_with fail
  refine (HB.out _).mono ?_
  rintro e w3 ⟨rfl, k3⟩
  have bx3 := bx.keep k3 id
  replace gK := keepN gK k3
  clear k3 bx x0 x1 x2 HA HB HK
  obtain ⟨x0, x1, x2⟩ := blk_inst bx3
  cases ho : isOp op
  · have hn := isOp_no ho
    have hc : c = 40 := by rw [HX.out, ho]; rfl
    subst hc
    by_cases h0 : op < 0
    · have d0 : decide (op < 0) = true := by simpa using h0
      clear hn HX ho h0
      go_wp2
      go_ret
      exact ⟨rfl, gK⟩
    · have d0 : decide (op < 0) = false := by simpa using h0
      have d1 : decide (30 ≤ op) = true := by rw [decide_eq_true_iff]; omega
      clear hn HX ho h0
      go_wp2
      go_ret
      exact ⟨rfl, gK⟩
  · have hn := isOp_yes ho
    have d0 : decide (op < 0) = false := by rw [decide_eq_false_iff_not]; omega
    have d1 : decide (30 ≤ op) = false := by rw [decide_eq_false_iff_not]; omega
    cases p
    · have hc : c = 40 := by rw [HX.out, ho]; rfl
      subst hc
      clear hn HX ho
      go_wp2
      go_ret
      exact ⟨rfl, gK⟩
    · cases q
      · have hc : c = 40 := by rw [HX.out, ho]; rfl
        subst hc
        clear hn HX ho
        go_wp2
        go_ret
        exact ⟨rfl, gK⟩
      · have hc : c = 0 := by rw [HX.out, ho]; rfl
        subst hc
        clear hn HX ho
        go_wp2
        go_ret
        exact ⟨rfl, gK⟩

end Go.Proofs.YtgifflfjhockaaaGreatDoor.O

namespace Go.Proofs.YtgifflfjhockaaaGreatDoor.O
open Go.RowKit

theorem op_cases {op : Int} (h : isOp op = true) : op = 0 ∨ op = 1 ∨ op = 2 ∨ op = 3 ∨ op = 4 ∨ op = 5 ∨ op = 6 ∨ op = 7 ∨ op = 8 ∨ op = 9 ∨ op = 10 ∨ op = 11 ∨ op = 12 ∨ op = 13 ∨ op = 14 ∨ op = 15 ∨ op = 16 ∨ op = 17 ∨ op = 18 ∨ op = 19 ∨ op = 20 ∨ op = 21 ∨ op = 22 ∨ op = 23 ∨ op = 24 ∨ op = 25 ∨ op = 26 ∨ op = 27 ∨ op = 28 ∨ op = 29 := by
  have := isOp_yes h
  omega
theorem fin_at {op : Int} (h : isOp op = true) : (rowAt op).fin = ((op == 18) || ((op == 24) || ((op == 25) || (op == 27)))) := by
  rcases op_cases h with rfl | rfl | rfl | rfl | rfl | rfl | rfl | rfl | rfl | rfl | rfl | rfl | rfl | rfl | rfl | rfl | rfl | rfl | rfl | rfl | rfl | rfl | rfl | rfl | rfl | rfl | rfl | rfl | rfl | rfl <;> rfl
theorem ten_at {op : Int} (h : isOp op = true) : decide ((rowAt op).ka = 10) = ((op == 18) || (op == 19)) := by
  rcases op_cases h with rfl | rfl | rfl | rfl | rfl | rfl | rfl | rfl | rfl | rfl | rfl | rfl | rfl | rfl | rfl | rfl | rfl | rfl | rfl | rfl | rfl | rfl | rfl | rfl | rfl | rfl | rfl | rfl | rfl | rfl <;> rfl
theorem rcheck_gen (op a b c : Int) (w : World) (h : chk op a b = c) (ha : I64 a) (hb : I64 b) :
    Calls Tryz.prog 151 #[instV op a b] w fun e w' => e = .returned (.int .i64 c) ∧ Keep NoB w w' := by subst h; exact rcheck_any op a b w ha hb

set_option maxHeartbeats 2000000 in
theorem rends_any (op a b : Int) (w : World) (ha : I64 a) (hb : I64 b) :
    Calls Tryz.prog 152 #[instV op a b] w fun e w' => e = .returned (.bool (endsI op a b)) ∧ Keep NoB w w' := by
  have bx0 := Blk.new w 63 #[.int .i64 op, .int .i64 a, .int .i64 b]
  have gK := (Keep.refl NoB w).alloc (.cells #[.int .i64 op, .int .i64 a, .int .i64 b] 63)
  cases hok : okI op a b
  · have HC := Lib.hid (fun w => rcheck_gen op a b 40 w (by unfold chk; rw [hok]; rfl) ha hb)
    have HX : Hid (endsI op a b = false) := by show _ = _; unfold endsI; rw [rowR_no hok]; rfl
    clear hok ha hb
    go_enter Tryz.func152, Tryz.ntmps152
    go_wp2_with fail
    refine (HC.out _).mono ?_
    rintro e w1 ⟨rfl, k1⟩
    go_wp2
    go_ret
    exact ⟨by rw [HX.out]; rfl, keepN gK k1⟩
  · have HC := Lib.hid (fun w => rcheck_gen op a b 0 w (by unfold chk; rw [hok]; rfl) ha hb)
    have HX : Hid (endsI op a b = ((op == 18) || ((op == 24) || ((op == 25) || (op == 27))))) := by show _ = _; unfold endsI; rw [rowR_ok hok, fin_at (ok_op hok).1]
    clear hok ha hb
    cases e1 : op == 18
    · cases e2 : op == 24
      · cases e3 : op == 25
        · cases e4 : op == 27
          · rw [e1, e2, e3, e4] at HX
            go_enter Tryz.func152, Tryz.ntmps152
            go_wp2_with fail
            refine (HC.out _).mono ?_
            rintro e w1 ⟨rfl, k1⟩
            have bx := bx0.keep k1 id
            obtain ⟨x0, x1, x2⟩ := blk_inst bx
            go_wp2
            go_ret
            exact ⟨by rw [HX.out]; rfl, keepN gK k1⟩
          · rw [e1, e2, e3, e4] at HX
            go_enter Tryz.func152, Tryz.ntmps152
            go_wp2_with fail
            refine (HC.out _).mono ?_
            rintro e w1 ⟨rfl, k1⟩
            have bx := bx0.keep k1 id
            obtain ⟨x0, x1, x2⟩ := blk_inst bx
            go_wp2
            go_ret
            exact ⟨by rw [HX.out]; rfl, keepN gK k1⟩
        · rw [e1, e2, e3] at HX
          go_enter Tryz.func152, Tryz.ntmps152
          go_wp2_with fail
          refine (HC.out _).mono ?_
          rintro e w1 ⟨rfl, k1⟩
          have bx := bx0.keep k1 id
          obtain ⟨x0, x1, x2⟩ := blk_inst bx
          go_wp2
          go_ret
          exact ⟨by rw [HX.out]; rfl, keepN gK k1⟩
      · rw [e1, e2] at HX
        go_enter Tryz.func152, Tryz.ntmps152
        go_wp2_with fail
        refine (HC.out _).mono ?_
        rintro e w1 ⟨rfl, k1⟩
        have bx := bx0.keep k1 id
        obtain ⟨x0, x1, x2⟩ := blk_inst bx
        go_wp2
        go_ret
        exact ⟨by rw [HX.out]; rfl, keepN gK k1⟩
    · rw [e1] at HX
      go_enter Tryz.func152, Tryz.ntmps152
      go_wp2_with fail
      refine (HC.out _).mono ?_
      rintro e w1 ⟨rfl, k1⟩
      have bx := bx0.keep k1 id
      obtain ⟨x0, x1, x2⟩ := blk_inst bx
      go_wp2
      go_ret
      exact ⟨by rw [HX.out]; rfl, keepN gK k1⟩

set_option maxHeartbeats 2000000 in
theorem rgoes_any (op a b : Int) (w : World) (ha : I64 a) (hb : I64 b) :
    Calls Tryz.prog 150 #[instV op a b] w fun e w' => e = .returned (.tuple #[.int .i64 (goesN op a b), .bool (goesI op a b)]) ∧ Keep NoB w w' := by
  have bx0 := Blk.new w 63 #[.int .i64 op, .int .i64 a, .int .i64 b]
  have gK := (Keep.refl NoB w).alloc (.cells #[.int .i64 op, .int .i64 a, .int .i64 b] 63)
  cases hok : okI op a b
  · have HC := Lib.hid (fun w => rcheck_gen op a b 40 w (by unfold chk; rw [hok]; rfl) ha hb)
    have h1 : goesI op a b = false := by unfold goesI; rw [rowR_no hok]; rfl
    have HX : Hid (goesN op a b = 0 ∧ goesI op a b = false) := ⟨by unfold goesN; rw [if_neg (by rw [h1]; decide)], h1⟩
    clear hok ha hb h1
    go_enter Tryz.func150, Tryz.ntmps150
    go_wp2_with fail
    refine (HC.out _).mono ?_
    rintro e w1 ⟨rfl, k1⟩
    go_wp2
    go_ret2
    exact ⟨pr2 HX.out.1.symm HX.out.2.symm, keepN gK k1⟩
  · have HC := Lib.hid (fun w => rcheck_gen op a b 0 w (by unfold chk; rw [hok]; rfl) ha hb)
    have h0 : goesI op a b = ((op == 18) || (op == 19)) := by unfold goesI; rw [rowR_ok hok, ten_at (ok_op hok).1]
    clear hok ha hb
    by_cases u1 : op = 18
    · have e1 : (op != 18) = false := by simp [u1]
      have h1 : goesI op a b = true := by rw [h0, u1]; rfl
      have HX : Hid (goesN op a b = a ∧ goesI op a b = true) := ⟨by unfold goesN; rw [if_pos h1], h1⟩
      clear h0 h1 u1
      go_enter Tryz.func150, Tryz.ntmps150
      go_wp2_with fail
      refine (HC.out _).mono ?_
      rintro e w1 ⟨rfl, k1⟩
      have bx := bx0.keep k1 id
      obtain ⟨x0, x1, x2⟩ := blk_inst bx
      go_wp2
      go_ret2
      exact ⟨pr2 HX.out.1.symm HX.out.2.symm, keepN gK k1⟩
    · have e1 : (op != 18) = true := by simp [u1]
      by_cases u2 : op = 19
      · have e2 : (op != 19) = false := by simp [u2]
        have h1 : goesI op a b = true := by rw [h0, u2]; rfl
        have HX : Hid (goesN op a b = a ∧ goesI op a b = true) := ⟨by unfold goesN; rw [if_pos h1], h1⟩
        clear h0 h1 u1 u2
        go_enter Tryz.func150, Tryz.ntmps150
        go_wp2_with fail
        refine (HC.out _).mono ?_
        rintro e w1 ⟨rfl, k1⟩
        have bx := bx0.keep k1 id
        obtain ⟨x0, x1, x2⟩ := blk_inst bx
        go_wp2
        go_ret2
        exact ⟨pr2 HX.out.1.symm HX.out.2.symm, keepN gK k1⟩
      · have e2 : (op != 19) = true := by simp [u2]
        have h1 : goesI op a b = false := by rw [h0]; simp [u1, u2]
        have HX : Hid (goesN op a b = 0 ∧ goesI op a b = false) := ⟨by unfold goesN; rw [if_neg (by rw [h1]; decide)], h1⟩
        clear h0 h1 u1 u2
        go_enter Tryz.func150, Tryz.ntmps150
        go_wp2_with fail
        refine (HC.out _).mono ?_
        rintro e w1 ⟨rfl, k1⟩
        have bx := bx0.keep k1 id
        obtain ⟨x0, x1, x2⟩ := blk_inst bx
        go_wp2
        go_ret2
        exact ⟨pr2 HX.out.1.symm HX.out.2.symm, keepN gK k1⟩

end Go.Proofs.YtgifflfjhockaaaGreatDoor.O

namespace Go.Proofs.YtgifflfjhockaaaGreatDoor.C
open Go.RowKit O

theorem rgoes_gen (op a b to : Int) (t : Bool) (w : World) (h1 : goesN op a b = to) (h2 : goesI op a b = t) (ha : O.I64 a) (hb : O.I64 b) :
    Calls Tryz.prog 150 #[instV op a b] w fun e w' => e = .returned (.tuple #[.int .i64 to, .bool t]) ∧ Keep NoB w w' := by subst h1 h2; exact rgoes_any op a b w ha hb
theorem rends_gen (op a b : Int) (t : Bool) (w : World) (h : endsI op a b = t) (ha : O.I64 a) (hb : O.I64 b) :
    Calls Tryz.prog 152 #[instV op a b] w fun e w' => e = .returned (.bool t) ∧ Keep NoB w w' := by subst h; exact rends_any op a b w ha hb
/-- The numbers of a list fit. -/
def AllI (l : List I3) : Prop := ∀ x ∈ l, O.I64 x.2.1 ∧ O.I64 x.2.2

set_option maxRecDepth 100000 in
set_option maxHeartbeats 4000000 in
theorem rcchk_any (A : Option Addr) (l : List I3) (n c : Nat) (w : World) (hr : Rd w A (iis l)) (hn : Hid (l.length = n)) (hI : Hid (AllI l)) (hm : n ≤ 9223372036854775807) (R : Int) (hR : Hid (chkB l = R)) :
    Calls Tryz.prog 101 #[.slice A n c] w fun e w' => e = .returned (.int .i64 R) ∧ Keep NoB w w' := by
  by_cases h0 : n = 0
  · subst h0
    obtain rfl : 50 = R := by rw [← hR.out, List.length_eq_zero_iff.1 hn.out]; rfl
    go_enter Tryz.func101, Tryz.ntmps101
    go_wp2
    go_ret
    exact ⟨rfl, Keep.refl _ _⟩
  by_cases h5 : 512 < n
  · obtain rfl : 50 = R := by rw [← hR.out, chkB_no (okB_long (by rw [hn.out]; omega))]
    have hq : decide ((512 : Int) < (n : Int)) = true := by rw [decide_eq_true_iff]; omega
    have hz : decide ((n : Int) < 1) = false := by rw [decide_eq_false_iff_not]; omega
    clear h5 h0
    go_enter Tryz.func101, Tryz.ntmps101
    go_wp2
    go_ret
    exact ⟨rfl, Keep.refl _ _⟩
  obtain ⟨m, rfl⟩ : ∃ m, n = m + 1 := ⟨n - 1, by omega⟩
  have hz2 : decide ((m : Int) + 1 < 1) = false := by rw [decide_eq_false_iff_not]; omega
  have hq2 : decide ((512 : Int) < (m : Int) + 1) = false := by rw [decide_eq_false_iff_not]; omega
  have hm5 : m + 1 ≤ 512 := by omega
  have hl0 : 0 < l.length := by rw [hn.out]; omega
  obtain ⟨g, off, rfl, hc⟩ := rdJ_at hr hl0
  have HC := Lib.hid hc
  clear hc hr h0 h5
  go_enter Tryz.func101, Tryz.ntmps101
  go_wp2
  go_loopw [4] (fun i wr => ∃ k : Nat, k ≤ m + 1 ∧ i = .int .i64 k ∧ Hid ((l.take k).all (itemB (m + 1)) = true) ∧ Keep NoB w wr) (fun i _ => m + 1 - (intOf i).toNat)
  case atStart => exact ⟨0, Nat.zero_le _, rfl, rfl, Keep.refl _ _⟩
  case round =>
    obtain ⟨k, hk, rfl, hall, hK⟩ := hrel
    by_cases hlt : k < m + 1
    · have hkl : k < l.length := by rw [hn.out]; exact hlt
      obtain ⟨d0, d1, d2⟩ := HC.out k hkl
      have c0 := hK.cell d0 id
      have c1 := hK.cell d1 id
      have c2 := hK.cell d2 id
      have HT := Lib.hid (show l.take (k + 1) = l.take k ++ [l[k]] from List.take_succ_eq_append_getElem hkl)
      have HN : Hid (itemB l.length l[k] = false → 50 = R) := fun h => by rw [← hR.out, chkB_no (okB_item (all_no hkl h))]
      have hab := hI.out l[k] (List.getElem_mem hkl)
      rw [hn.out] at HN
      generalize l[k] = x at d0 d1 d2 c0 c1 c2 HT HN hab
      obtain ⟨op, a, b⟩ := x
      dsimp only at d0 d1 d2 c0 c1 c2 hab
      have ha := Lib.hid hab.1
      have hb' := Lib.hid hab.2
      have HD : Hid (∀ w', Keep NoB w w' → w'.cell? ⟨g, off + k * 3, none⟩ = some (.int .i64 op) ∧ w'.cell? ⟨g, off + k * 3 + 1, none⟩ = some (.int .i64 a) ∧ w'.cell? ⟨g, off + k * 3 + 2, none⟩ = some (.int .i64 b)) := fun w' h => ⟨h.cell d0 id, h.cell d1 id, h.cell d2 id⟩
      obtain ⟨to, hto⟩ : ∃ to, goesN op a b = to := ⟨_, rfl⟩
      have hb : 0 ≤ to ∧ to ≤ 511 := by rw [← hto]; exact gN_in (op, a, b)
      obtain ⟨t, htt⟩ : ∃ t, goesI op a b = t := ⟨_, rfl⟩
      have HG := Lib.hid (fun w => rgoes_gen op a b to t w hto htt ha.out hb'.out)
      clear d0 d1 d2 hab
      cases ho : okI op a b
      · obtain rfl := HN.out (item_no1 ho)
        have HO := Lib.hid (fun w => rcheck_gen op a b 40 w (by unfold chk; rw [ho]; rfl) ha.out hb'.out)
        clear ho hto HN HT hall hR htt
        go_wp2_with fail
        refine (HG.out _).mono ?_
        rintro e w2 ⟨rfl, k2⟩
        have gK := keepN hK k2
        obtain ⟨x0, x1, x2⟩ := HD.out _ gK
        clear c0 c1 c2
        go_wp2_with (go_at_call 151; refine (HO.out _).mono ?_; rintro e w3 ⟨rfl, k3⟩)
        go_ret
        exact ⟨rfl, keepN gK k3⟩
      have HO := Lib.hid (fun w => rcheck_gen op a b 0 w (by unfold chk; rw [ho]; rfl) ha.out hb'.out)
      by_cases ht : to < ((m + 1 : Nat) : Int)
      · have ht2 : ¬ ((m : Int) + 1 ≤ to) := by omega
        have ht3 : decide ((m : Int) + 1 ≤ to) = false := by rw [decide_eq_false_iff_not]; omega
        have ha2 : Hid ((l.take (k + 1)).all (itemB (m + 1)) = true) := by
          show _ = _
          rw [HT.out, List.all_append, hall.out]
          simp only [List.all_cons, List.all_nil, Bool.and_true, Bool.true_and]
          exact item_yes ho (by show goesN op a b < _; rw [hto]; exact ht)
        clear ho hto HN HT hall hR ht htt
        cases t
        all_goals
          go_wp2_with fail
          refine (HG.out _).mono ?_
          rintro e w2 ⟨rfl, k2⟩
          have gK := keepN hK k2
          obtain ⟨x0, x1, x2⟩ := HD.out _ gK
          clear c0 c1 c2
          go_wp2_with (go_at_call 151; refine (HO.out _).mono ?_; rintro e w3 ⟨rfl, k3⟩)
          go_roundw
          case rel => exact ⟨k + 1, by omega, by go_num, ha2, keepN gK k3⟩
          case measure => simp [intOf]; omega
      · obtain rfl := HN.out (item_no2 (by show ¬ goesN op a b < _; rw [hto]; exact ht))
        have ht2 : ((m : Int) + 1 ≤ to) := by omega
        obtain rfl : t = true := by
          cases t
          · have := gN_no (x := (op, a, b)) htt
            rw [show gN (op, a, b) = to from hto] at this
            omega
          · rfl
        clear ho hto HN HT hall hR ht htt
        go_wp2_with fail
        refine (HG.out _).mono ?_
        rintro e w2 ⟨rfl, k2⟩
        have gK := keepN hK k2
        obtain ⟨x0, x1, x2⟩ := HD.out _ gK
        clear c0 c1 c2
        go_wp2_with (go_at_call 151; refine (HO.out _).mono ?_; rintro e w3 ⟨rfl, k3⟩)
        go_ret
        exact ⟨rfl, keepN gK k3⟩
    · obtain rfl : k = m + 1 := by omega
      rw [List.take_of_length_le (by rw [hn.out]; omega)] at hall
      have hml : m < l.length := by rw [hn.out]; omega
      obtain ⟨d0, d1, d2⟩ := HC.out m hml
      have c0 := hK.cell d0 id
      have c1 := hK.cell d1 id
      have c2 := hK.cell d2 id
      have hlast : Hid (lastB l = eB l[m]) := by
        show _ = _
        rw [lastB_at hl0]
        congr 2
        rw [hn.out]; omega
      have hab := hI.out l[m] (List.getElem_mem hml)
      clear d0 d1 d2 HC
      generalize l[m] = x at c0 c1 c2 hlast hab
      obtain ⟨op, a, b⟩ := x
      dsimp only at c0 c1 c2 hab
      cases he : endsI op a b
      · obtain rfl : 50 = R := by rw [← hR.out, chkB_no (okB_last (by rw [hlast.out]; exact he))]
        have HE := Lib.hid (fun w => rends_gen op a b _ w he hab.1 hab.2)
        clear he hlast hR hab hall
        go_wp2_with (go_at_call 152; refine (HE.out _).mono ?_; rintro e w1 ⟨rfl, k1⟩)
        go_ret
        exact ⟨rfl, keepN hK k1⟩
      · obtain rfl : 0 = R := by
          rw [← hR.out, chkB_ok (okB_mk (by rw [hn.out]; exact hm5) (by rw [hlast.out]; exact he) (by rw [hn.out]; exact hall.out))]
        have HE := Lib.hid (fun w => rends_gen op a b _ w he hab.1 hab.2)
        clear he hlast hR hab hall
        go_wp2_with (go_at_call 152; refine (HE.out _).mono ?_; rintro e w1 ⟨rfl, k1⟩)
        go_ret
        exact ⟨rfl, keepN hK k1⟩

set_option maxRecDepth 100000 in
set_option maxHeartbeats 4000000 in
theorem lists_any (A B : Option Addr) (la lb : List I3) (n m c d : Nat) (w : World) (ha : Rd w A (iis la)) (hb : Rd w B (iis lb)) (hn : Hid (la.length = n)) (hm : Hid (lb.length = m))
    (h1 : n ≤ 9223372036854775807) (h2 : m ≤ 9223372036854775807) (R : Bool) (hR : Hid (R = decide (la = lb))) :
    Calls Tryz.prog 93 #[.slice A n c, .slice B m d] w fun e w' => e = .returned (.bool R) ∧ Keep NoB w w' := by
  by_cases hnm : n = m
  · subst hnm
    go_enter Tryz.func93, Tryz.ntmps93
    go_wp2
    go_loopw [5] (fun i wr => ∃ k : Nat, k ≤ n ∧ i = .int .i64 k ∧ Hid (la.take k = lb.take k) ∧ Keep NoB w wr) (fun i _ => n - (intOf i).toNat)
    case atStart => exact ⟨0, Nat.zero_le _, rfl, rfl, Keep.refl _ _⟩
    case round =>
      obtain ⟨k, hk, rfl, ht, hK⟩ := hrel
      by_cases hlt : k < n
      · have hka : k < la.length := by rw [hn.out]; exact hlt
        have hkb : k < lb.length := by rw [hm.out]; exact hlt
        obtain ⟨ga, oa, rfl, hca⟩ := rdJ_at ha (by omega)
        obtain ⟨gb, ob, rfl, hcb⟩ := rdJ_at hb (by omega)
        have ca0 := hK.cell (hca k hka).1 id
        have ca1 := hK.cell (hca k hka).2.1 id
        have ca2 := hK.cell (hca k hka).2.2 id
        have cb0 := hK.cell (hcb k hkb).1 id
        have cb1 := hK.cell (hcb k hkb).2.1 id
        have cb2 := hK.cell (hcb k hkb).2.2 id
        have HT := Lib.hid (show la.take (k + 1) = la.take k ++ [la[k]] from List.take_succ_eq_append_getElem hka)
        have HU := Lib.hid (show lb.take (k + 1) = lb.take k ++ [lb[k]] from List.take_succ_eq_append_getElem hkb)
        clear hca hcb
        by_cases he : la[k] = lb[k]
        · have HV : Hid (la.take (k + 1) = lb.take (k + 1)) := by show _ = _; rw [HT.out, HU.out, ht.out, he]
          rw [he] at ca0 ca1 ca2
          clear he HT HU ha hb
          generalize lb[k] = y at ca0 ca1 ca2 cb0 cb1 cb2
          obtain ⟨y0, y1, y2⟩ := y
          dsimp only at ca0 ca1 ca2 cb0 cb1 cb2
          go_wp2
          go_quiet (fail)
          go_wp2
          go_roundw
          case rel => exact ⟨k + 1, by omega, by go_num, HV, hK.drewN _⟩
          case measure => simp [intOf]; omega
        · have hf : R = false := by
            rw [hR.out, decide_eq_false_iff_not]
            intro e
            exact he (by simp [e])
          subst hf
          clear HT HU ha hb
          generalize la[k] = x at ca0 ca1 ca2 he
          generalize lb[k] = y at cb0 cb1 cb2 he
          obtain ⟨x0, x1, x2⟩ := x
          obtain ⟨y0, y1, y2⟩ := y
          dsimp only at ca0 ca1 ca2 cb0 cb1 cb2
          by_cases h0 : x0 = y0
          · subst h0
            by_cases h3 : x1 = y1
            · subst h3
              have hne : (x2 == y2) = false := by rw [beq_eq_false_iff_ne]; rintro rfl; exact he rfl
              clear he
              go_wp2
              go_quiet (fail)
              go_wp2
              go_ret
              exact ⟨rfl, hK.drewN _⟩
            · have hne : (x1 == y1) = false := by rw [beq_eq_false_iff_ne]; exact h3
              clear he h3
              go_wp2
              go_quiet (fail)
              go_wp2
              go_ret
              exact ⟨rfl, hK.drewN _⟩
          · have hne : (x0 == y0) = false := by rw [beq_eq_false_iff_ne]; exact h0
            clear he h0
            go_wp2
            go_quiet (fail)
            go_wp2
            go_ret
            exact ⟨rfl, hK.drewN _⟩
      · have hf : R = true := by
          rw [hR.out, decide_eq_true_iff]
          have e1 := ht.out
          rwa [List.take_of_length_le (by rw [hn.out]; omega), List.take_of_length_le (by rw [hm.out]; omega)] at e1
        subst hf
        go_wp2
        go_ret
        exact ⟨rfl, hK⟩
  · have hf : R = false := by
      rw [hR.out, decide_eq_false_iff_not]
      intro e
      exact hnm (by rw [← hn.out, ← hm.out, e])
    subst hf
    have hne : ((n : Int) != (m : Int)) = true := by rw [bne_iff_ne]; omega
    clear hnm
    go_enter Tryz.func93, Tryz.ntmps93
    go_wp2
    go_ret
    exact ⟨rfl, Keep.refl _ _⟩

end Go.Proofs.YtgifflfjhockaaaGreatDoor.C

namespace Go.Proofs.YtgifflfjhockaaaGreatDoor.F
open Go.RowKit W

/-- A function's value: its name, and where its lists lie. -/
structure FV where
  S : ByteArray
  A : Option Addr
  na : Nat
  ca : Nat
  B : Option Addr
  nb : Nat
  cb : Nat
  L : Option Addr
  nl : Nat
  cl : Nat
  D : Option Addr
  nd : Nat
  cd : Nat
def FV.cells (v : FV) : Array Value := #[.string v.S, .slice v.A v.na v.ca, .slice v.B v.nb v.cb, .slice v.L v.nl v.cl, .slice v.D v.nd v.cd]
def FV.val (v : FV) : Value := .agg v.cells
/-- What its lists hold, wherever the value itself lies; numbers fit an int64. -/
structure FnAt (w : World) (v : FV) (f : Fu) : Prop where
  nm : v.S.data.toList = f.nm
  ra : Rd w v.A (ivs f.ar)
  rb : Rd w v.B (ivs f.rs)
  rl : Rd w v.L (ivs f.lc)
  rd : Rd w v.D (C.iis f.bd)
  la : f.ar.length = v.na
  lb : f.rs.length = v.nb
  ll : f.lc.length = v.nl
  ld : f.bd.length = v.nd
  hI : C.AllI f.bd
/-- It is no greater than statements go through. -/
structure SmF (v : FV) : Prop where
  sz : v.S.size ≤ 100
  na : v.na ≤ 100
  nb : v.nb ≤ 100
  nl : v.nl ≤ 100
  nd : v.nd ≤ 600
theorem FnAt.keep {O : Nat → Prop} {w w' : World} {v : FV} {f : Fu} (h : FnAt w v f) (hk : Keep O w w') (hO : ∀ k, k < w.heap.size → ¬ O k) : FnAt w' v f :=
  have h2 : Keep NoB w w' := hk.mono (fun k ho hl => absurd ho (hO k hl))
  ⟨h.nm, h.ra.keepN h2, h.rb.keepN h2, h.rl.keepN h2, h.rd.keepN h2, h.la, h.lb, h.ll, h.ld, h.hI⟩
theorem FnAt.keepN {w w' : World} {v : FV} {f : Fu} (h : FnAt w v f) (hk : Keep NoB w w') : FnAt w' v f := h.keep hk (fun _ _ => id)
theorem sz_len {S : ByteArray} {s : List UInt8} (h : S.data.toList = s) : S.size = s.length := by rw [← h]; rfl
theorem blk5 {w : World} {g : Nat} {t : TypeId} {v : FV} (h : Blk w g t v.cells) : w.cell? ⟨g, 0, none⟩ = some (.string v.S) ∧ w.cell? ⟨g, 1, none⟩ = some (.slice v.A v.na v.ca) ∧ w.cell? ⟨g, 2, none⟩ = some (.slice v.B v.nb v.cb) ∧
    w.cell? ⟨g, 3, none⟩ = some (.slice v.L v.nl v.cl) ∧ w.cell? ⟨g, 4, none⟩ = some (.slice v.D v.nd v.cd) := ⟨h.cell 0, h.cell 1, h.cell 2, h.cell 3, h.cell 4⟩

end Go.Proofs.YtgifflfjhockaaaGreatDoor.F
