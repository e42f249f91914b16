/-
  The plain mathematics of layer code: instructions as triples, lists of them as cells, which lists are bodies, heads and stretches, what one more and one fewer make, how many have an op. No program, no conditions.
  The plain mathematics of functions: names, which may be, their bytes, their slots. No program, no conditions.
  The plain mathematics of reading an instruction from bytes: what is read, and that an instruction's bytes, whatever stands behind them, are read as it was. No program, no conditions.
  The plain mathematics of reading a body: what so many instructions one behind the other are, and what is read of a body's bytes. No program, no conditions.
  The plain mathematics of reading a function: what is read of bytes at a place. No program, no conditions.
  The plain mathematics of images: which may be, their sum, their bytes, and what is read of bytes. No program, no conditions.
  The plain mathematics of layer asm: what the lines of a text say, what is wrong with them, and the labels. No program, no conditions.
  The plain mathematics of layer asm: the text of an image, by numbers or by labels, says that image. No program; the image may be.
  The plain mathematics of layer asm: the text of an image that may be, by numbers or by labels, says that image, and has a label for each place. No program.
  A region that draws its order and has a neck: an operation that waits for all ahead of it, and for which all behind it wait. What lies ahead is walked in an order of one's own choice (KMix); then the neck comes up alone, and may write what was made. No program, no conditions.
  Which types shapes and signatures may have: what held and all answer, and the document's held. Conditions: the list lies in memory.
  Which shapes and signatures may be: what Check, CheckSignature, Cell and Same answer, the program's and the document's; what the laws' Great and Copy answer. Conditions: the lists lie in memory.
  What pack answers: types' bytes. Conditions: the list lies in memory, holds types, no more than 64.
  What the document's Types answers: types' bytes. Conditions: the list lies in memory, holds types, no more than 64.
  What Encode and EncodeSignature answer, the program's and the document's: their bytes, if they may be. Conditions: the lists lie in memory.
  The iterator of the pieces of bytes, two bits each, from the lowest of each byte on. Conditions: the bytes lie in memory; a round keeps them.
  What types answers: the types that were laid into bytes, if nothing is behind them. Conditions: the bytes lie in memory.
  What unpack and Decode of layer shape answer: the types, and the shape, at a Reel's place. Conditions: the Reel reads bytes in memory, no more than 2^47.
-/
import Derived.StillTail
import Derived.StillTailTactics
import Derived.Test.YtifobiajjhknbaaGreatDoorQ4
import Derived.Test.YtifobiajjhknbaaGreatDoorQ5
import Derived.Test.YtifobiajjhknbaaGreatDoorQ3
import Derived.Test.YtifobiajjhknbaaGreatDoorQ2
namespace Go.Proofs.YtifobiajjhknbaaGreatDoor.C
open Go.RowKit O

/-- An instruction: its op, and its operands. -/
abbrev I3 := Int × Int × Int
/-- Instructions as cells. -/
def iis (l : List I3) : List Value := l.flatMap fun x => [.int .i64 x.1, .int .i64 x.2.1, .int .i64 x.2.2]
theorem iis_cons (x : I3) (l : List I3) : iis (x :: l) = [.int .i64 x.1, .int .i64 x.2.1, .int .i64 x.2.2] ++ iis l := by unfold iis; rw [List.flatMap_cons]
theorem iis_append (l r : List I3) : iis (l ++ r) = iis l ++ iis r := by unfold iis; rw [List.flatMap_append]
theorem iis_one (x : I3) : iis [x] = [.int .i64 x.1, .int .i64 x.2.1, .int .i64 x.2.2] := rfl
theorem iis_length (l : List I3) : (iis l).length = l.length * 3 := by
  induction l with
  | nil => rfl
  | cons v l ih => rw [iis_cons, List.length_append, ih]; simp; omega
theorem iis_at : ∀ (l : List I3) (i : Nat) (h : i < l.length), (iis l)[i * 3]? = some (.int .i64 l[i].1) ∧ (iis l)[i * 3 + 1]? = some (.int .i64 l[i].2.1) ∧ (iis l)[i * 3 + 2]? = some (.int .i64 l[i].2.2)
  | v :: l, 0, _ => by rw [iis_cons]; exact ⟨rfl, rfl, rfl⟩
  | v :: l, i + 1, h => by
    have := iis_at l i (by simpa using h)
    rw [iis_cons, show (i + 1) * 3 = i * 3 + 3 by omega]
    exact ⟨by simpa using this.1, by simpa using this.2.1, by simpa using this.2.2⟩
theorem rdJ_at {w : World} {A : Option Addr} {l : List I3} (h : Rd w A (iis l)) (h0 : 0 < l.length) : ∃ g off, A = some ⟨g, off, none⟩ ∧
    ∀ (i : Nat) (hi : i < l.length), w.cell? ⟨g, off + i * 3, none⟩ = some (.int .i64 l[i].1) ∧ w.cell? ⟨g, off + i * 3 + 1, none⟩ = some (.int .i64 l[i].2.1) ∧ w.cell? ⟨g, off + i * 3 + 2, none⟩ = some (.int .i64 l[i].2.2) := by
  obtain ⟨g, off, e, hc⟩ := h (by rw [iis_length]; omega)
  refine ⟨g, off, e, fun i hi => ?_⟩
  obtain ⟨h1, h2, h3⟩ := iis_at l i hi
  exact ⟨hc _ _ h1, hc _ _ h2, hc _ _ h3⟩

/-- May it be; does it end; does it go, and where to? -/
def ok1 (x : I3) : Bool := okI x.1 x.2.1 x.2.2
def eB (x : I3) : Bool := endsI x.1 x.2.1 x.2.2
def gB (x : I3) : Bool := goesI x.1 x.2.1 x.2.2
def gN (x : I3) : Int := goesN x.1 x.2.1 x.2.2
theorem gB_ka {x : I3} (h : gB x = true) : ok1 x = true ∧ (O.rowAt x.1).ka = 10 := by
  have h := of_decide_eq_true h
  cases hk : okI x.1 x.2.1 x.2.2
  · rw [rowR_no hk] at h; exact absurd h (by decide)
  · rw [rowR_ok hk] at h; exact ⟨hk, h⟩
theorem gB_in {x : I3} (h : gB x = true) : 0 ≤ x.2.1 ∧ x.2.1 ≤ 511 := by
  obtain ⟨h1, h2⟩ := gB_ka h
  have h3 := (ok_op h1).2.1
  rw [h2] at h3
  exact of_decide_eq_true h3
theorem gN_yes {x : I3} (h : gB x = true) : gN x = x.2.1 := if_pos h
theorem gN_no {x : I3} (h : gB x = false) : gN x = 0 := if_neg (by unfold gB at h; rw [h]; decide)
theorem gN_in (x : I3) : 0 ≤ gN x ∧ gN x ≤ 511 := by
  cases h : gB x
  · rw [gN_no h]; decide
  · rw [gN_yes h]; exact gB_in h
/-- Is a list a body? -/
def itemB (n : Nat) (x : I3) : Bool := ok1 x && decide (gN x < (n : Int))
def lastB (l : List I3) : Bool := match l.getLast? with | some x => eB x | none => false
def okB (l : List I3) : Bool := decide (l.length ≤ 512) && lastB l && l.all (itemB l.length)
def chkB (l : List I3) : Int := if okB l = true then 0 else 50
theorem chkB_ok {l : List I3} (h : okB l = true) : chkB l = 0 := if_pos h
theorem chkB_no {l : List I3} (h : okB l = false) : chkB l = 50 := if_neg (by rw [h]; decide)
theorem okB_parts {l : List I3} (h : okB l = true) : 1 ≤ l.length ∧ l.length ≤ 512 ∧ lastB l = true ∧ l.all (itemB l.length) = true := by
  unfold okB at h
  simp only [Bool.and_eq_true, decide_eq_true_eq] at h
  refine ⟨?_, h.1.1, h.1.2, h.2⟩
  rcases l with _ | ⟨x, l⟩
  · exact absurd h.1.2 (by decide)
  · simp
theorem okB_mk {l : List I3} (h1 : l.length ≤ 512) (h2 : lastB l = true) (h3 : l.all (itemB l.length) = true) : okB l = true := by
  unfold okB; rw [decide_eq_true h1, h2, h3]; rfl
theorem okB_long {l : List I3} (h : ¬ l.length ≤ 512) : okB l = false := by unfold okB; rw [decide_eq_false h]; rfl
theorem okB_last {l : List I3} (h : lastB l = false) : okB l = false := by unfold okB; rw [h]; simp
theorem okB_item {l : List I3} (h : l.all (itemB l.length) = false) : okB l = false := by unfold okB; rw [h]; simp
theorem lastB_at {l : List I3} (h : 0 < l.length) : lastB l = eB (l[l.length - 1]'(by omega)) := by
  unfold lastB
  rw [List.getLast?_eq_getElem?, List.getElem?_eq_getElem (by omega)]
theorem item_no1 {n : Nat} {x : I3} (h : ok1 x = false) : itemB n x = false := by unfold itemB; rw [h]; rfl
theorem item_no2 {n : Nat} {x : I3} (h : ¬ gN x < (n : Int)) : itemB n x = false := by unfold itemB; rw [decide_eq_false h]; simp
theorem item_yes {n : Nat} {x : I3} (h1 : ok1 x = true) (h2 : gN x < (n : Int)) : itemB n x = true := by unfold itemB; rw [h1, decide_eq_true h2]; rfl
theorem all_no {n : Nat} {l : List I3} {k : Nat} (hk : k < l.length) (h : itemB n l[k] = false) : l.all (itemB n) = false := by
  rw [List.all_eq_false]; exact ⟨_, List.getElem_mem hk, by rw [h]; decide⟩
end Go.Proofs.YtifobiajjhknbaaGreatDoor.C

namespace Go.Proofs.YtifobiajjhknbaaGreatDoor.F
open Go.RowKit W

/-- A letter; a digit; a name. -/
def letB (c : UInt8) : Bool := decide ((97 ≤ c.toNat ∧ c.toNat ≤ 122) ∨ (65 ≤ c.toNat ∧ c.toNat ≤ 90))
def digB (c : UInt8) : Bool := decide (48 ≤ c.toNat ∧ c.toNat ≤ 57)
def inB (c : UInt8) : Bool := letB c || digB c
def headB : List UInt8 → Bool
  | [] => false
  | c :: _ => letB c
def okN (s : List UInt8) : Bool := decide (s.length ≤ 32) && (headB s && s.all inB)
def chkN (s : List UInt8) : Int := if okN s = true then 0 else 71
theorem okN_iff (s : List UInt8) : okN s = true ↔ s.length ≤ 32 ∧ headB s = true ∧ s.all inB = true := by unfold okN; rw [Bool.and_eq_true, Bool.and_eq_true, decide_eq_true_iff]
theorem chkN_ok {s : List UInt8} (h : okN s = true) : chkN s = 0 := if_pos h
theorem chkN_no {s : List UInt8} (h : okN s = false) : chkN s = 71 := if_neg (by rw [h]; decide)
theorem okN_long {s : List UInt8} (h : ¬ s.length ≤ 32) : okN s = false := by unfold okN; rw [decide_eq_false h]; rfl
theorem okN_head {s : List UInt8} (h : headB s = false) : okN s = false := by unfold okN; rw [h]; simp
theorem okN_in {s : List UInt8} (h : s.all inB = false) : okN s = false := by unfold okN; rw [h]; simp
theorem headB_at {s : List UInt8} (h : 0 < s.length) : headB s = letB s[0] := by
  cases s with
  | nil => simp at h
  | cons c l => rfl
theorem letB_iff (c : UInt8) : letB c = true ↔ (97 ≤ c.toNat ∧ c.toNat ≤ 122) ∨ (65 ≤ c.toNat ∧ c.toNat ≤ 90) := by unfold letB; rw [decide_eq_true_iff]
theorem digB_iff (c : UInt8) : digB c = true ↔ 48 ≤ c.toNat ∧ c.toNat ≤ 57 := by unfold digB; rw [decide_eq_true_iff]

/-- A function. -/
structure Fu where
  nm : List UInt8
  ar : List Int
  rs : List Int
  lc : List Int
  bd : List C.I3
/-- It may be. -/
def okF (f : Fu) : Bool := okN f.nm && (S.okG f.ar f.rs && (f.lc.all knownB && (C.okB f.bd && decide (f.ar.length + f.rs.length + f.lc.length ≤ 64))))
def chkF (f : Fu) : Int := if okF f = true then 0 else 70
theorem okF_iff (f : Fu) : okF f = true ↔ okN f.nm = true ∧ S.okG f.ar f.rs = true ∧ f.lc.all knownB = true ∧ C.okB f.bd = true ∧ f.ar.length + f.rs.length + f.lc.length ≤ 64 := by
  unfold okF; rw [Bool.and_eq_true, Bool.and_eq_true, Bool.and_eq_true, Bool.and_eq_true, decide_eq_true_iff]
theorem chkF_ok {f : Fu} (h : okF f = true) : chkF f = 0 := if_pos h
theorem chkF_no {f : Fu} (h : okF f = false) : chkF f = 70 := if_neg (by rw [h]; decide)
theorem okF_not {f : Fu} (h : ¬ (okN f.nm = true ∧ S.okG f.ar f.rs = true ∧ f.lc.all knownB = true ∧ C.okB f.bd = true ∧ f.ar.length + f.rs.length + f.lc.length ≤ 64)) : okF f = false := by
  cases ho : okF f
  · rfl
  · exact absurd ((okF_iff f).1 ho) h
/-- Locals are checked as the arguments of a signature. -/
theorem okG_one (l : List Int) : S.okG l [] = true ↔ l.length ≤ 64 ∧ l.all knownB = true := by rw [S.okG_iff]; simp

/-- Are both the same? -/
def sameF (f g : Fu) : Bool := decide (f.nm = g.nm ∧ (f.ar = g.ar ∧ f.rs = g.rs) ∧ f.lc = g.lc ∧ f.bd = g.bd)
theorem sameF_iff (f g : Fu) : sameF f g = true ↔ f = g := by
  unfold sameF
  rw [decide_eq_true_iff]
  constructor
  · rintro ⟨h1, ⟨h2, h3⟩, h4, h5⟩
    cases f; cases g
    simp only at h1 h2 h3 h4 h5
    subst h1 h2 h3 h4 h5; rfl
  · rintro rfl; exact ⟨rfl, ⟨rfl, rfl⟩, rfl, rfl⟩

end Go.Proofs.YtifobiajjhknbaaGreatDoor.F

namespace Go.Proofs.YtifobiajjhknbaaGreatDoor.O

/-- What comes next, if nothing is wrong with it, is its number's bytes. -/
theorem nx_ok {l : List UInt8} (h : (V.nx l).2.2 = 0) : l = V.encL (V.nx l).1 ++ l.drop (V.nx l).2.1 ∧ (V.encL (V.nx l).1).length = (V.nx l).2.1 := by
  rcases l with _ | ⟨b, r⟩
  · cases h
  · rw [V.nx_cons] at h ⊢
    split at h
    · cases h
    · rename_i h1
      split at h
      · cases h
      · rename_i h2
        rw [if_neg h1, if_neg h2]
        have ht := V.td_rng b.toNat (by simpa using b.toNat_lt)
        obtain ⟨t, hT⟩ : ∃ t, V.td b.toNat = t + 1 := ⟨V.td b.toNat - 1, by omega⟩
        simp only
        have hw := V.dc_width b (r.take t) (V.td b.toNat) rfl (by rw [hT]; simp; omega)
        rw [hT] at h1 h2 hw ⊢
        rw [List.take_succ_cons] at h2 ⊢
        have e := hw.2.1 (by omega)
        rw [e]
        refine ⟨?_, by simp; omega⟩
        rw [List.drop_succ_cons, List.cons_append, List.take_append_drop]

theorem num_ok {l : List UInt8} {p m : Nat} (h : (V.NumR l p m).2.1 = 0) :
    l.drop p = V.encL (V.NumR l p m).1 ++ l.drop (V.NumR l p m).2.2 ∧ (V.NumR l p m).1 ≤ m ∧ (V.NumR l p m).1 < 18446744073709551616 ∧ (V.NumR l p m).2.2 = p + (V.encL (V.NumR l p m).1).length := by
  unfold V.NumR at h ⊢
  unfold V.bnd at h ⊢
  have hw := (V.nx_width (l.drop p)).2.2.2
  simp only at h ⊢
  split at h
  · rename_i h1; exact absurd h h1
  · rename_i h1
    split at h
    · cases h
    · rename_i h2
      rw [if_neg h1, if_neg h2]
      have e := nx_ok (l := l.drop p) h
      rw [List.drop_drop] at e
      exact ⟨e.1, by omega, hw, by rw [e.2]⟩
/-- An operand that is read: its number, the error, the place behind it. -/
def decP (k : Int) (l : List UInt8) (p : Nat) : Int × Nat × Nat :=
  if k = 0 then (0, 0, p)
  else if k = 1 then V.SigR l p (lo 1) (hi 1)
  else if (V.NumR l p (hi k).toNat).2.1 ≠ 0 then (0, (V.NumR l p (hi k).toNat).2.1, (V.NumR l p (hi k).toNat).2.2)
  else if inK k (V.NumR l p (hi k).toNat).1 = true then ((V.NumR l p (hi k).toNat).1, 0, (V.NumR l p (hi k).toNat).2.2) else (0, 40, (V.NumR l p (hi k).toNat).2.2)

/-- An instruction that is read: it, the error, the place behind it. -/
structure Dec where
  op : Int
  a : Int
  b : Int
  er : Nat
  pl : Nat
def decI (l : List UInt8) (p : Nat) : Dec :=
  if (V.NumR l p 29).2.1 ≠ 0 then ⟨0, 0, 0, (V.NumR l p 29).2.1, (V.NumR l p 29).2.2⟩
  else if (decP (rowAt (V.NumR l p 29).1).ka l (V.NumR l p 29).2.2).2.1 ≠ 0 then ⟨0, 0, 0, (decP (rowAt (V.NumR l p 29).1).ka l (V.NumR l p 29).2.2).2.1, (decP (rowAt (V.NumR l p 29).1).ka l (V.NumR l p 29).2.2).2.2⟩
  else if (decP (rowAt (V.NumR l p 29).1).kb l (decP (rowAt (V.NumR l p 29).1).ka l (V.NumR l p 29).2.2).2.2).2.1 ≠ 0 then
    ⟨0, 0, 0, (decP (rowAt (V.NumR l p 29).1).kb l (decP (rowAt (V.NumR l p 29).1).ka l (V.NumR l p 29).2.2).2.2).2.1, (decP (rowAt (V.NumR l p 29).1).kb l (decP (rowAt (V.NumR l p 29).1).ka l (V.NumR l p 29).2.2).2.2).2.2⟩
  else ⟨(V.NumR l p 29).1, (decP (rowAt (V.NumR l p 29).1).ka l (V.NumR l p 29).2.2).1, (decP (rowAt (V.NumR l p 29).1).kb l (decP (rowAt (V.NumR l p 29).1).ka l (V.NumR l p 29).2.2).2.2).1, 0,
    (decP (rowAt (V.NumR l p 29).1).kb l (decP (rowAt (V.NumR l p 29).1).ka l (V.NumR l p 29).2.2).2.2).2.2⟩

end Go.Proofs.YtifobiajjhknbaaGreatDoor.O

namespace Go.Proofs.YtifobiajjhknbaaGreatDoor.C
open Go.RowKit O

/-- What is read in one. -/
def d3 (l : List UInt8) (q : Nat) : I3 := ((decI l q).op, (decI l q).a, (decI l q).b)
/-- So many instructions, read one behind the other, and the place behind them. -/
def fwd (l : List UInt8) (p : Nat) : Nat → Option (List I3 × Nat)
  | 0 => some ([], p)
  | k + 1 => match fwd l p k with
    | none => none
    | some x => if (decI l x.2).er = 0 then some (x.1 ++ [d3 l x.2], (decI l x.2).pl) else none
/-- The body that stands at a place, and the place behind it. -/
def bodyOf (y : Option (List I3 × Nat)) : Option (List I3 × Nat) := match y with
  | none => none
  | some x => if okB x.1 = true then some x else none
def decB (l : List UInt8) (p : Nat) : Option (List I3 × Nat) := if (V.NumR l p 512).2.1 ≠ 0 then none else bodyOf (fwd l (V.NumR l p 512).2.2 (V.NumR l p 512).1)
end Go.Proofs.YtifobiajjhknbaaGreatDoor.C

namespace Go.Proofs.YtifobiajjhknbaaGreatDoor.F
open Go.RowKit W

/-- The name at a place, and the place behind it. -/
def nmR (l : List UInt8) (p : Nat) : Option (List UInt8 × Nat) :=
  if (V.bnd (V.nx (l.drop p)) 32).2.2 ≠ 0 then none else
  if l.length < p + (V.bnd (V.nx (l.drop p)) 32).2.1 + (V.bnd (V.nx (l.drop p)) 32).1 then none else
  some ((l.drop (p + (V.bnd (V.nx (l.drop p)) 32).2.1)).take (V.bnd (V.nx (l.drop p)) 32).1, p + (V.bnd (V.nx (l.drop p)) 32).2.1 + (V.bnd (V.nx (l.drop p)) 32).1)
/-- Locals at a place. -/
def lcR (l : List UInt8) (p : Nat) : Option (List Int × Nat) := match S.decG l p with
  | none => none
  | some x => if x.1.2 = [] then some (x.1.1, x.2) else none
/-- What Decode hands out. -/
def nilF : Fu := ⟨[], [], [], [], []⟩
end Go.Proofs.YtifobiajjhknbaaGreatDoor.F

namespace Go.Proofs.YtifobiajjhknbaaGreatDoor.I
open Go.RowKit W

/-- An image. -/
structure Im where
  sh : List (List Int)
  fn : List F.Fu
def nilI : Im := ⟨[], []⟩
def names (p : Im) : List (List UInt8) := p.fn.map fun f => f.nm
/-- It may be. -/
def okI (p : Im) : Bool := decide (p.sh.length ≤ 64 ∧ (1 ≤ p.fn.length ∧ p.fn.length ≤ 64) ∧ (names p).Nodup) && (p.sh.all S.okS && p.fn.all F.okF)
def chkI (p : Im) : Int := if okI p = true then 0 else 80
theorem okI_iff (p : Im) : okI p = true ↔ (p.sh.length ≤ 64 ∧ (1 ≤ p.fn.length ∧ p.fn.length ≤ 64) ∧ (names p).Nodup) ∧ p.sh.all S.okS = true ∧ p.fn.all F.okF = true := by
  unfold okI; rw [Bool.and_eq_true, Bool.and_eq_true, decide_eq_true_iff]
theorem chkI_ok {p : Im} (h : okI p = true) : chkI p = 0 := if_pos h
theorem chkI_no {p : Im} (h : okI p = false) : chkI p = 80 := if_neg (by rw [h]; decide)

/-- The sum's two numbers, nothing left out; the sum. -/
def adS (s : Nat × Nat) (x : UInt8) : Nat × Nat := (s.1 + x.toNat, s.2 + (s.1 + x.toNat))
def ad (l : List UInt8) : Nat × Nat := l.foldl adS (1, 0)
/-- An image's bytes. -/
def magicL : List UInt8 := [98, 107, 115, 116, 1]
section
variable {α : Type}
end

/-- The number of the first function of a name. -/
def findI (l : List F.Fu) (s : List UInt8) : Option Nat := l.findIdx? fun f => decide (f.nm = s)
instance fuEq : DecidableEq F.Fu := fun a b => decidable_of_iff (F.sameF a b = true) (F.sameF_iff a b)
/-- Are both the same? -/
def sameI (p q : Im) : Bool := decide (p.sh = q.sh ∧ p.fn = q.fn)

end Go.Proofs.YtifobiajjhknbaaGreatDoor.I

namespace Go.Proofs.YtifobiajjhknbaaGreatDoor.M
open Go.RowKit

/-- A name that stands in a text: its line, its function, its place there, what it is, and whether it is a label. -/
structure Nm where
  ln : Nat
  fn : Nat
  pl : Nat
  s : Bs
  lb : Bool
/-- What was read so far. -/
structure St where
  im : I.Im
  ns : List Nm
def st0 : St := ⟨I.nilI, []⟩

/-- The op of a name. -/
def ofA (s : Bs) : Option Nat := O.rowsL.findIdx? fun r => decide (r.name = s)
/-- The instruction of a text. -/
def rdA (s : Bs) : Option C.I3 := match ofA (Lib.cut s [32]).1 with
  | none => none
  | some op =>
    if C.ok1 ((op : Int), O.gA (op : Int) (Lib.cut s [32]).2.1, O.gB (op : Int) (Lib.cut s [32]).2.1) = true ∧ O.textI (op : Int) (O.gA (op : Int) (Lib.cut s [32]).2.1) (O.gB (op : Int) (Lib.cut s [32]).2.1) = s
    then some ((op : Int), O.gA (op : Int) (Lib.cut s [32]).2.1, O.gB (op : Int) (Lib.cut s [32]).2.1) else none
theorem ofA_row {op : Int} (h : O.isOp op = true) : ofA (O.rowAt op).name = some op.toNat := by
  have hb := O.isOp_yes h
  have : ∀ j : Fin 30, ofA (O.rowAt (j.1 : Int)).name = some j.1 := by decide
  have h2 := this ⟨op.toNat, by omega⟩
  rw [show ((op.toNat : Nat) : Int) = op by omega] at h2
  exact h2
theorem rdA_text {x : C.I3} (h : C.ok1 x = true) : rdA (O.textI x.1 x.2.1 x.2.2) = some x := by
  have ho := (O.ok_op h).1
  have hb := O.isOp_yes ho
  obtain ⟨g1, g2⟩ := O.guess_hit h
  have e : ((x.1.toNat : Nat) : Int) = x.1 := by omega
  unfold rdA
  rw [O.text_cut.1, ofA_row ho]
  dsimp only
  rw [e, g1, g2]
  exact if_pos ⟨h, rfl⟩
theorem rdA_some {s : Bs} {x : C.I3} (h : rdA s = some x) : C.ok1 x = true ∧ O.textI x.1 x.2.1 x.2.2 = s := by
  unfold rdA at h
  split at h
  · cases h
  · split at h
    · rename_i hc
      injection h with h
      rw [← h]; exact hc
    · cases h
theorem rdA_none {s : Bs} (h : ∀ x : C.I3, C.ok1 x = true → O.textI x.1 x.2.1 x.2.2 ≠ s) : rdA s = none := by
  cases e : rdA s with
  | none => rfl
  | some x => obtain ⟨h1, h2⟩ := rdA_some e; exact absurd h2 (h x h1)
/-- What an instruction may bear the name of: 1 a label, 2 a function, 0 nothing. -/
def kindA (op : Int) : Nat := if op = 18 ∨ op = 19 then 1 else if (20 ≤ op ∧ op ≤ 23) ∨ op = 11 then 2 else 0

def shapeW : Bs := [115, 104, 97, 112, 101]
def funcW : Bs := [102, 117, 110, 99]
def localW : Bs := [108, 111, 99, 97, 108]

section
variable {α β : Type}
/-- The last one, changed. -/
def upd (g : α → α) : List α → List α
  | [] => []
  | [x] => [g x]
  | x :: y :: r => x :: upd g (y :: r)
theorem upd_append (g : α → α) : ∀ (l : List α) (x : α), upd g (l ++ [x]) = l ++ [g x]
  | [], x => rfl
  | [y], x => rfl
  | y :: z :: l, x => by
    have := upd_append g (z :: l) x
    rw [List.cons_append] at this
    rw [List.cons_append, List.cons_append, upd, this]
    rfl

end

def stShape (st : St) (l : Ln) : Option St := match l.2 with
  | [a, b] => if a = shapeW ∧ st.im.fn = [] then (S.rdS b).map fun x => ⟨⟨st.im.sh ++ [x], st.im.fn⟩, st.ns⟩ else none
  | _ => none
def stFunc (st : St) (l : Ln) : Option St := match l.2 with
  | [a, b, c] => if a = funcW ∧ F.okN b = true then (S.rdG c).map fun g => ⟨⟨st.im.sh, st.im.fn ++ [⟨b, g.1, g.2, [], []⟩]⟩, st.ns⟩ else none
  | _ => none
/-- Has the function labels? -/
def hasL (ns : List Nm) (fn : Nat) : Bool := ns.any fun x => x.lb && decide (x.fn = fn)
def stLocal (st : St) (l : Ln) : Option St := match l.2, st.im.fn.getLast? with
  | [a, b], some f => if a = localW ∧ f.lc = [] ∧ f.bd = [] ∧ hasL st.ns (st.im.fn.length - 1) = false then (W.untxt b).map fun t => ⟨⟨st.im.sh, upd (fun f => { f with lc := t }) st.im.fn⟩, st.ns⟩ else none
  | _, _ => none
def stLabel (st : St) (l : Ln) : Option St := match l.2, st.im.fn.getLast? with
  | [a], some f => if a.getLast? = some 58 ∧ F.okN a.dropLast = true then some ⟨st.im, st.ns ++ [⟨l.1, st.im.fn.length - 1, f.bd.length, a.dropLast, true⟩]⟩ else none
  | _, _ => none
def addI (st : St) (x : C.I3) (ns : List Nm) : St := ⟨⟨st.im.sh, upd (fun f => { f with bd := f.bd ++ [x] }) st.im.fn⟩, ns⟩
/-- An instruction that bears a name. -/
def stName (st : St) (l : Ln) (f : F.Fu) : Option St := match l.2 with
  | [a, b] => match ofA a with
    | some op => if kindA op ≠ 0 ∧ F.okN b = true then some (addI st ((op : Int), 0, 0) (st.ns ++ [⟨l.1, st.im.fn.length - 1, f.bd.length, b, false⟩])) else none
    | none => none
  | _ => none
def stInstr (st : St) (l : Ln) : Option St := match st.im.fn.getLast? with
  | some f => match rdA (joinW l.2) with
    | some x => some (addI st x st.ns)
    | none => stName st l f
  | none => none
/-- What a line says, behind those ahead of it. -/
def step (st : St) (l : Ln) : Option St :=
  (stShape st l).or ((stFunc st l).or ((stLocal st l).or ((stLabel st l).or (stInstr st l))))
/-- All lines, or the number of the first one that says nothing. -/
def runL (st : St) : List Ln → St ⊕ Nat
  | [] => .inl st
  | l :: r => match step st l with
    | none => .inr l.1
    | some st' => runL st' r

/-! ### Names -/

def again (pre : List Nm) (x : Nm) : Bool := pre.any fun y => y.lb && (decide (y.fn = x.fn) && decide (y.s = x.s))
def placeOf (ns : List Nm) (fn : Nat) (s : Bs) : Option Nat := (ns.find? fun y => y.lb && (decide (y.fn = fn) && decide (y.s = s))).map Nm.pl
def opAt (fn : List F.Fu) (x : Nm) : Int := ((fn[x.fn]?.bind fun f => f.bd[x.pl]?).map Prod.fst).getD 0
/-- The number that a name is, or what is wrong with it. -/
def valA (ns : List Nm) (fn : List F.Fu) (x : Nm) : Nat ⊕ Int :=
  if kindA (opAt fn x) = 1 then (match placeOf ns x.fn x.s with | some n => .inl n | none => .inr 91)
  else (match I.findI fn x.s with | some n => .inl n | none => .inr 92)
def putB (v : Int) (x : C.I3) : C.I3 := (x.1, v, x.2.2)
def putA (x : Nm) (v : Int) (fn : List F.Fu) : List F.Fu := fn.modify x.fn fun f => { f with bd := f.bd.modify x.pl (putB v) }
/-- Names are put as numbers, one after another; or the first wrong one's line, and what is wrong. -/
def resL (ns pre : List Nm) (fn : List F.Fu) : List Nm → List F.Fu ⊕ (Nat × Int)
  | [] => .inl fn
  | x :: r => if x.lb = true then (if again pre x = true then .inr (x.ln, 91) else resL ns (pre ++ [x]) fn r)
    else match valA ns fn x with
      | .inl v => resL ns (pre ++ [x]) (putA x v fn) r
      | .inr e => .inr (x.ln, e)
/-- What was read, when all lines were. -/
def endL (st : St) : I.Im × Nat × Int := match resL st.ns [] st.im.fn st.ns with
  | .inr (n, e) => (I.nilI, n, e)
  | .inl fn => if I.okI ⟨st.im.sh, fn⟩ = true then (⟨st.im.sh, fn⟩, 0, 0) else (I.nilI, 0, 93)
def sayL (ls : List Ln) : I.Im × Nat × Int := match runL st0 ls with
  | .inr n => (I.nilI, n, 90)
  | .inl st => endL st
/-- What a text says. -/
def parseL (s : Bs) : I.Im × Nat × Int := if 131072 < s.length then (I.nilI, 0, 93) else sayL (linesL s)
theorem parse_long {s : Bs} (h : 131072 < s.length) : parseL s = (I.nilI, 0, 93) := if_pos h
theorem parse_else {s : Bs} (h : ¬ 131072 < s.length) : parseL s = sayL (linesL s) := if_neg h
/-- The labels of a function. -/
def namesL (ns : List Nm) (fn : Int) : List Bs := (ns.filter fun x => x.lb && decide ((x.fn : Int) = fn)).map Nm.s
def labsL (ls : List Ln) (fn : Int) : List Bs := match runL st0 ls with
  | .inr _ => []
  | .inl st => if (endL st).2.2 = 0 then namesL st.ns fn else []
def labelsL (s : Bs) (fn : Int) : List Bs := if 131072 < s.length then [] else labsL (linesL s) fn

/-! ### What lines say does not hang on their numbers -/

end Go.Proofs.YtifobiajjhknbaaGreatDoor.M

namespace Go.Proofs.YtifobiajjhknbaaGreatDoor.M
open Go.RowKit

/-! ### The words of a text that is written -/

theorem inW_of {c : UInt8} (h : c = 45 ∨ c = 62 ∨ (48 ≤ c.toNat ∧ c.toNat ≤ 57) ∨ (97 ≤ c.toNat ∧ c.toNat ≤ 122) ∨ (65 ≤ c.toNat ∧ c.toNat ≤ 90)) : inW c = true := by
  rw [inW_iff2]
  refine ⟨?_, ?_, ?_, ?_⟩ <;> · rintro rfl; revert h; decide
theorem clean_mk {w : Bs} (h0 : w ≠ []) (h : ∀ c ∈ w, inW c = true) : cleanB w = true := (clean_iff w).2 ⟨h0, List.all_eq_true.2 h⟩
theorem itoa_ne (n : Int) : Lib.itoa n ≠ [] := by
  obtain ⟨c, r, h, _⟩ := W.itoa_cons n
  rw [h]; exact List.cons_ne_nil _ _
theorem itoa_in (n : Int) : ∀ c ∈ Lib.itoa n, c = 45 ∨ (48 ≤ c.toNat ∧ c.toNat ≤ 57) := by
  intro c hc
  rcases Int.lt_or_le n 0 with h | h
  · rw [W.itoa_minus h] at hc
    rcases List.mem_cons.1 hc with rfl | hc
    · exact .inl rfl
    · exact .inr (W.dec_digits _ c hc)
  · rw [W.itoa_pos h] at hc
    exact .inr (W.dec_digits _ c hc)
theorem itoa_clean (n : Int) : cleanB (Lib.itoa n) = true := clean_mk (itoa_ne n) fun c hc => inW_of (by rcases itoa_in n c hc with h | h; exact .inl h; exact .inr (.inr (.inl h)))
theorem okN_clean {s : Bs} (h : F.okN s = true) : cleanB s = true := by
  obtain ⟨_, h1, h2⟩ := (F.okN_iff s).1 h
  refine clean_mk (fun e => ?_) fun c hc => ?_
  · subst e; exact absurd h1 (by decide)
  · have := List.all_eq_true.1 h2 c hc
    unfold F.inB at this
    rw [Bool.or_eq_true, F.letB_iff, F.digB_iff] at this
    exact inW_of (by omega)
theorem let_in {t : Int} : ∀ c ∈ W.letC t, inW c = true := by
  unfold W.letC
  intro c hc
  repeat' split at hc
  all_goals first | (rw [List.mem_singleton] at hc; subst hc; decide) | cases hc
theorem txt_in (l : List Int) : ∀ c ∈ W.txt l, inW c = true := by
  unfold W.txt
  split
  · intro c hc
    obtain ⟨t, _, hc⟩ := List.mem_flatMap.1 hc
    exact let_in c hc
  · intro c hc; cases hc
theorem txt_clean {l : List Int} (h0 : l ≠ []) (h1 : l.length ≤ 1024) (h2 : l.all W.knownB = true) : cleanB (W.txt l) = true := by
  refine clean_mk (fun e => h0 ?_) (txt_in l)
  have := W.txt_length h1 h2
  rw [e] at this
  exact List.length_eq_zero_iff.1 this.symm
theorem shS_clean {l : List Int} (h : S.okS l = true) : cleanB (S.shS l) = true := by
  obtain ⟨h1, h2⟩ := (S.okS_iff l).1 h
  unfold S.shS
  rw [if_pos h]
  exact txt_clean (fun e => by subst e; simp at h1) (by omega) (S.all_known h2)
theorem shG_clean {a r : List Int} (h : S.okG a r = true) : cleanB (S.shG a r) = true := by
  unfold S.shG
  rw [if_pos h]
  refine clean_mk (by simp) fun c hc => ?_
  rcases List.mem_append.1 hc with hc | hc
  · exact txt_in a c hc
  · rcases List.mem_cons.1 hc with rfl | hc
    · decide
    · exact txt_in r c hc
theorem name_clean {op : Int} (h : O.isOp op = true) : cleanB (O.rowAt op).name = true := by
  obtain ⟨hk, e⟩ := O.rowAt_yes h
  rw [e]
  have : O.rowsL.all (fun r => cleanB r.name) = true := by decide
  exact List.all_eq_true.1 this _ (List.getElem_mem hk)
theorem word_clean {k n : Int} (hn : O.inK k n = true) : cleanB (O.word k n) = true := by
  have hd := of_decide_eq_true hn
  unfold O.word
  split
  · rename_i hk
    have z1 : 1 ≤ n ∧ n ≤ 4 := by unfold O.lo O.hi at hd; rcases hk with rfl | rfl <;> simp at hd <;> omega
    have vb : n = 1 ∨ n = 2 ∨ n = 3 ∨ n = 4 := by omega
    rcases vb with rfl | rfl | rfl | rfl <;> decide
  · split
    · rename_i h1 h2
      subst h2
      have z1 : 0 ≤ n ∧ n ≤ 13 := by unfold O.lo O.hi at hd; simpa using hd
      have hlt : n.toNat < A.binNs.length := by rw [show A.binNs.length = 14 from rfl]; omega
      have : A.binNs.all cleanB = true := by decide
      unfold A.nameAt
      rw [if_pos z1.1, A.getD_at hlt]
      exact List.all_eq_true.1 this _ (List.getElem_mem hlt)
    · split
      · rename_i h1 h2 h3
        subst h3
        have z1 : 0 ≤ n ∧ n ≤ 8 := by unfold O.lo O.hi at hd; simpa using hd
        have hlt : n.toNat < A.unNs.length := by rw [show A.unNs.length = 9 from rfl]; omega
        have : A.unNs.all cleanB = true := by decide
        unfold A.nameAt
        rw [if_pos z1.1, A.getD_at hlt]
        exact List.all_eq_true.1 this _ (List.getElem_mem hlt)
      · exact itoa_clean n

/-- An operand's words; an instruction's. -/
def wordP (k n : Int) : List Bs := if k = 0 then [] else [O.word k n]
def wordsX (x : C.I3) : List Bs := (O.rowAt x.1).name :: (wordP (O.rowAt x.1).ka x.2.1 ++ wordP (O.rowAt x.1).kb x.2.2)
theorem row_none (op : Int) : (O.rowAt op).ka = 0 → (O.rowAt op).kb = 0 := by
  have := O.rowAt_all (p := fun r => decide (r.ka = 0 → r.kb = 0)) (by decide) (by decide) op
  exact of_decide_eq_true this
theorem join_words (x : C.I3) : joinW (wordsX x) = O.textI x.1 x.2.1 x.2.2 := by
  have hn := row_none x.1
  unfold wordsX O.textI wordP O.partL
  by_cases h0 : (O.rowAt x.1).ka = 0
  · rw [if_pos h0, if_pos (hn h0), if_pos h0, if_pos (hn h0)]; simp [joinW]
  · by_cases h1 : (O.rowAt x.1).kb = 0
    · rw [if_neg h0, if_pos h1, if_neg h0, if_pos h1]; simp [joinW]
    · rw [if_neg h0, if_neg h1, if_neg h0, if_neg h1]; simp [joinW]
theorem wordsX_clean {x : C.I3} (h : C.ok1 x = true) : cleanW (wordsX x) = true := by
  obtain ⟨h1, h2, h3⟩ := O.ok_op h
  refine (cleanW_iff _).2 ⟨by unfold wordsX; exact List.cons_ne_nil _ _, fun w hw => ?_⟩
  unfold wordsX wordP at hw
  rcases List.mem_cons.1 hw with rfl | hw
  · exact name_clean h1
  · rcases List.mem_append.1 hw with hw | hw
    · split at hw
      · cases hw
      · rw [List.mem_singleton] at hw; subst hw; exact word_clean h2
    · split at hw
      · cases hw
      · rw [List.mem_singleton] at hw; subst hw; exact word_clean h3

/-! ### A line at a time -/

theorem step_1 {st st' : St} {l : Ln} (h : stShape st l = some st') : step st l = some st' := by unfold step; rw [h]; rfl
theorem step_2 {st st' : St} {l : Ln} (h1 : stShape st l = none) (h : stFunc st l = some st') : step st l = some st' := by unfold step; rw [h1, h]; rfl
theorem step_3 {st st' : St} {l : Ln} (h1 : stShape st l = none) (h2 : stFunc st l = none) (h : stLocal st l = some st') : step st l = some st' := by unfold step; rw [h1, h2, h]; rfl
theorem step_4 {st st' : St} {l : Ln} (h1 : stShape st l = none) (h2 : stFunc st l = none) (h3 : stLocal st l = none) (h : stLabel st l = some st') : step st l = some st' := by unfold step; rw [h1, h2, h3, h]; rfl
theorem step_5 {st : St} {l : Ln} (h1 : stShape st l = none) (h2 : stFunc st l = none) (h3 : stLocal st l = none) (h4 : stLabel st l = none) : step st l = stInstr st l := by unfold step; rw [h1, h2, h3, h4]; rfl
theorem shape_two {st : St} {n : Nat} {w : List Bs} (h : ∀ b, w ≠ [shapeW, b]) : stShape st (n, w) = none := by
  unfold stShape
  split
  · rename_i a b e
    exact if_neg fun hh => h b (by rw [← hh.1]; exact e)
  · rfl
theorem func_three {st : St} {n : Nat} {w : List Bs} (h : ∀ b c, w ≠ [funcW, b, c]) : stFunc st (n, w) = none := by
  unfold stFunc
  split
  · rename_i a b c e
    exact if_neg fun hh => h b c (by rw [← hh.1]; exact e)
  · rfl
theorem local_two {st : St} {n : Nat} {w : List Bs} (h : ∀ b, w ≠ [localW, b]) : stLocal st (n, w) = none := by
  unfold stLocal
  split
  · rename_i a b f e _
    exact if_neg fun hh => h b (by rw [← hh.1]; exact e)
  · rfl
theorem label_one {st : St} {n : Nat} {w : List Bs} (h : ∀ a, a.getLast? = some 58 → w ≠ [a]) : stLabel st (n, w) = none := by
  unfold stLabel
  split
  · rename_i a f e _
    exact if_neg fun hh => h a hh.1 e
  · rfl
/-- The first word of an instruction is no other line's. -/
theorem row_first (op : Int) : (O.rowAt op).name ≠ shapeW ∧ (O.rowAt op).name ≠ localW ∧ (O.rowAt op).name.getLast? ≠ some 58 ∧ ((O.rowAt op).name = funcW → (O.rowAt op).kb = 0) := by
  have := O.rowAt_all (p := fun r => decide (r.name ≠ shapeW ∧ r.name ≠ localW ∧ r.name.getLast? ≠ some 58 ∧ (r.name = funcW → r.kb = 0))) (by decide) (by decide) op
  exact of_decide_eq_true this
theorem step_instr {st : St} {n : Nat} {op : Int} {r : List Bs} (h : r.length ≤ 1 ∨ (O.rowAt op).kb ≠ 0) : step st (n, (O.rowAt op).name :: r) = stInstr st (n, (O.rowAt op).name :: r) := by
  obtain ⟨h1, h2, h3, h4⟩ := row_first op
  refine step_5 (shape_two fun b e => ?_) (func_three fun b c e => ?_) (local_two fun b e => ?_) (label_one fun a ha e => ?_)
  · injection e with e _; exact h1 e
  · injection e with e e2
    rcases h with h | h
    · rw [e2] at h; simp at h
    · exact h (h4 e)
  · injection e with e _; exact h2 e
  · injection e with e _; rw [e] at h3; exact h3 ha
theorem wordsX_few (x : C.I3) : (wordP (O.rowAt x.1).ka x.2.1 ++ wordP (O.rowAt x.1).kb x.2.2).length ≤ 1 ∨ (O.rowAt x.1).kb ≠ 0 := by
  by_cases h : (O.rowAt x.1).kb = 0
  · left
    unfold wordP
    rw [if_pos h]
    split <;> simp
  · exact .inr h
theorem step_words {st : St} {n : Nat} {x : C.I3} {f : F.Fu} (h : C.ok1 x = true) (hf : st.im.fn.getLast? = some f) : step st (n, wordsX x) = some (addI st x st.ns) := by
  have e1 : step st (n, wordsX x) = stInstr st (n, wordsX x) := step_instr (wordsX_few x)
  have e2 : rdA (joinW (wordsX x)) = some x := by rw [join_words]; exact rdA_text h
  rw [e1]
  unfold stInstr
  rw [hf]
  dsimp only
  rw [e2]

/-! ### Labels -/

/-- The label of a place; its line; an instruction that goes, by its place's label. -/
def lbl (i : Int) : Bs := 76 :: Lib.itoa i
def lblW (i : Int) : List Bs := [lbl i ++ [58]]
def jmpW (x : C.I3) : List Bs := [(O.rowAt x.1).name, lbl x.2.1]
theorem lbl_inj {i j : Int} (hi : 0 ≤ i ∧ i ≤ 511) (hj : 0 ≤ j ∧ j ≤ 511) (h : lbl i = lbl j) : i = j := by
  unfold lbl at h
  injection h with _ h
  exact W.itoa_inj (by omega) (by omega) h
theorem lbl_ok {i : Int} (hi : 0 ≤ i ∧ i ≤ 511) : F.okN (lbl i) = true := by
  refine (F.okN_iff _).2 ⟨?_, rfl, ?_⟩
  · have h := Lib.nDigits_le20 i.toNat (by omega)
    unfold lbl
    rw [W.itoa_pos hi.1, List.length_cons, Lib.decDigits_length]
    omega
  · unfold lbl
    rw [List.all_cons, Bool.and_eq_true]
    refine ⟨by decide, List.all_eq_true.2 fun c hc => ?_⟩
    rw [W.itoa_pos hi.1] at hc
    unfold F.inB
    rw [Bool.or_eq_true, F.digB_iff]
    exact .inr (W.dec_digits _ c hc)
theorem lblW_clean {i : Int} (hi : 0 ≤ i ∧ i ≤ 511) : cleanW (lblW i) = true := by
  refine (cleanW_iff _).2 ⟨by unfold lblW; simp, fun w hw => ?_⟩
  unfold lblW at hw
  rw [List.mem_singleton] at hw
  subst hw
  have h := ((clean_iff _).1 (okN_clean (lbl_ok hi))).2
  exact clean_mk (by simp) fun c hc => by
    rcases List.mem_append.1 hc with hc | hc
    · exact List.all_eq_true.1 h c hc
    · rw [List.mem_singleton] at hc; subst hc; decide
theorem step_label {st : St} {n : Nat} {i : Int} {f : F.Fu} (hi : 0 ≤ i ∧ i ≤ 511) (hf : st.im.fn.getLast? = some f) :
    step st (n, lblW i) = some ⟨st.im, st.ns ++ [⟨n, st.im.fn.length - 1, f.bd.length, lbl i, true⟩]⟩ := by
  refine step_4 (shape_two fun b e => ?_) (func_three fun b c e => ?_) (local_two fun b e => ?_) ?_
  · have := congrArg List.length e; unfold lblW at this; simp at this
  · have := congrArg List.length e; unfold lblW at this; simp at this
  · have := congrArg List.length e; unfold lblW at this; simp at this
  · unfold stLabel lblW
    rw [hf]
    dsimp only
    rw [List.getLast?_concat, List.dropLast_concat, if_pos ⟨rfl, lbl_ok hi⟩]
theorem row_goes (op : Int) : (O.rowAt op).ka = 10 → op = 18 ∨ op = 19 := by
  intro h
  cases ho : O.isOp op
  · rw [O.rowAt_no ho] at h; exact absurd h (by decide)
  · have hb := O.isOp_yes ho
    have : ∀ j : Fin 30, (O.rowAt (j.1 : Int)).ka = 10 → (j.1 : Int) = 18 ∨ (j.1 : Int) = 19 := by decide
    have h2 := this ⟨op.toNat, by omega⟩
    rw [show ((op.toNat : Nat) : Int) = op by omega] at h2
    exact h2 h
theorem ofA_goes {op : Int} (h : op = 18 ∨ op = 19) : ofA (O.rowAt op).name = some op.toNat ∧ kindA op = 1 ∧ (O.rowAt op).ka = 10 ∧ (O.rowAt op).kb = 0 := by
  rcases h with rfl | rfl <;> exact ⟨by decide, by decide, by decide, by decide⟩
/-- No instruction has a label in its text. -/
theorem rdA_jmp {x : C.I3} (h : x.1 = 18 ∨ x.1 = 19) : rdA (joinW (jmpW x)) = none := by
  refine rdA_none fun y hy e => ?_
  have ej : joinW (jmpW x) = (O.rowAt x.1).name ++ 32 :: lbl x.2.1 := rfl
  rw [ej] at e
  unfold O.textI at e
  have hsp : O.partL (O.rowAt y.1).ka y.2.1 ++ O.partL (O.rowAt y.1).kb y.2.2 = [] ∨ ∃ r, O.partL (O.rowAt y.1).ka y.2.1 ++ O.partL (O.rowAt y.1).kb y.2.2 = 32 :: r := by
    rcases O.part_sp (O.rowAt y.1).ka y.2.1 with e | ⟨r, e⟩
    · rw [e]; exact O.part_sp (O.rowAt y.1).kb y.2.2
    · rw [e]; exact .inr ⟨_, rfl⟩
  obtain ⟨e1, e2⟩ := O.split_at (O.name_no y.1) (O.name_no x.1) hsp (.inr ⟨_, rfl⟩) e
  obtain ⟨ho, _, _⟩ := O.ok_op hy
  have hx : O.isOp x.1 = true := by rcases h with h | h <;> rw [h] <;> decide
  have e3 := O.name_inj ho hx e1
  obtain ⟨_, _, k1, k2⟩ := ofA_goes h
  rw [← e3] at k1 k2
  unfold O.partL at e2
  rw [k1, k2, if_neg (by decide), if_pos rfl, List.append_nil] at e2
  injection e2 with _ e2
  have e4 : O.word 10 y.2.1 = Lib.itoa y.2.1 := rfl
  obtain ⟨c, r, e5, hc⟩ := W.itoa_cons y.2.1
  rw [e4, e5] at e2
  unfold lbl at e2
  injection e2 with e2 _
  subst e2
  revert hc
  decide
theorem step_jmp {st : St} {n : Nat} {x : C.I3} {f : F.Fu} (h : C.gB x = true) (hf : st.im.fn.getLast? = some f) :
    step st (n, jmpW x) = some (addI st (x.1, 0, 0) (st.ns ++ [⟨n, st.im.fn.length - 1, f.bd.length, lbl x.2.1, false⟩])) := by
  obtain ⟨h1, h2⟩ := C.gB_ka h
  have h3 := row_goes x.1 h2
  obtain ⟨k1, k2, k3, k4⟩ := ofA_goes h3
  have e1 : step st (n, jmpW x) = stInstr st (n, jmpW x) := step_instr (.inl (by simp))
  rw [e1]
  unfold stInstr
  rw [hf]
  dsimp only
  rw [rdA_jmp h3]
  dsimp only
  unfold stName jmpW
  dsimp only
  have h4 : ((x.1.toNat : Nat) : Int) = x.1 := by omega
  rw [k1]
  dsimp only
  rw [h4, if_pos ⟨by rw [k2]; decide, lbl_ok (C.gB_in h)⟩]
theorem jmpW_clean {x : C.I3} (h : C.gB x = true) : cleanW (jmpW x) = true := by
  obtain ⟨h1, h2⟩ := C.gB_ka h
  refine (cleanW_iff _).2 ⟨by unfold jmpW; exact List.cons_ne_nil _ _, fun w hw => ?_⟩
  unfold jmpW at hw
  rcases List.mem_cons.1 hw with rfl | hw
  · exact name_clean (O.ok_op h1).1
  · rw [List.mem_singleton] at hw; subst hw; exact okN_clean (lbl_ok (C.gB_in h))

end Go.Proofs.YtifobiajjhknbaaGreatDoor.M

namespace Go.Proofs.YtifobiajjhknbaaGreatDoor.M
open Go.RowKit

/-! ### A written image -/

/-- A body's lines, from a place on; with labels, if so. -/
def itemT (lab : Bool) (i : Nat) (x : C.I3) : List (List Bs) := if lab = true then [lblW i, if C.gB x = true then jmpW x else wordsX x] else [wordsX x]
def bodyT (lab : Bool) (i : Nat) : List C.I3 → List (List Bs)
  | [] => []
  | x :: r => itemT lab i x ++ bodyT lab (i + 1) r
/-- What such a line is read as, and its names. -/
def zj (lab : Bool) (x : C.I3) : C.I3 := if lab = true ∧ C.gB x = true then (x.1, 0, 0) else x
def nmsX (lab : Bool) (k n i : Nat) (x : C.I3) : List Nm := if lab = true then ⟨n, k, i, lbl i, true⟩ :: (if C.gB x = true then [⟨n + 1, k, i, lbl x.2.1, false⟩] else []) else []
def nmsT (lab : Bool) (k n i : Nat) : List C.I3 → List Nm
  | [] => []
  | x :: r => nmsX lab k n i x ++ nmsT lab k (n + (itemT lab i x).length) (i + 1) r
def headT (f : F.Fu) : List (List Bs) := [funcW, f.nm, S.shG f.ar f.rs] :: (if f.lc = [] then [] else [[localW, W.txt f.lc]])
def funcT (lab : Bool) (f : F.Fu) : List (List Bs) := headT f ++ bodyT lab 0 f.bd
def zf (lab : Bool) (f : F.Fu) : F.Fu := ⟨f.nm, f.ar, f.rs, f.lc, f.bd.map (zj lab)⟩
def nmsF (lab : Bool) (k n : Nat) (f : F.Fu) : List Nm := nmsT lab k (n + (headT f).length) 0 f.bd
def nmsFs (lab : Bool) (k n : Nat) : List F.Fu → List Nm
  | [] => []
  | f :: r => nmsF lab k n f ++ nmsFs lab (k + 1) (n + (funcT lab f).length) r
def shapeT (s : List Int) : List Bs := [shapeW, S.shS s]
def imgT (lab : Bool) (p : I.Im) : List (List Bs) := p.sh.map shapeT ++ p.fn.flatMap (funcT lab)

theorem run_cons {st st' : St} {l : Ln} (h : step st l = some st') (r : List Ln) : runL st (l :: r) = runL st' r := by rw [runL, h]
theorem last_snoc {α : Type} (l : List α) (x : α) : (l ++ [x]).getLast? = some x := List.getLast?_concat
theorem addI_snoc (sh : List (List Int)) (fs : List F.Fu) (f : F.Fu) (ns ns' : List Nm) (x : C.I3) : addI ⟨⟨sh, fs ++ [f]⟩, ns⟩ x ns' = ⟨⟨sh, fs ++ [⟨f.nm, f.ar, f.rs, f.lc, f.bd ++ [x]⟩]⟩, ns'⟩ := by
  unfold addI
  rw [upd_append]
theorem run_item (lab : Bool) (sh : List (List Int)) (fs : List F.Fu) (f : F.Fu) (ns : List Nm) (n : Nat) (x : C.I3) (hx : C.ok1 x = true) (hi : f.bd.length ≤ 511) (r : List Ln) :
    runL ⟨⟨sh, fs ++ [f]⟩, ns⟩ (num n (itemT lab f.bd.length x) ++ r) = runL ⟨⟨sh, fs ++ [⟨f.nm, f.ar, f.rs, f.lc, f.bd ++ [zj lab x]⟩]⟩, ns ++ nmsX lab fs.length n f.bd.length x⟩ r := by
  cases lab with
  | false =>
    have e : itemT false f.bd.length x = [wordsX x] := rfl
    have e2 : zj false x = x := rfl
    have e3 : nmsX false fs.length n f.bd.length x = [] := rfl
    rw [e, e2, e3, List.append_nil]
    exact (run_cons (step_words hx (last_snoc fs f)) r).trans (by rw [addI_snoc])
  | true =>
    have e : itemT true f.bd.length x = [lblW f.bd.length, if C.gB x = true then jmpW x else wordsX x] := rfl
    rw [e]
    have h1 := step_label (st := ⟨⟨sh, fs ++ [f]⟩, ns⟩) (n := n) (i := f.bd.length) (by omega) (last_snoc fs f)
    have hl : (fs ++ [f]).length - 1 = fs.length := by simp
    dsimp only at h1
    rw [hl] at h1
    show runL _ ((n, lblW f.bd.length) :: (n + 1, _) :: r) = _
    rw [run_cons h1]
    cases hg : C.gB x with
    | true =>
      rw [if_pos rfl]
      have h2 := step_jmp (st := ⟨⟨sh, fs ++ [f]⟩, ns ++ [⟨n, fs.length, f.bd.length, lbl f.bd.length, true⟩]⟩) (n := n + 1) hg (last_snoc fs f)
      rw [run_cons h2, addI_snoc]
      dsimp only
      rw [hl]
      have e2 : zj true x = (x.1, 0, 0) := by unfold zj; rw [hg]; rfl
      have e3 : nmsX true fs.length n f.bd.length x = [⟨n, fs.length, f.bd.length, lbl f.bd.length, true⟩, ⟨n + 1, fs.length, f.bd.length, lbl x.2.1, false⟩] := by unfold nmsX; rw [hg]; rfl
      rw [e2, e3, List.append_assoc]
      rfl
    | false =>
      rw [if_neg (by decide)]
      have h2 := step_words (st := ⟨⟨sh, fs ++ [f]⟩, ns ++ [⟨n, fs.length, f.bd.length, lbl f.bd.length, true⟩]⟩) (n := n + 1) hx (last_snoc fs f)
      rw [run_cons h2, addI_snoc]
      have e2 : zj true x = x := by unfold zj; rw [hg]; rfl
      have e3 : nmsX true fs.length n f.bd.length x = [⟨n, fs.length, f.bd.length, lbl f.bd.length, true⟩] := by unfold nmsX; rw [hg]; rfl
      rw [e2, e3]
theorem run_body (lab : Bool) (sh : List (List Int)) (fs : List F.Fu) : ∀ (b : List C.I3) (f : F.Fu) (ns : List Nm) (n : Nat) (r : List Ln), b.all C.ok1 = true → f.bd.length + b.length ≤ 512 →
    runL ⟨⟨sh, fs ++ [f]⟩, ns⟩ (num n (bodyT lab f.bd.length b) ++ r) = runL ⟨⟨sh, fs ++ [⟨f.nm, f.ar, f.rs, f.lc, f.bd ++ b.map (zj lab)⟩]⟩, ns ++ nmsT lab fs.length n f.bd.length b⟩ r
  | [], f, ns, n, r, _, _ => by simp [bodyT, nmsT, num]
  | x :: b, f, ns, n, r, hb, hl => by
    rw [List.all_cons, Bool.and_eq_true] at hb
    rw [List.length_cons] at hl
    have h1 := run_item lab sh fs f ns n x hb.1 (by omega) (num (n + (itemT lab f.bd.length x).length) (bodyT lab (f.bd.length + 1) b) ++ r)
    have e : f.bd.length + 1 = (f.bd ++ [zj lab x]).length := by simp
    have h2 := run_body lab sh fs b ⟨f.nm, f.ar, f.rs, f.lc, f.bd ++ [zj lab x]⟩ (ns ++ nmsX lab fs.length n f.bd.length x) (n + (itemT lab f.bd.length x).length) r hb.2 (by simp; omega)
    dsimp only at h2
    rw [← e] at h2
    rw [bodyT, num_append, List.append_assoc, h1, h2, nmsT, List.map_cons]
    simp only [List.append_assoc, List.cons_append, List.nil_append]
theorem hasL_below {ns : List Nm} {k : Nat} (h : ∀ x ∈ ns, x.fn < k) : hasL ns k = false := by
  unfold hasL
  rw [List.any_eq_false]
  intro x hx
  have := h x hx
  rw [Bool.and_eq_true, decide_eq_true_iff]
  rintro ⟨_, e⟩
  omega
theorem run_head (sh : List (List Int)) (fs : List F.Fu) (f : F.Fu) (ns : List Nm) (n : Nat) (hf : F.okF f = true) (hn : ∀ x ∈ ns, x.fn < fs.length) (r : List Ln) :
    runL ⟨⟨sh, fs⟩, ns⟩ (num n (headT f) ++ r) = runL ⟨⟨sh, fs ++ [⟨f.nm, f.ar, f.rs, f.lc, []⟩]⟩, ns⟩ r := by
  obtain ⟨h1, h2, h3, h4, h5⟩ := (F.okF_iff f).1 hf
  have s1 : step ⟨⟨sh, fs⟩, ns⟩ (n, [funcW, f.nm, S.shG f.ar f.rs]) = some ⟨⟨sh, fs ++ [⟨f.nm, f.ar, f.rs, [], []⟩]⟩, ns⟩ := by
    refine step_2 (shape_two fun b e => ?_) ?_
    · have := congrArg List.length e; simp at this
    · unfold stFunc
      dsimp only
      rw [if_pos ⟨rfl, h1⟩, S.rdG_sh h2]
      rfl
  unfold headT
  by_cases hl : f.lc = []
  · rw [if_pos hl, hl]
    exact run_cons s1 r
  · rw [if_neg hl]
    have s2 : step ⟨⟨sh, fs ++ [⟨f.nm, f.ar, f.rs, [], []⟩]⟩, ns⟩ (n + 1, [localW, W.txt f.lc]) = some ⟨⟨sh, fs ++ [⟨f.nm, f.ar, f.rs, f.lc, []⟩]⟩, ns⟩ := by
      refine step_3 (shape_two fun b e => ?_) (func_three fun b c e => ?_) ?_
      · injection e with e _; exact absurd e (by decide)
      · have := congrArg List.length e; simp at this
      · unfold stLocal
        rw [last_snoc]
        dsimp only
        have hh : hasL ns ((fs ++ [(⟨f.nm, f.ar, f.rs, [], []⟩ : F.Fu)]).length - 1) = false := hasL_below (by simpa using hn)
        rw [if_pos ⟨rfl, rfl, rfl, hh⟩, W.untxt_txt (by omega) h3, Option.map_some, upd_append]
    show runL _ ((n, _) :: (n + 1, _) :: r) = _
    rw [run_cons s1, run_cons s2]
theorem run_func (lab : Bool) (sh : List (List Int)) (fs : List F.Fu) (f : F.Fu) (ns : List Nm) (n : Nat) (hf : F.okF f = true) (hn : ∀ x ∈ ns, x.fn < fs.length) (r : List Ln) :
    runL ⟨⟨sh, fs⟩, ns⟩ (num n (funcT lab f) ++ r) = runL ⟨⟨sh, fs ++ [zf lab f]⟩, ns ++ nmsF lab fs.length n f⟩ r := by
  obtain ⟨_, _, _, h4, _⟩ := (F.okF_iff f).1 hf
  obtain ⟨_, b2, _, b4⟩ := C.okB_parts h4
  have hb : f.bd.all C.ok1 = true := by
    rw [List.all_eq_true] at b4 ⊢
    intro x hx
    have := b4 x hx
    unfold C.itemB at this
    rw [Bool.and_eq_true] at this
    exact this.1
  have h2 := run_body lab sh fs f.bd ⟨f.nm, f.ar, f.rs, f.lc, []⟩ ns (n + (headT f).length) r hb (by simpa using b2)
  unfold funcT
  rw [num_append, List.append_assoc, run_head sh fs f ns n hf hn]
  exact h2
theorem nmsX_fn {lab : Bool} {k n i : Nat} {x : C.I3} : ∀ m ∈ nmsX lab k n i x, m.fn = k := by
  intro m hm
  unfold nmsX at hm
  split at hm
  · rcases List.mem_cons.1 hm with rfl | hm
    · rfl
    · split at hm
      · rw [List.mem_singleton] at hm; subst hm; rfl
      · cases hm
  · cases hm
theorem nmsT_fn {lab : Bool} {k : Nat} : ∀ (b : List C.I3) (n i : Nat), ∀ m ∈ nmsT lab k n i b, m.fn = k
  | [], n, i, m, hm => by cases hm
  | x :: b, n, i, m, hm => by
    rw [nmsT, List.mem_append] at hm
    rcases hm with hm | hm
    · exact nmsX_fn m hm
    · exact nmsT_fn b _ _ m hm
theorem run_funcs (lab : Bool) (sh : List (List Int)) : ∀ (q fs : List F.Fu) (ns : List Nm) (n : Nat) (r : List Ln), q.all F.okF = true → (∀ x ∈ ns, x.fn < fs.length) →
    runL ⟨⟨sh, fs⟩, ns⟩ (num n (q.flatMap (funcT lab)) ++ r) = runL ⟨⟨sh, fs ++ q.map (zf lab)⟩, ns ++ nmsFs lab fs.length n q⟩ r
  | [], fs, ns, n, r, _, _ => by simp [num, nmsFs]
  | f :: q, fs, ns, n, r, hq, hn => by
    rw [List.all_cons, Bool.and_eq_true] at hq
    have h2 := run_funcs lab sh q (fs ++ [zf lab f]) (ns ++ nmsF lab fs.length n f) (n + (funcT lab f).length) r hq.2 (by
      intro x hx
      rw [List.length_append]
      rcases List.mem_append.1 hx with hx | hx
      · have := hn x hx; omega
      · have := nmsT_fn _ _ _ x hx
        simp; omega)
    rw [List.flatMap_cons, num_append, List.append_assoc, run_func lab sh fs f ns n hq.1 hn, h2]
    simp [nmsFs]
theorem run_shapes : ∀ (q sh : List (List Int)) (n : Nat) (r : List Ln), q.all S.okS = true → runL ⟨⟨sh, []⟩, []⟩ (num n (q.map shapeT) ++ r) = runL ⟨⟨sh ++ q, []⟩, []⟩ r
  | [], sh, n, r, _ => by simp [num]
  | s :: q, sh, n, r, hq => by
    rw [List.all_cons, Bool.and_eq_true] at hq
    have s1 : step ⟨⟨sh, []⟩, []⟩ (n, shapeT s) = some ⟨⟨sh ++ [s], []⟩, []⟩ := by
      refine step_1 ?_
      unfold stShape shapeT
      dsimp only
      rw [if_pos ⟨rfl, rfl⟩, S.rdS_sh hq.1]
      rfl
    have h2 := run_shapes q (sh ++ [s]) (n + 1) r hq.2
    rw [List.map_cons]
    show runL _ ((n, shapeT s) :: (num (n + 1) (q.map shapeT) ++ r)) = _
    rw [run_cons s1, h2, List.append_assoc]
    rfl
theorem run_img (lab : Bool) {p : I.Im} (hp : I.okI p = true) : runL st0 (num 1 (imgT lab p)) = .inl ⟨⟨p.sh, p.fn.map (zf lab)⟩, nmsFs lab 0 (1 + p.sh.length) p.fn⟩ := by
  obtain ⟨_, h3, h4⟩ := (I.okI_iff p).1 hp
  unfold imgT
  rw [num_append]
  have h1 := run_shapes p.sh [] 1 (num (1 + p.sh.length) (p.fn.flatMap (funcT lab))) h3
  have h2 := run_funcs lab p.sh p.fn [] [] (1 + p.sh.length) [] h4 (fun x hx => by cases hx)
  rw [List.append_nil] at h2
  rw [List.length_map]
  unfold st0 I.nilI
  rw [h1, List.nil_append, h2]
  rfl

/-! ### The lines are the text's -/

theorem item_clean {lab : Bool} {i : Nat} {x : C.I3} (hx : C.ok1 x = true) (hi : i ≤ 511) : ∀ w ∈ itemT lab i x, cleanW w = true := by
  intro w hw
  unfold itemT at hw
  split at hw
  · rcases List.mem_cons.1 hw with rfl | hw
    · exact lblW_clean (by omega)
    · rw [List.mem_singleton] at hw
      subst hw
      cases hg : C.gB x with
      | true => rw [if_pos rfl]; exact jmpW_clean hg
      | false => rw [if_neg (by decide)]; exact wordsX_clean hx
  · rw [List.mem_singleton] at hw
    subst hw
    exact wordsX_clean hx
theorem body_clean {lab : Bool} : ∀ (b : List C.I3) (i : Nat), b.all C.ok1 = true → i + b.length ≤ 512 → ∀ w ∈ bodyT lab i b, cleanW w = true
  | [], _, _, _, w, hw => by cases hw
  | x :: b, i, hb, hl, w, hw => by
    rw [List.all_cons, Bool.and_eq_true] at hb
    rw [List.length_cons] at hl
    rw [bodyT, List.mem_append] at hw
    rcases hw with hw | hw
    · exact item_clean hb.1 (by omega) w hw
    · exact body_clean b (i + 1) hb.2 (by omega) w hw
theorem ok_body {f : F.Fu} (hf : F.okF f = true) : f.bd.all C.ok1 = true ∧ 1 ≤ f.bd.length ∧ f.bd.length ≤ 512 ∧ ∀ x ∈ f.bd, C.gN x < (f.bd.length : Int) := by
  obtain ⟨_, _, _, h4, _⟩ := (F.okF_iff f).1 hf
  obtain ⟨b1, b2, _, b4⟩ := C.okB_parts h4
  rw [List.all_eq_true] at b4
  refine ⟨List.all_eq_true.2 fun x hx => ?_, b1, b2, fun x hx => ?_⟩
  all_goals
    have := b4 x hx
    unfold C.itemB at this
    rw [Bool.and_eq_true, decide_eq_true_iff] at this
  · exact this.1
  · exact this.2
theorem func_clean {lab : Bool} {f : F.Fu} (hf : F.okF f = true) : ∀ w ∈ funcT lab f, cleanW w = true := by
  obtain ⟨h1, h2, h3, h4, h5⟩ := (F.okF_iff f).1 hf
  obtain ⟨b1, _, b2, _⟩ := ok_body hf
  intro w hw
  unfold funcT headT at hw
  rcases List.mem_append.1 hw with hw | hw
  · rcases List.mem_cons.1 hw with rfl | hw
    · refine (cleanW_iff _).2 ⟨by simp, fun v hv => ?_⟩
      rcases List.mem_cons.1 hv with rfl | hv
      · decide
      · rcases List.mem_cons.1 hv with rfl | hv
        · exact okN_clean h1
        · rw [List.mem_singleton] at hv; subst hv; exact shG_clean h2
    · split at hw
      · cases hw
      · rename_i hl
        rw [List.mem_singleton] at hw
        subst hw
        refine (cleanW_iff _).2 ⟨by simp, fun v hv => ?_⟩
        rcases List.mem_cons.1 hv with rfl | hv
        · decide
        · rw [List.mem_singleton] at hv; subst hv; exact txt_clean hl (by omega) h3
  · exact body_clean _ _ b1 (by omega) w hw
theorem img_clean {lab : Bool} {p : I.Im} (hp : I.okI p = true) : ∀ w ∈ imgT lab p, cleanW w = true := by
  obtain ⟨_, h3, h4⟩ := (I.okI_iff p).1 hp
  intro w hw
  unfold imgT at hw
  rcases List.mem_append.1 hw with hw | hw
  · obtain ⟨s, hs, rfl⟩ := List.mem_map.1 hw
    refine (cleanW_iff _).2 ⟨by unfold shapeT; simp, fun v hv => ?_⟩
    unfold shapeT at hv
    rcases List.mem_cons.1 hv with rfl | hv
    · decide
    · rw [List.mem_singleton] at hv; subst hv; exact shS_clean (List.all_eq_true.1 h3 s hs)
  · obtain ⟨f, hf, hw⟩ := List.mem_flatMap.1 hw
    exact func_clean (List.all_eq_true.1 h4 f hf) w hw

/-! ### Names are put -/

/-- The same, but for numbers of instructions whose names are left. -/
def near (r : List Nm) (a b : List F.Fu) : Prop :=
  a.length = b.length ∧ ∀ (j : Nat) (f g : F.Fu), a[j]? = some f → b[j]? = some g → f.nm = g.nm ∧ f.ar = g.ar ∧ f.rs = g.rs ∧ f.lc = g.lc ∧ f.bd.length = g.bd.length ∧
    ∀ (i : Nat) (x y : C.I3), f.bd[i]? = some x → g.bd[i]? = some y → x.1 = y.1 ∧ x.2.2 = y.2.2 ∧ (x.2.1 = y.2.1 ∨ ∃ m ∈ r, m.lb = false ∧ m.fn = j ∧ m.pl = i)
theorem near_nil {a b : List F.Fu} (h : near [] a b) : a = b := by
  obtain ⟨h0, h⟩ := h
  refine List.ext_getElem h0 fun j h1 h2 => ?_
  obtain ⟨e1, e2, e3, e4, e5, e6⟩ := h j _ _ (List.getElem?_eq_getElem h1) (List.getElem?_eq_getElem h2)
  have e7 : a[j].bd = b[j].bd := by
    refine List.ext_getElem e5 fun i h3 h4 => ?_
    obtain ⟨p1, p2, p3⟩ := e6 i _ _ (List.getElem?_eq_getElem h3) (List.getElem?_eq_getElem h4)
    rcases p3 with p3 | ⟨m, hm, _⟩
    · exact Prod.ext p1 (Prod.ext p3 p2)
    · cases hm
  cases ha : a[j] with
  | mk nm ar rs lc bd =>
    cases hb : b[j] with
    | mk nm' ar' rs' lc' bd' =>
      rw [ha, hb] at e1 e2 e3 e4 e7
      dsimp only at e1 e2 e3 e4 e7
      rw [e1, e2, e3, e4, e7]
theorem near_label {m : Nm} {r : List Nm} {a b : List F.Fu} (hm : m.lb = true) (h : near (m :: r) a b) : near r a b := by
  obtain ⟨h0, h⟩ := h
  refine ⟨h0, fun j f g hf hg => ?_⟩
  obtain ⟨e1, e2, e3, e4, e5, e6⟩ := h j f g hf hg
  refine ⟨e1, e2, e3, e4, e5, fun i x y hx hy => ?_⟩
  obtain ⟨p1, p2, p3⟩ := e6 i x y hx hy
  refine ⟨p1, p2, ?_⟩
  rcases p3 with p3 | ⟨k, hk, k1, k2⟩
  · exact .inl p3
  · rcases List.mem_cons.1 hk with rfl | hk
    · rw [hm] at k1; cases k1
    · exact .inr ⟨k, hk, k1, k2⟩
theorem near_put {m : Nm} {r : List Nm} {a b : List F.Fu} {g : F.Fu} {y : C.I3} (hg : b[m.fn]? = some g) (hy : g.bd[m.pl]? = some y) (h : near (m :: r) a b) : near r (putA m y.2.1 a) b := by
  obtain ⟨h0, h⟩ := h
  unfold putA
  refine ⟨by rw [List.length_modify]; exact h0, fun j f' g' hf' hg' => ?_⟩
  rw [List.getElem?_modify] at hf'
  cases hf : a[j]? with
  | none => rw [hf] at hf'; cases hf'
  | some f =>
    rw [hf] at hf'
    injection hf' with hf'
    dsimp only at hf'
    obtain ⟨e1, e2, e3, e4, e5, e6⟩ := h j f g' hf hg'
    by_cases hj : m.fn = j
    · rw [if_pos hj] at hf'
      subst hf'
      refine ⟨e1, e2, e3, e4, by dsimp only; rw [List.length_modify]; exact e5, fun i x' y' hx' hy' => ?_⟩
      dsimp only at hx'
      rw [List.getElem?_modify] at hx'
      cases hx : f.bd[i]? with
      | none => rw [hx] at hx'; cases hx'
      | some x =>
        rw [hx] at hx'
        injection hx' with hx'
        dsimp only at hx'
        obtain ⟨p1, p2, p3⟩ := e6 i x y' hx hy'
        by_cases hi : m.pl = i
        · rw [if_pos hi] at hx'
          subst hx'
          refine ⟨p1, p2, .inl ?_⟩
          subst hj hi
          rw [hg] at hg'
          injection hg' with hg'
          subst hg'
          rw [hy] at hy'
          injection hy' with hy'
          subst hy'
          rfl
        · rw [if_neg hi] at hx'
          subst hx'
          refine ⟨p1, p2, ?_⟩
          rcases p3 with p3 | ⟨k, hk, k1, k2, k3⟩
          · exact .inl p3
          · rcases List.mem_cons.1 hk with rfl | hk
            · exact absurd k3 hi
            · exact .inr ⟨k, hk, k1, k2, k3⟩
    · rw [if_neg hj] at hf'
      subst hf'
      refine ⟨e1, e2, e3, e4, e5, fun i x y' hx hy' => ?_⟩
      obtain ⟨p1, p2, p3⟩ := e6 i x y' hx hy'
      refine ⟨p1, p2, ?_⟩
      rcases p3 with p3 | ⟨k, hk, k1, k2, k3⟩
      · exact .inl p3
      · rcases List.mem_cons.1 hk with rfl | hk
        · exact absurd k2 hj
        · exact .inr ⟨k, hk, k1, k2, k3⟩
/-- Each label but once; each name a label's place, that its instruction in b has. -/
theorem resL_near {ns : List Nm} {b : List F.Fu} (hd : ns.Pairwise fun x y => ¬ (x.lb = true ∧ x.fn = y.fn ∧ x.s = y.s ∧ y.lb = true))
    (hv : ∀ m ∈ ns, m.lb = false → ∃ g y n, b[m.fn]? = some g ∧ g.bd[m.pl]? = some y ∧ kindA y.1 = 1 ∧ placeOf ns m.fn m.s = some n ∧ y.2.1 = (n : Int)) :
    ∀ (r pre : List Nm) (a : List F.Fu), ns = pre ++ r → near r a b → resL ns pre a r = .inl b
  | [], pre, a, _, h => by rw [near_nil h]; rfl
  | m :: r, pre, a, hn, h => by
    have hn2 : ns = (pre ++ [m]) ++ r := by rw [hn]; simp
    rw [resL]
    cases hm : m.lb with
    | true =>
      have ha : again pre m = false := by
        unfold again
        rw [List.any_eq_false]
        intro y hy
        rw [Bool.and_eq_true, Bool.and_eq_true, decide_eq_true_iff, decide_eq_true_iff]
        rintro ⟨h1, h2, h3⟩
        rw [hn] at hd
        exact (List.pairwise_append.1 hd).2.2 y hy m (by simp) ⟨h1, h2, h3, hm⟩
      rw [if_pos rfl, ha, if_neg (by decide)]
      exact resL_near hd hv r (pre ++ [m]) a hn2 (near_label hm h)
    | false =>
      obtain ⟨g, y, n, h1, h2, h3, h4, h5⟩ := hv m (by rw [hn]; simp) hm
      obtain ⟨h0, hh⟩ := h
      have hj : m.fn < a.length := by
        rw [h0]
        rcases Nat.lt_or_ge m.fn b.length with h | h
        · exact h
        · rw [List.getElem?_eq_none h] at h1; cases h1
      obtain ⟨e1, e2, e3, e4, e5, e6⟩ := hh m.fn _ g (List.getElem?_eq_getElem hj) h1
      have hi : m.pl < a[m.fn].bd.length := by
        rw [e5]
        rcases Nat.lt_or_ge m.pl g.bd.length with h | h
        · exact h
        · rw [List.getElem?_eq_none h] at h2; cases h2
      have hop : opAt a m = y.1 := by
        unfold opAt
        rw [List.getElem?_eq_getElem hj]
        show ((a[m.fn].bd[m.pl]?).map Prod.fst).getD 0 = y.1
        rw [List.getElem?_eq_getElem hi]
        exact (e6 m.pl _ y (List.getElem?_eq_getElem hi) h2).1
      have hva : valA ns a m = .inl n := by
        unfold valA
        rw [hop, if_pos h3, h4]
      rw [if_neg (by decide), hva]
      dsimp only
      rw [← h5]
      exact resL_near hd hv r (pre ++ [m]) _ hn2 (near_put h1 h2 ⟨h0, hh⟩)

/-! ### The names of a written image -/

/-- What each name is. -/
def nmOk (k : Nat) (b : List C.I3) (i : Nat) (m : Nm) : Prop :=
  m.fn = k ∧ i ≤ m.pl ∧ (∃ x, b[m.pl - i]? = some x ∧ (m.lb = false → C.gB x = true ∧ m.s = lbl x.2.1)) ∧ (m.lb = true → m.s = lbl m.pl)
theorem nmsT_ok {k : Nat} : ∀ (b : List C.I3) (n i : Nat), ∀ m ∈ nmsT true k n i b, nmOk k b i m
  | [], n, i, m, hm => by cases hm
  | x :: b, n, i, m, hm => by
    rw [nmsT, List.mem_append] at hm
    rcases hm with hm | hm
    · unfold nmsX at hm
      rw [if_pos rfl] at hm
      rcases List.mem_cons.1 hm with rfl | hm
      · exact ⟨rfl, Nat.le_refl _, ⟨x, by simp, fun h => by cases h⟩, fun _ => rfl⟩
      · split at hm
        · rename_i hg
          rw [List.mem_singleton] at hm
          subst hm
          exact ⟨rfl, Nat.le_refl _, ⟨x, by simp, fun _ => ⟨hg, rfl⟩⟩, fun h => by cases h⟩
        · cases hm
    · obtain ⟨h1, h2, ⟨y, h3, h4⟩, h5⟩ := nmsT_ok b _ _ m hm
      refine ⟨h1, by omega, ⟨y, ?_, h4⟩, h5⟩
      rw [show m.pl - i = (m.pl - (i + 1)) + 1 by omega]
      exact h3
theorem nmsT_label {k : Nat} : ∀ (b : List C.I3) (n i t : Nat), t < b.length → ∃ m ∈ nmsT true k n i b, m.lb = true ∧ m.fn = k ∧ m.s = lbl ((i + t : Nat) : Int)
  | [], n, i, t, h => by simp at h
  | x :: b, n, i, 0, h => ⟨⟨n, k, i, lbl i, true⟩, by rw [nmsT, nmsX, if_pos rfl]; simp, rfl, rfl, rfl⟩
  | x :: b, n, i, t + 1, h => by
    obtain ⟨m, h1, h2, h3, h4⟩ := nmsT_label (k := k) b (n + (itemT true i x).length) (i + 1) t (by simpa using h)
    exact ⟨m, by rw [nmsT]; exact List.mem_append_right _ h1, h2, h3, by rw [h4]; congr 2; omega⟩
theorem nmsT_jump {k : Nat} : ∀ (b : List C.I3) (n i t : Nat) (x : C.I3), b[t]? = some x → C.gB x = true → ∃ m ∈ nmsT true k n i b, m.lb = false ∧ m.fn = k ∧ m.pl = i + t
  | [], n, i, t, x, h, _ => by simp at h
  | y :: b, n, i, 0, x, h, hg => by
    rw [List.getElem?_cons_zero] at h
    injection h with h
    subst h
    exact ⟨⟨n + 1, k, i, lbl y.2.1, false⟩, by rw [nmsT, nmsX, if_pos rfl, if_pos hg]; simp, rfl, rfl, rfl⟩
  | y :: b, n, i, t + 1, x, h, hg => by
    obtain ⟨m, h1, h2, h3, h4⟩ := nmsT_jump (k := k) b (n + (itemT true i y).length) (i + 1) t x (by simpa using h) hg
    exact ⟨m, by rw [nmsT]; exact List.mem_append_right _ h1, h2, h3, by omega⟩
theorem nmsFs_ok : ∀ (q : List F.Fu) (k n : Nat), ∀ m ∈ nmsFs true k n q, ∃ j f, q[j]? = some f ∧ nmOk (k + j) f.bd 0 m
  | [], k, n, m, hm => by cases hm
  | f :: q, k, n, m, hm => by
    rw [nmsFs, List.mem_append] at hm
    rcases hm with hm | hm
    · exact ⟨0, f, rfl, nmsT_ok f.bd _ 0 m hm⟩
    · obtain ⟨j, g, h1, h2⟩ := nmsFs_ok q (k + 1) _ m hm
      exact ⟨j + 1, g, h1, by rw [show k + (j + 1) = k + 1 + j by omega]; exact h2⟩
theorem nmsFs_label : ∀ (q : List F.Fu) (k n j t : Nat) (f : F.Fu), q[j]? = some f → t < f.bd.length → ∃ m ∈ nmsFs true k n q, m.lb = true ∧ m.fn = k + j ∧ m.s = lbl (t : Int)
  | [], k, n, j, t, f, h, _ => by simp at h
  | g :: q, k, n, 0, t, f, h, ht => by
    rw [List.getElem?_cons_zero] at h
    injection h with h
    subst h
    obtain ⟨m, h1, h2, h3, h4⟩ := nmsT_label (k := k) g.bd (n + (headT g).length) 0 t ht
    exact ⟨m, by rw [nmsFs]; exact List.mem_append_left _ h1, h2, h3, by rw [h4, Nat.zero_add]⟩
  | g :: q, k, n, j + 1, t, f, h, ht => by
    obtain ⟨m, h1, h2, h3, h4⟩ := nmsFs_label q (k + 1) (n + (funcT true g).length) j t f (by simpa using h) ht
    exact ⟨m, by rw [nmsFs]; exact List.mem_append_right _ h1, h2, by omega, h4⟩
theorem nmsFs_jump : ∀ (q : List F.Fu) (k n j t : Nat) (f : F.Fu) (x : C.I3), q[j]? = some f → f.bd[t]? = some x → C.gB x = true → ∃ m ∈ nmsFs true k n q, m.lb = false ∧ m.fn = k + j ∧ m.pl = t
  | [], k, n, j, t, f, x, h, _, _ => by simp at h
  | g :: q, k, n, 0, t, f, x, h, hx, hg => by
    rw [List.getElem?_cons_zero] at h
    injection h with h
    subst h
    obtain ⟨m, h1, h2, h3, h4⟩ := nmsT_jump (k := k) g.bd (n + (headT g).length) 0 t x hx hg
    exact ⟨m, by rw [nmsFs]; exact List.mem_append_left _ h1, h2, h3, by omega⟩
  | g :: q, k, n, j + 1, t, f, x, h, hx, hg => by
    obtain ⟨m, h1, h2, h3, h4⟩ := nmsFs_jump q (k + 1) (n + (funcT true g).length) j t f x (by simpa using h) hx hg
    exact ⟨m, by rw [nmsFs]; exact List.mem_append_right _ h1, h2, by omega, h4⟩
def apart (x y : Nm) : Prop := ¬ (x.lb = true ∧ x.fn = y.fn ∧ x.s = y.s ∧ y.lb = true)
theorem nmsX_apart {k n i : Nat} {x : C.I3} : (nmsX true k n i x).Pairwise apart := by
  unfold nmsX
  rw [if_pos rfl]
  split
  · rw [List.pairwise_cons]
    refine ⟨fun y hy => ?_, List.pairwise_singleton _ _⟩
    rw [List.mem_singleton] at hy
    subst hy
    rintro ⟨_, _, _, h⟩
    cases h
  · exact List.pairwise_singleton _ _
theorem nmsT_apart {k : Nat} : ∀ (b : List C.I3) (n i : Nat), i + b.length ≤ 512 → (nmsT true k n i b).Pairwise apart
  | [], n, i, _ => List.Pairwise.nil
  | x :: b, n, i, hl => by
    rw [List.length_cons] at hl
    rw [nmsT, List.pairwise_append]
    refine ⟨nmsX_apart, nmsT_apart b _ (i + 1) (by omega), fun y hy z hz => ?_⟩
    rintro ⟨h1, _, h3, h4⟩
    obtain ⟨_, z2, ⟨w, z3, _⟩, z4⟩ := nmsT_ok b _ _ z hz
    have z5 : z.pl - (i + 1) < b.length := by
      rcases Nat.lt_or_ge (z.pl - (i + 1)) b.length with h | h
      · exact h
      · rw [List.getElem?_eq_none h] at z3; cases z3
    have hy2 : y = ⟨n, k, i, lbl i, true⟩ := by
      unfold nmsX at hy
      rw [if_pos rfl] at hy
      rcases List.mem_cons.1 hy with rfl | hy
      · rfl
      · split at hy
        · rw [List.mem_singleton] at hy; subst hy; cases h1
        · cases hy
    subst hy2
    rw [z4 h4] at h3
    have := lbl_inj (by omega) (by omega) h3
    omega
theorem nmsFs_apart : ∀ (q : List F.Fu) (k n : Nat), (∀ f ∈ q, f.bd.length ≤ 512) → (nmsFs true k n q).Pairwise apart
  | [], k, n, _ => List.Pairwise.nil
  | f :: q, k, n, h => by
    rw [nmsFs, List.pairwise_append]
    refine ⟨nmsT_apart f.bd _ 0 (by have := h f (by simp); omega), nmsFs_apart q _ _ (fun g hg => h g (by simp [hg])), fun y hy z hz => ?_⟩
    rintro ⟨_, h2, _, _⟩
    have e1 := nmsT_fn _ _ _ y hy
    obtain ⟨j, g, _, e2, _⟩ := nmsFs_ok q _ _ z hz
    omega
theorem place_of {q : List F.Fu} {n j t : Nat} {f : F.Fu} (hq : ∀ f ∈ q, f.bd.length ≤ 512) (hj : q[j]? = some f) (ht : t < f.bd.length) : placeOf (nmsFs true 0 n q) j (lbl (t : Int)) = some t := by
  obtain ⟨m, h1, h2, h3, h4⟩ := nmsFs_label q 0 n j t f hj ht
  unfold placeOf
  cases hf : (nmsFs true 0 n q).find? fun y => y.lb && (decide (y.fn = j) && decide (y.s = lbl (t : Int))) with
  | none =>
    rw [List.find?_eq_none] at hf
    exact absurd (by rw [h2, h3, h4]; simp) (hf m h1)
  | some m' =>
    have hm := List.mem_of_find?_eq_some hf
    have hp := List.find?_some hf
    rw [Bool.and_eq_true, Bool.and_eq_true, decide_eq_true_iff, decide_eq_true_iff] at hp
    obtain ⟨p1, p2, p3⟩ := hp
    obtain ⟨j', g, g1, _, _, ⟨x, g3, _⟩, g4⟩ := nmsFs_ok q 0 n m' hm
    have g5 : m'.pl < g.bd.length := by
      rcases Nat.lt_or_ge (m'.pl - 0) g.bd.length with h | h
      · exact h
      · rw [List.getElem?_eq_none h] at g3; cases g3
    have g6 := hq g (List.mem_of_getElem? g1)
    have g7 := hq f (List.mem_of_getElem? hj)
    rw [g4 p1] at p3
    have := lbl_inj (by omega) (by omega) p3
    rw [Option.map_some]
    congr 1
    omega
theorem near_img {p : I.Im} (hp : I.okI p = true) (n : Nat) : near (nmsFs true 0 n p.fn) (p.fn.map (zf true)) p.fn := by
  obtain ⟨_, _, h4⟩ := (I.okI_iff p).1 hp
  refine ⟨by simp, fun j f g hf hg => ?_⟩
  rw [List.getElem?_map, hg] at hf
  injection hf with hf
  subst hf
  have hok := List.all_eq_true.1 h4 g (List.mem_of_getElem? hg)
  obtain ⟨b1, _, _, _⟩ := ok_body hok
  refine ⟨rfl, rfl, rfl, rfl, by unfold zf; simp, fun i x y hx hy => ?_⟩
  unfold zf at hx
  dsimp only at hx
  rw [List.getElem?_map, hy] at hx
  injection hx with hx
  subst hx
  unfold zj
  cases hgb : C.gB y with
  | false => rw [if_neg (by simp)]; exact ⟨rfl, rfl, .inl rfl⟩
  | true =>
    rw [if_pos ⟨rfl, rfl⟩]
    have ho := List.all_eq_true.1 b1 y (List.mem_of_getElem? hy)
    obtain ⟨_, hk⟩ := C.gB_ka hgb
    obtain ⟨_, _, _, hkb⟩ := ofA_goes (row_goes y.1 hk)
    have h3 := (O.ok_op ho).2.2
    rw [hkb] at h3
    have := (O.in_bounds h3).2.2 rfl
    obtain ⟨m, m1, m2, m3, m4⟩ := nmsFs_jump p.fn 0 n j i g y hg hy hgb
    exact ⟨rfl, this.symm, .inr ⟨m, m1, m2, by omega, m4⟩⟩
theorem kind_goes {y : C.I3} (h : C.gB y = true) : kindA y.1 = 1 := (ofA_goes (row_goes y.1 (C.gB_ka h).2)).2.1
theorem res_img {p : I.Im} (hp : I.okI p = true) (n : Nat) : resL (nmsFs true 0 n p.fn) [] (p.fn.map (zf true)) (nmsFs true 0 n p.fn) = .inl p.fn := by
  obtain ⟨_, _, h4⟩ := (I.okI_iff p).1 hp
  have hq : ∀ f ∈ p.fn, f.bd.length ≤ 512 := fun f hf => (ok_body (List.all_eq_true.1 h4 f hf)).2.2.1
  refine resL_near (nmsFs_apart p.fn 0 n hq) (fun m hm hl => ?_) _ [] _ rfl (near_img hp n)
  obtain ⟨j, f, h1, h2, h3, ⟨x, h5, h6⟩, _⟩ := nmsFs_ok p.fn 0 n m hm
  obtain ⟨hg, hs⟩ := h6 hl
  obtain ⟨_, _, _, b4⟩ := ok_body (List.all_eq_true.1 h4 f (List.mem_of_getElem? h1))
  have hx := b4 x (List.mem_of_getElem? h5)
  rw [C.gN_yes hg] at hx
  have hin := C.gB_in hg
  rw [Nat.zero_add] at h2
  refine ⟨f, x, x.2.1.toNat, by rw [h2]; exact h1, h5, kind_goes hg, ?_, by omega⟩
  rw [hs, h2]
  have := place_of (n := n) hq h1 (t := x.2.1.toNat) (by omega)
  rw [show ((x.2.1.toNat : Nat) : Int) = x.2.1 by omega] at this
  exact this
theorem nms_false : ∀ (q : List F.Fu) (k n : Nat), nmsFs false k n q = []
  | [], _, _ => rfl
  | f :: q, k, n => by
    have h : ∀ (b : List C.I3) (n i : Nat), nmsT false k n i b = [] := by
      intro b
      induction b with
      | nil => intro n i; rfl
      | cons x b ih => intro n i; rw [nmsT, ih]; rfl
    rw [nmsFs, nms_false q, nmsF, h]
    rfl
theorem zf_false (q : List F.Fu) : q.map (zf false) = q := by
  have h : ∀ x : C.I3, zj false x = x := fun x => rfl
  have h2 : ∀ f : F.Fu, zf false f = f := fun f => by unfold zf; rw [show (zj false) = id from funext h, List.map_id]
  rw [show (zf false) = id from funext h2, List.map_id]
/-- THE TEXT OF AN IMAGE SAYS IT. -/
theorem end_img (lab : Bool) {p : I.Im} (hp : I.okI p = true) : runL st0 (linesL (flat (imgT lab p))) = .inl ⟨⟨p.sh, p.fn.map (zf lab)⟩, nmsFs lab 0 (1 + p.sh.length) p.fn⟩ ∧ endL ⟨⟨p.sh, p.fn.map (zf lab)⟩, nmsFs lab 0 (1 + p.sh.length) p.fn⟩ = (p, 0, 0) := by
  refine ⟨by rw [lines_flat (img_clean hp), run_img lab hp], ?_⟩
  unfold endL
  dsimp only
  have hr : resL (nmsFs lab 0 (1 + p.sh.length) p.fn) [] (p.fn.map (zf lab)) (nmsFs lab 0 (1 + p.sh.length) p.fn) = .inl p.fn := by
    cases lab with
    | false => rw [nms_false, zf_false]; rfl
    | true => exact res_img hp _
  rw [hr]
  dsimp only
  rw [if_pos hp]
theorem parse_img (lab : Bool) {p : I.Im} (hp : I.okI p = true) (hl : (flat (imgT lab p)).length ≤ 131072) : parseL (flat (imgT lab p)) = (p, 0, 0) := by
  obtain ⟨h1, h2⟩ := end_img lab hp
  rw [parse_else (by omega)]
  unfold sayL
  rw [h1]
  exact h2
theorem names_cut {ns : List Nm} (h : ∀ m ∈ ns, m.fn ≠ 0) : namesL ns 0 = [] := by
  unfold namesL
  rw [List.map_eq_nil_iff, List.filter_eq_nil_iff]
  intro m hm
  have := h m hm
  rw [Bool.and_eq_true, decide_eq_true_iff]
  rintro ⟨_, e⟩
  omega
theorem names_body : ∀ (b : List C.I3) (n i : Nat), (namesL (nmsT true 0 n i b) 0).length = b.length
  | [], n, i => rfl
  | x :: b, n, i => by
    have ih := names_body b (n + (itemT true i x).length) (i + 1)
    unfold namesL at ih ⊢
    rw [List.length_map] at ih
    rw [nmsT, List.length_map, List.filter_append, List.length_append, ih, nmsX, if_pos rfl, List.length_cons]
    have : (List.filter (fun m : Nm => m.lb && decide ((m.fn : Int) = 0)) (⟨n, 0, i, lbl i, true⟩ :: (if C.gB x = true then [⟨n + 1, 0, i, lbl x.2.1, false⟩] else []))).length = 1 := by
      split <;> simp
    rw [this]
    omega
theorem labels_img {p : I.Im} (hp : I.okI p = true) (hl : (flat (imgT true p)).length ≤ 131072) {f : F.Fu} (hf : p.fn[0]? = some f) : (labelsL (flat (imgT true p)) 0).length = f.bd.length := by
  obtain ⟨h1, h2⟩ := end_img true hp
  unfold labelsL
  rw [if_neg (by omega)]
  unfold labsL
  rw [h1]
  dsimp only
  rw [h2, if_pos rfl]
  cases hq : p.fn with
  | nil => rw [hq] at hf; cases hf
  | cons g q =>
    rw [hq] at hf
    injection hf with hf
    subst hf
    rw [nmsFs]
    have e : ∀ a b : List Nm, namesL (a ++ b) 0 = namesL a 0 ++ namesL b 0 := by intro a b; unfold namesL; rw [List.filter_append, List.map_append]
    rw [e, names_cut (ns := nmsFs true (0 + 1) _ q) (fun m hm => ?_), List.append_nil]
    · exact names_body g.bd _ 0
    · obtain ⟨j, _, _, h, _⟩ := nmsFs_ok q _ _ m hm
      omega

end Go.Proofs.YtifobiajjhknbaaGreatDoor.M

namespace Go.Proofs.YtifobiajjhknbaaGreatDoor
open Go.RowKit

section
variable {P : Program} {ops : Array Oper} {md : Region.Mode}

end
end Go.Proofs.YtifobiajjhknbaaGreatDoor

namespace Go.Proofs.YtifobiajjhknbaaGreatDoor.S
open Go.RowKit W

theorem all_no {l : List Int} {p : Int → Bool} {k : Nat} (hk : k < l.length) (h : p l[k] = false) : l.all p = false :=
  List.all_eq_false.2 ⟨_, List.getElem_mem hk, by rw [h]; decide⟩
theorem all_step {l : List Int} {p : Int → Bool} {k : Nat} (hk : k < l.length) (h : (l.take k).all p = true) (h2 : p l[k] = true) : (l.take (k + 1)).all p = true := by
  rw [List.take_succ_eq_append_getElem hk, List.all_append, h]
  simp [h2]
theorem knownF_any (t : Int) (w : World) : Calls Tryz.prog 58 #[.int .i64 t] w fun e w' => e = .returned (.bool (knownB t)) ∧ Keep NoB w w' :=
  (known_any t w).mono fun _ _ ⟨he, hw⟩ => ⟨he, by rw [← hw]; exact Keep.refl _ _⟩
set_option maxHeartbeats 1000000 in
theorem heldF_any (t : Int) (w : World) : Calls Tryz.prog 95 #[.int .i64 t] w fun e w' => e = .returned (.bool (heldB t)) ∧ Keep NoB w w' := by
  have HK := Lib.hid (fun w => known_any t w)
  cases hk : knownB t
  · rw [hk] at HK
    have hR : heldB t = false := by rw [known_not] at hk; rw [held_not]; omega
    rw [hR]
    clear hk hR
    go_enter Tryz.func95, Tryz.ntmps95
    go_wp2_with (go_at_call 58; refine (HK.out _).mono ?_; rintro e w1 ⟨rfl, rfl⟩)
    go_ret
    exact ⟨rfl, Keep.refl _ _⟩
  · rw [hk] at HK
    by_cases h4 : t = 4
    · subst h4
      have hR : heldB 4 = false := by decide
      rw [hR]
      clear hk hR
      go_enter Tryz.func95, Tryz.ntmps95
      go_wp2_with (go_at_call 58; refine (HK.out _).mono ?_; rintro e w1 ⟨rfl, rfl⟩)
      go_ret
      exact ⟨rfl, Keep.refl _ _⟩
    · have hR : heldB t = true := by rw [known_iff] at hk; rw [held_iff]; omega
      have hq : (t != 4) = true := by rw [bne_iff_ne]; exact h4
      rw [hR]
      clear hk hR h4
      go_enter Tryz.func95, Tryz.ntmps95
      go_wp2_with (go_at_call 58; refine (HK.out _).mono ?_; rintro e w1 ⟨rfl, rfl⟩)
      go_ret
      exact ⟨rfl, Keep.refl _ _⟩

set_option maxRecDepth 100000 in
set_option maxHeartbeats 2000000 in
theorem allS_any (A : Option Addr) (l : List Int) (n c : Nat) (w : World) (hr : Rd w A (ivs l)) (hn : Hid (l.length = n)) (hm : n ≤ 9223372036854775807) (R : Bool) (hR : Hid (R = l.all heldB)) :
    Calls Tryz.prog 94 #[.slice A n c, .func (.func 95) #[] #[]] w fun e w' => e = .returned (.bool R) ∧ Keep NoB w w' := by
  go_enter Tryz.func94, Tryz.ntmps94
  go_wp2
  go_loopw [9] (fun i wr => ∃ k : Nat, k ≤ n ∧ i = .int .i64 k ∧ Hid ((l.take k).all heldB = true) ∧ Keep NoB w wr) (fun i _ => n - (intOf i).toNat)
  case atStart => exact ⟨0, Nat.zero_le _, rfl, rfl, Keep.refl _ _⟩
  case round =>
    obtain ⟨k, hk, rfl, ht, hK⟩ := hrel
    by_cases hlt : k < n
    · have hka : k < l.length := by rw [hn.out]; exact hlt
      obtain ⟨ga, oa, rfl, hca⟩ := rdI_at hr (by omega)
      have ca := hK.cell (hca k hka) id
      have HT := Lib.hid (fun h => all_step (p := heldB) hka ht.out h)
      have HN := Lib.hid (fun h => all_no (p := heldB) hka h)
      clear hca hr ht
      generalize l[k] = x at ca HT HN
      have HC := Lib.hid (fun w => heldF_any x w)
      cases hx : heldB x
      · rw [hx] at HC
        obtain rfl : R = false := by rw [hR.out]; exact HN.out hx
        clear hx HT HN hR
        go_wp2_with (go_at_call 95; refine (HC.out _).mono ?_; rintro e w3 ⟨rfl, k3⟩)
        go_ret
        exact ⟨rfl, keepN hK k3⟩
      · rw [hx] at HC
        have HV := Lib.hid (HT.out hx)
        clear hx HT HN hR
        go_wp2_with (go_at_call 95; refine (HC.out _).mono ?_; rintro e w3 ⟨rfl, k3⟩)
        go_roundw
        case rel => exact ⟨k + 1, by omega, by go_num, HV, keepN hK k3⟩
        case measure => simp [intOf]; omega
    · obtain rfl : R = true := by
        rw [hR.out]
        have e1 := ht.out
        rwa [List.take_of_length_le (by rw [hn.out]; omega)] at e1
      clear hR
      go_wp2
      go_ret
      exact ⟨rfl, hK⟩

set_option maxRecDepth 100000 in
set_option maxHeartbeats 2000000 in
theorem allK_any (A : Option Addr) (l : List Int) (n c : Nat) (w : World) (hr : Rd w A (ivs l)) (hn : Hid (l.length = n)) (hm : n ≤ 9223372036854775807) (R : Bool) (hR : Hid (R = l.all knownB)) :
    Calls Tryz.prog 96 #[.slice A n c, .func (.func 58) #[] #[]] w fun e w' => e = .returned (.bool R) ∧ Keep NoB w w' := by
  go_enter Tryz.func96, Tryz.ntmps96
  go_wp2
  go_loopw [9] (fun i wr => ∃ k : Nat, k ≤ n ∧ i = .int .i64 k ∧ Hid ((l.take k).all knownB = true) ∧ Keep NoB w wr) (fun i _ => n - (intOf i).toNat)
  case atStart => exact ⟨0, Nat.zero_le _, rfl, rfl, Keep.refl _ _⟩
  case round =>
    obtain ⟨k, hk, rfl, ht, hK⟩ := hrel
    by_cases hlt : k < n
    · have hka : k < l.length := by rw [hn.out]; exact hlt
      obtain ⟨ga, oa, rfl, hca⟩ := rdI_at hr (by omega)
      have ca := hK.cell (hca k hka) id
      have HT := Lib.hid (fun h => all_step (p := knownB) hka ht.out h)
      have HN := Lib.hid (fun h => all_no (p := knownB) hka h)
      clear hca hr ht
      generalize l[k] = x at ca HT HN
      have HC := Lib.hid (fun w => knownF_any x w)
      cases hx : knownB x
      · rw [hx] at HC
        obtain rfl : R = false := by rw [hR.out]; exact HN.out hx
        clear hx HT HN hR
        go_wp2_with (go_at_call 58; refine (HC.out _).mono ?_; rintro e w3 ⟨rfl, k3⟩)
        go_ret
        exact ⟨rfl, keepN hK k3⟩
      · rw [hx] at HC
        have HV := Lib.hid (HT.out hx)
        clear hx HT HN hR
        go_wp2_with (go_at_call 58; refine (HC.out _).mono ?_; rintro e w3 ⟨rfl, k3⟩)
        go_roundw
        case rel => exact ⟨k + 1, by omega, by go_num, HV, keepN hK k3⟩
        case measure => simp [intOf]; omega
    · obtain rfl : R = true := by
        rw [hR.out]
        have e1 := ht.out
        rwa [List.take_of_length_le (by rw [hn.out]; omega)] at e1
      clear hR
      go_wp2
      go_ret
      exact ⟨rfl, hK⟩

set_option maxRecDepth 100000 in
set_option maxHeartbeats 2000000 in
theorem allH_any (A : Option Addr) (l : List Int) (n c : Nat) (w : World) (hr : Rd w A (ivs l)) (hn : Hid (l.length = n)) (hm : n ≤ 9223372036854775807) (R : Bool) (hR : Hid (R = l.all heldB)) :
    Calls Tryz.prog 96 #[.slice A n c, .func (.func 95) #[] #[]] w fun e w' => e = .returned (.bool R) ∧ Keep NoB w w' := by
  go_enter Tryz.func96, Tryz.ntmps96
  go_wp2
  go_loopw [9] (fun i wr => ∃ k : Nat, k ≤ n ∧ i = .int .i64 k ∧ Hid ((l.take k).all heldB = true) ∧ Keep NoB w wr) (fun i _ => n - (intOf i).toNat)
  case atStart => exact ⟨0, Nat.zero_le _, rfl, rfl, Keep.refl _ _⟩
  case round =>
    obtain ⟨k, hk, rfl, ht, hK⟩ := hrel
    by_cases hlt : k < n
    · have hka : k < l.length := by rw [hn.out]; exact hlt
      obtain ⟨ga, oa, rfl, hca⟩ := rdI_at hr (by omega)
      have ca := hK.cell (hca k hka) id
      have HT := Lib.hid (fun h => all_step (p := heldB) hka ht.out h)
      have HN := Lib.hid (fun h => all_no (p := heldB) hka h)
      clear hca hr ht
      generalize l[k] = x at ca HT HN
      have HC := Lib.hid (fun w => heldF_any x w)
      cases hx : heldB x
      · rw [hx] at HC
        obtain rfl : R = false := by rw [hR.out]; exact HN.out hx
        clear hx HT HN hR
        go_wp2_with (go_at_call 95; refine (HC.out _).mono ?_; rintro e w3 ⟨rfl, k3⟩)
        go_ret
        exact ⟨rfl, keepN hK k3⟩
      · rw [hx] at HC
        have HV := Lib.hid (HT.out hx)
        clear hx HT HN hR
        go_wp2_with (go_at_call 95; refine (HC.out _).mono ?_; rintro e w3 ⟨rfl, k3⟩)
        go_roundw
        case rel => exact ⟨k + 1, by omega, by go_num, HV, keepN hK k3⟩
        case measure => simp [intOf]; omega
    · obtain rfl : R = true := by
        rw [hR.out]
        have e1 := ht.out
        rwa [List.take_of_length_le (by rw [hn.out]; omega)] at e1
      clear hR
      go_wp2
      go_ret
      exact ⟨rfl, hK⟩

end Go.Proofs.YtifobiajjhknbaaGreatDoor.S

namespace Go.Proofs.YtifobiajjhknbaaGreatDoor.S
open Go.RowKit W

theorem blk2 {w : World} {g : Nat} {t : TypeId} {a0 a1 : Value} (h : Blk w g t #[a0, a1]) : w.cell? ⟨g, 0, none⟩ = some a0 ∧ w.cell? ⟨g, 1, none⟩ = some a1 := ⟨h.cell 0, h.cell 1⟩
theorem okS_len {l : List Int} (h : ¬ (1 ≤ l.length ∧ l.length ≤ 16)) : okS l = false := by unfold okS; rw [decide_eq_false h]; rfl
theorem okS_all {l : List Int} (h : l.all heldB = false) : okS l = false := by unfold okS; rw [h, Bool.and_false]
theorem okS_mk {l : List Int} (h : 1 ≤ l.length ∧ l.length ≤ 16) (h2 : l.all heldB = true) : okS l = true := (okS_iff l).2 ⟨h, h2⟩
theorem okG_len {a r : List Int} (h : ¬ (a.length + r.length ≤ 64)) : okG a r = false := by unfold okG; rw [decide_eq_false h]; rfl
theorem okG_args {a r : List Int} (h : a.all knownB = false) : okG a r = false := by unfold okG; rw [h, Bool.false_and, Bool.and_false]
theorem okG_res {a r : List Int} (h : r.all heldB = false) : okG a r = false := by unfold okG; rw [h, Bool.and_false, Bool.and_false]
theorem okG_mk {a r : List Int} (h : a.length + r.length ≤ 64) (h2 : a.all knownB = true) (h3 : r.all heldB = true) : okG a r = true := (okG_iff a r).2 ⟨h, h2, h3⟩
set_option maxRecDepth 100000 in
set_option maxHeartbeats 2000000 in
theorem chkS_any (A : Option Addr) (l : List Int) (n c : Nat) (w : World) (hr : Rd w A (ivs l)) (hn : Hid (l.length = n)) (hm : n ≤ 9223372036854775807) (R : Int) (hR : Hid (chkS l = R)) :
    Calls Tryz.prog 56 #[.slice A n c] w fun e w' => e = .returned (.int .i64 R) ∧ Keep NoB w w' := by
  by_cases h0 : n = 0
  · subst h0
    obtain rfl : 60 = R := by rw [← hR.out]; exact (chkS_no (okS_len (by rw [hn.out]; omega))).symm
    go_enter Tryz.func56, Tryz.ntmps56
    go_wp2
    go_ret
    exact ⟨rfl, Keep.refl _ _⟩
  have hq1 : ((n : Int) == 0) = false := by rw [beq_eq_false_iff_ne]; omega
  by_cases h1 : 16 < n
  · obtain rfl : 60 = R := by rw [← hR.out]; exact (chkS_no (okS_len (by rw [hn.out]; omega))).symm
    clear hR h0
    go_enter Tryz.func56, Tryz.ntmps56
    go_wp2
    go_ret
    exact ⟨rfl, Keep.refl _ _⟩
  have HC0 := Lib.hid (fun w hr (R : Bool) hR => allS_any A l n c w hr hn hm R hR)
  cases hh : l.all heldB
  · obtain rfl : 60 = R := by rw [← hR.out]; exact (chkS_no (okS_all hh)).symm
    have HC := Lib.hid (fun w hr => HC0.out w hr _ hh.symm)
    clear hh hR HC0 h0
    go_enter Tryz.func56, Tryz.ntmps56
    go_wp2_with (go_at_call 94; refine (HC.out _ hr).mono ?_; rintro e w1 ⟨rfl, k1⟩)
    go_ret
    exact ⟨rfl, k1⟩
  · obtain rfl : 0 = R := by rw [← hR.out]; exact (chkS_ok (okS_mk (by rw [hn.out]; omega) hh)).symm
    have HC := Lib.hid (fun w hr => HC0.out w hr _ hh.symm)
    clear hh hR HC0 h0
    go_enter Tryz.func56, Tryz.ntmps56
    go_wp2_with (go_at_call 94; refine (HC.out _ hr).mono ?_; rintro e w1 ⟨rfl, k1⟩)
    go_ret
    exact ⟨rfl, k1⟩

set_option maxRecDepth 100000 in
set_option maxHeartbeats 4000000 in
theorem chkG_any (A : Option Addr) (a : List Int) (n c : Nat) (B : Option Addr) (r : List Int) (m d : Nat) (w : World) (ha : Rd w A (ivs a)) (hr : Rd w B (ivs r)) (hn : Hid (a.length = n)) (hm : Hid (r.length = m)) (hn6 : n ≤ 4611686018427387903) (hm6 : m ≤ 4611686018427387903) (R : Int) (hR : Hid (chkG a r = R)) :
    Calls Tryz.prog 57 #[.agg #[.slice A n c, .slice B m d]] w fun e w' => e = .returned (.int .i64 R) ∧ Keep NoB w w' := by
  have bx := Blk.new w 32 #[.slice A n c, .slice B m d]
  have k0 := (Keep.refl NoB w).alloc (.cells #[.slice A n c, .slice B m d] 32)
  by_cases h1 : 64 < n + m
  · obtain rfl : 61 = R := by rw [← hR.out]; exact (chkG_no (okG_len (by rw [hn.out, hm.out]; omega))).symm
    have hq : (64 : Int) < (n : Int) + (m : Int) := by omega
    clear hR
    go_enter Tryz.func57, Tryz.ntmps57
    go_wp2
    go_ret
    exact ⟨rfl, k0⟩
  have hq : ¬ (64 : Int) < (n : Int) + (m : Int) := by omega
  have HA := Lib.hid (fun w hr (R : Bool) hR => allK_any A a n c w hr hn (by omega) R hR)
  have HB := Lib.hid (fun w hr (R : Bool) hR => allH_any B r m d w hr hm (by omega) R hR)
  cases h2 : a.all knownB
  · obtain rfl : 61 = R := by rw [← hR.out]; exact (chkG_no (okG_args h2)).symm
    have HA2 := Lib.hid (fun w hr => HA.out w hr _ h2.symm)
    clear h2 hR HA HB
    go_enter Tryz.func57, Tryz.ntmps57
    go_wp2_with (go_at_call 96; refine (HA2.out _ (ha.keepN k0)).mono ?_; rintro e w1 ⟨rfl, k1⟩)
    go_ret
    exact ⟨rfl, keepN k0 k1⟩
  have HA2 := Lib.hid (fun w hr => HA.out w hr _ h2.symm)
  cases h3 : r.all heldB
  · obtain rfl : 61 = R := by rw [← hR.out]; exact (chkG_no (okG_res h3)).symm
    have HB2 := Lib.hid (fun w hr => HB.out w hr _ h3.symm)
    clear h2 h3 hR HA HB
    go_enter Tryz.func57, Tryz.ntmps57
    go_wp2_with fail
    refine (HA2.out _ (ha.keepN k0)).mono ?_
    rintro e w1 ⟨rfl, k1⟩
    obtain ⟨c0, c1⟩ := blk2 (bx.keep k1 id)
    have hr1 := (hr.keepN k0).keepN k1
    go_wp2_with fail
    refine (HB2.out _ hr1).mono ?_
    rintro e w2 ⟨rfl, k2⟩
    go_wp2
    go_ret
    exact ⟨rfl, keepN (keepN k0 k1) k2⟩
  · obtain rfl : 0 = R := by rw [← hR.out]; exact (chkG_ok (okG_mk (by rw [hn.out, hm.out]; omega) h2 h3)).symm
    have HB2 := Lib.hid (fun w hr => HB.out w hr _ h3.symm)
    clear h2 h3 hR HA HB
    go_enter Tryz.func57, Tryz.ntmps57
    go_wp2_with fail
    refine (HA2.out _ (ha.keepN k0)).mono ?_
    rintro e w1 ⟨rfl, k1⟩
    obtain ⟨c0, c1⟩ := blk2 (bx.keep k1 id)
    have hr1 := (hr.keepN k0).keepN k1
    go_wp2_with fail
    refine (HB2.out _ hr1).mono ?_
    rintro e w2 ⟨rfl, k2⟩
    go_wp2
    go_ret
    exact ⟨rfl, keepN (keepN k0 k1) k2⟩

end Go.Proofs.YtifobiajjhknbaaGreatDoor.S

namespace Go.Proofs.YtifobiajjhknbaaGreatDoor.S
open Go.RowKit W

end Go.Proofs.YtifobiajjhknbaaGreatDoor.S

namespace Go.Proofs.YtifobiajjhknbaaGreatDoor.S
open Go.RowKit W

end Go.Proofs.YtifobiajjhknbaaGreatDoor.S

namespace Go.Proofs.YtifobiajjhknbaaGreatDoor.S
open Go.RowKit W

end Go.Proofs.YtifobiajjhknbaaGreatDoor.S

namespace Go.Proofs.YtifobiajjhknbaaGreatDoor.S
open Go.RowKit Go.Shelf W
attribute [local go_sem] Oper.semAt_some

/-- What a round keeps: the bytes. -/
def RdK (A : Option Addr) (b : List UInt8) (W W' : World) : Prop := V.Rd W A b → V.Rd W' A b
theorem RdK.trans {A : Option Addr} {b : List UInt8} {X Y Z : World} (h : RdK A b X Y) (h' : RdK A b Y Z) : RdK A b X Z := fun hr => h' (h hr)
theorem RdK.putObj {A : Option Addr} {b : List UInt8} (W : World) (l : Nat) (o o' : Obj) (hl : W.heap[l]? = some o) (ho : o.isCells = false) : RdK A b W (W.putObj l o') := fun hr h0 => by
  obtain ⟨ad, e, hc⟩ := hr h0
  refine ⟨ad, e, fun j u hu => ?_⟩
  have h1 := hc j u hu
  have hne : (ad.add j).block ≠ l := by
    intro e2
    unfold World.cell? at h1
    rw [e2, hl] at h1
    cases o with
    | cells cs t f => cases ho
    | _ => simp at h1
  exact (World.cell?_of_block (World.putObj_heap_other hne)).trans h1
end Go.Proofs.YtifobiajjhknbaaGreatDoor.S

namespace Go.Proofs.YtifobiajjhknbaaGreatDoor.S
open Go.RowKit Go.Shelf W
attribute [local go_sem] Oper.semAt_some

end Go.Proofs.YtifobiajjhknbaaGreatDoor.S

namespace Go.Proofs.YtifobiajjhknbaaGreatDoor.S
open Go.RowKit W

set_option maxRecDepth 100000 in
set_option maxHeartbeats 1000000 in
theorem ifS_no (A : Option Addr) (l : List Int) (na c : Nat) (w : World) (hr : Rd w A (ivs l)) (hn : Hid (l.length = na)) (hm : na ≤ 9223372036854775807) (ho : okS l = false) :
    Calls Tryz.prog 116 #[.slice A na c] w fun e w' => e = .returned (.tuple #[.slice none 0 0, .int .i64 60]) ∧ Keep NoB w w' := by
  have HC := Lib.hid (fun w hr => chkS_any A l na c w hr hn hm 60 (chkS_no ho))
  go_enter Tryz.func116, Tryz.ntmps116
  go_wp2_with (go_at_call 56; refine (HC.out _ hr).mono ?_; rintro e w1 ⟨rfl, k1⟩)
  go_ret2
  exact ⟨rfl, k1⟩
set_option maxRecDepth 100000 in
set_option maxHeartbeats 1000000 in
theorem ifS_yes (A : Option Addr) (l : List Int) (na c : Nat) (w : World) (hr : Rd w A (ivs l)) (hn : Hid (l.length = na)) (hm : na ≤ 9223372036854775807) (ho : okS l = true) :
    Calls Tryz.prog 116 #[.slice A na c] w fun e w' => e = .returned (.tuple #[.slice A na c, .int .i64 0]) ∧ Keep NoB w w' := by
  have HC := Lib.hid (fun w hr => chkS_any A l na c w hr hn hm 0 (chkS_ok ho))
  go_enter Tryz.func116, Tryz.ntmps116
  go_wp2_with (go_at_call 56; refine (HC.out _ hr).mono ?_; rintro e w1 ⟨rfl, k1⟩)
  go_ret2
  exact ⟨rfl, k1⟩

end Go.Proofs.YtifobiajjhknbaaGreatDoor.S
