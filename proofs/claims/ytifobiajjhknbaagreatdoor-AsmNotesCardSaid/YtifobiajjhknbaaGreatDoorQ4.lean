/-
  What Check, Ends, Goes, Kinds, Name and Effect answer. Conditions: none but that numbers fit an int64.
  The plain mathematics of layer code: instructions as triples, lists of them as cells, which lists are bodies, heads and stretches, what one more and one fewer make, how many have an op. No program, no conditions.
  The plain mathematics of functions: names, which may be, their bytes, their slots. No program, no conditions.
  An instruction's bytes, and its text, tell it: plain mathematics. No program, no conditions.
  The plain mathematics of reading an instruction from bytes: what is read, and that an instruction's bytes, whatever stands behind them, are read as it was. No program, no conditions.
  The plain mathematics of reading a body: what so many instructions one behind the other are, and what is read of a body's bytes. No program, no conditions.
  The plain mathematics of reading a function: what is read of bytes at a place. No program, no conditions.
  The plain mathematics of images: which may be, their sum, their bytes, and what is read of bytes. No program, no conditions.
  The document's Kinds, least, most, in and Check. Conditions: none but that numbers fit an int64.
  What Known, Check, Zero and Nil answer, the code's and the document's. No conditions.
  What Nil answers, the code's and the document's; great. No conditions.
  What the document's Ints and Same answer: are two lists the same? Conditions: the lists lie in memory.
  What Zeros and Of answer: new lists. Conditions: the lists lie in memory, no more than 4096 long.
  What Fits answers. Conditions: the lists lie in memory.
  What the listed package-level variables hold, carried from world to world; Letter and lettered. Conditions: the variables hold what their initialisers lay.
  What Show answers. Conditions: the variables that it reads hold what their initialisers lay; the value's number fits an int64.
  An array of strings among the listed package-level variables, as a list of texts. No conditions.
  What the project's own names of operations and codes answer, and what those that look a name up do. Conditions: the listed package-level variables hold the names.
  What the functions in an operand's fields tell: an operand's text. Conditions: the listed package-level variables hold what their initialisers lay.
  The document's in and Check. Conditions: none but that numbers fit an int64.
  The document's Ends and Goes. Conditions: none but that numbers fit an int64.
  The document's names and Name. No conditions.
  The document's find and Of. No conditions.
  A range over a function that is never left ahead of its end, whose iterator brings things of which something is known in the world in which each comes (En). No program, no conditions.
  The iterator of an instruction's operands: it brings each operand that there is, in order, with its functions as they lie in memory when it comes. Conditions: kinds are from 0 to 10.
  What Show answers. Conditions: the listed package-level variables hold what their initialisers lay; numbers fit an int64.
  The plain mathematics of Read, the code's and the document's: which value a text could be, and that both read just the texts of values. No program, no conditions.
  What Text answers, the code's and the document's. Conditions: the list lies in memory, the letters stand.
  What lettered and Types answer, the code's and the document's. Conditions: the letters stand; no more than 4096 bytes.
-/
import Derived.IntWalk
import Derived.LaidLaws
import Derived.LaidMore
import Derived.Lib.AppendIntMem
import Derived.Lib.AtoiBound
import Derived.Lib.DecodeN
import Derived.Lib.ItoaLen
import Derived.Lib.OthersKept
import Derived.Lib.RuneBytes
import Derived.Lib.SmallJoins
import Derived.Lib.Strings
import Derived.LoopIn
import Derived.LoopNIn
import Derived.OpenShut
import Derived.OwnWalkIn
import Derived.RangeFuncBound
import Derived.RangeFuncCalls
import Derived.RangeFuncLeaves
import Derived.RangeFuncNested
import Derived.Shelf.Abstract
import Derived.Shelf.RegionOpen
import Derived.TacticsInMore
import Derived.WalkKit
import Derived.Test.YtifobiajjhknbaaGreatDoorQ3
import Derived.Test.YtifobiajjhknbaaGreatDoorQ2
import Derived.Test.YtifobiajjhknbaaGreatDoorShelf
import Derived.Test.YtifobiajjhknbaaGreatDoorShelf2
namespace Go.Proofs.YtifobiajjhknbaaGreatDoor.O
open Go.RowKit

def chk (op a b : Int) : Int := if okI op a b = true then 0 else 40
def endsI (op a b : Int) : Bool := (rowR op a b).fin
def goesI (op a b : Int) : Bool := decide ((rowR op a b).ka = 10)
def goesN (op a b : Int) : Int := if goesI op a b = true then a else 0
theorem pr2 {a a' : Int} {b b' : Bool} (h1 : a = a') (h2 : b = b') : Ending.returned (.tuple #[.int .i64 a, .bool b]) = .returned (.tuple #[.int .i64 a', .bool b']) := by rw [h1, h2]

set_option maxHeartbeats 1000000 in
theorem check_any (op a b : Int) (w : World) :
    Calls Tryz.prog 184 #[instV op a b] w fun e w' => e = .returned (.int .i64 (chk op a b)) ∧ Keep NoB w w' := by
  have hK := (Keep.refl NoB w).alloc (.cells #[.int .i64 op, .int .i64 a, .int .i64 b] 37)
  obtain ⟨r, hr⟩ : ∃ r, Hid (rowR op a b = r) := ⟨_, rfl⟩
  have HR := Lib.hid (fun w => rowFor_any op a b r w hr)
  cases hok : okI op a b
  · have HX : Hid (chk op a b = 40) := by show _ = _; unfold chk; rw [if_neg (by rw [hok]; decide)]
    rw [hok] at HR
    clear hok hr
    go_enter Tryz.func184, Tryz.ntmps184
    go_wp2_with fail
    refine (HR.out _).mono ?_
    rintro e w1 ⟨rfl, k1⟩
    go_wp2
    go_ret
    exact ⟨by rw [HX.out]; rfl, (keepN hK k1).alloc _⟩
  · have HX : Hid (chk op a b = 0) := by show _ = _; unfold chk; rw [if_pos hok]
    rw [hok] at HR
    clear hok hr
    go_enter Tryz.func184, Tryz.ntmps184
    go_wp2_with fail
    refine (HR.out _).mono ?_
    rintro e w1 ⟨rfl, k1⟩
    go_wp2
    go_ret
    exact ⟨by rw [HX.out]; rfl, (keepN hK k1).alloc _⟩

set_option maxHeartbeats 1000000 in
theorem ends_any (op a b : Int) (w : World) :
    Calls Tryz.prog 183 #[instV op a b] w fun e w' => e = .returned (.bool (endsI op a b)) ∧ Keep NoB w w' := by
  have hK := (Keep.refl NoB w).alloc (.cells #[.int .i64 op, .int .i64 a, .int .i64 b] 37)
  obtain ⟨r, hr⟩ : ∃ r, Hid (rowR op a b = r) := ⟨_, rfl⟩
  have HR := Lib.hid (fun w => rowFor_any op a b r w hr)
  have HX : Hid (endsI op a b = r.fin) := by show _ = _; unfold endsI; rw [hr.out]
  clear hr
  go_enter Tryz.func183, Tryz.ntmps183
  go_wp2_with fail
  refine (HR.out _).mono ?_
  rintro e w1 ⟨rfl, k1⟩
  go_wp2
  go_ret
  exact ⟨by rw [HX.out]; rfl, (keepN hK k1).alloc _⟩

set_option maxHeartbeats 1000000 in
theorem goes_any (op a b : Int) (w : World) :
    Calls Tryz.prog 26 #[instV op a b] w fun e w' => e = .returned (.tuple #[.int .i64 (goesN op a b), .bool (goesI op a b)]) ∧ Keep NoB w w' := by
  have hB := Blk.new w 37 #[.int .i64 op, .int .i64 a, .int .i64 b]
  have hK := (Keep.refl NoB w).alloc (.cells #[.int .i64 op, .int .i64 a, .int .i64 b] 37)
  obtain ⟨r, hr⟩ : ∃ r, Hid (rowR op a b = r) := ⟨_, rfl⟩
  have HR := Lib.hid (fun w => rowFor_any op a b r w hr)
  by_cases hg : r.ka = 10
  · have h1 : goesI op a b = true := decide_eq_true (by rw [hr.out]; exact hg)
    have HX : Hid (goesN op a b = a ∧ goesI op a b = true) := ⟨by unfold goesN; rw [if_pos h1], h1⟩
    have hq : (r.ka != 10) = false := by rw [bne_eq_false_iff_eq]; exact hg
    clear hg h1 hr
    go_enter Tryz.func26, Tryz.ntmps26
    go_wp2_with fail
    refine (HR.out _).mono ?_
    rintro e w1 ⟨rfl, k1⟩
    have b1 := hB.keep k1 id
    have c1 : w1.cell? ⟨w.heap.size, 1, none⟩ = some (.int .i64 a) := b1.cell 1
    have hz := b1.lt
    have c2 : ∀ o, (w1.alloc o).cell? ⟨w.heap.size, 1, none⟩ = some (.int .i64 a) := fun o => (World.cell?_alloc_lt _ _ _ hz).trans c1
    go_wp2
    go_ret2
    exact ⟨pr2 HX.out.1.symm HX.out.2.symm, (keepN hK k1).alloc _⟩
  · have h1 : goesI op a b = false := decide_eq_false (by rw [hr.out]; exact hg)
    have HX : Hid (goesN op a b = 0 ∧ goesI op a b = false) := ⟨by unfold goesN; rw [if_neg (by rw [h1]; decide)], h1⟩
    have hq : (r.ka != 10) = true := by rw [bne_iff_ne]; exact hg
    clear hg h1 hr
    go_enter Tryz.func26, Tryz.ntmps26
    go_wp2_with fail
    refine (HR.out _).mono ?_
    rintro e w1 ⟨rfl, k1⟩
    go_wp2
    go_ret2
    exact ⟨pr2 HX.out.1.symm HX.out.2.symm, (keepN hK k1).alloc _⟩

set_option maxHeartbeats 1000000 in
theorem kinds_any (op : Int) (w : World) :
    Calls Tryz.prog 219 #[.int .i64 op] w fun e w' => e = .returned (.tuple #[.int .i64 (rowAt op).ka, .int .i64 (rowAt op).kb]) ∧ Keep NoB w w' := by
  obtain ⟨r, hr⟩ : ∃ r, Hid (rowAt op = r) := ⟨_, rfl⟩
  have HR := Lib.hid (fun w => rowOf_any op r w hr)
  rw [hr.out]
  clear hr
  go_enter Tryz.func219, Tryz.ntmps219
  go_wp2_with fail
  refine (HR.out _).mono ?_
  rintro e w1 ⟨rfl, k1⟩
  have b2 := Blk.new w1 125 (cells9 r)
  go_wp2
  go_quiet (fail)
  go_wp2
  go_ret2
  exact ⟨rfl, (k1.alloc _).drewN _⟩

end Go.Proofs.YtifobiajjhknbaaGreatDoor.O

namespace Go.Proofs.YtifobiajjhknbaaGreatDoor.C
open Go.RowKit O

/-- An instruction: its op, and its operands. -/
abbrev I3 := Int × Int × Int
/-- Instructions as cells. -/
def iis (l : List I3) : List Value := l.flatMap fun x => [.int .i64 x.1, .int .i64 x.2.1, .int .i64 x.2.2]
theorem iis_cons (x : I3) (l : List I3) : iis (x :: l) = [.int .i64 x.1, .int .i64 x.2.1, .int .i64 x.2.2] ++ iis l := by unfold iis; rw [List.flatMap_cons]
theorem iis_append (l r : List I3) : iis (l ++ r) = iis l ++ iis r := by unfold iis; rw [List.flatMap_append]
theorem iis_one (x : I3) : iis [x] = [.int .i64 x.1, .int .i64 x.2.1, .int .i64 x.2.2] := rfl
theorem iis_length (l : List I3) : (iis l).length = l.length * 3 := by
  induction l with
  | nil => rfl
  | cons v l ih => rw [iis_cons, List.length_append, ih]; simp; omega
theorem iis_at : ∀ (l : List I3) (i : Nat) (h : i < l.length), (iis l)[i * 3]? = some (.int .i64 l[i].1) ∧ (iis l)[i * 3 + 1]? = some (.int .i64 l[i].2.1) ∧ (iis l)[i * 3 + 2]? = some (.int .i64 l[i].2.2)
  | v :: l, 0, _ => by rw [iis_cons]; exact ⟨rfl, rfl, rfl⟩
  | v :: l, i + 1, h => by
    have := iis_at l i (by simpa using h)
    rw [iis_cons, show (i + 1) * 3 = i * 3 + 3 by omega]
    exact ⟨by simpa using this.1, by simpa using this.2.1, by simpa using this.2.2⟩
theorem rdJ_at {w : World} {A : Option Addr} {l : List I3} (h : Rd w A (iis l)) (h0 : 0 < l.length) : ∃ g off, A = some ⟨g, off, none⟩ ∧
    ∀ (i : Nat) (hi : i < l.length), w.cell? ⟨g, off + i * 3, none⟩ = some (.int .i64 l[i].1) ∧ w.cell? ⟨g, off + i * 3 + 1, none⟩ = some (.int .i64 l[i].2.1) ∧ w.cell? ⟨g, off + i * 3 + 2, none⟩ = some (.int .i64 l[i].2.2) := by
  obtain ⟨g, off, e, hc⟩ := h (by rw [iis_length]; omega)
  refine ⟨g, off, e, fun i hi => ?_⟩
  obtain ⟨h1, h2, h3⟩ := iis_at l i hi
  exact ⟨hc _ _ h1, hc _ _ h2, hc _ _ h3⟩

/-- May it be; does it end; does it go, and where to? -/
def ok1 (x : I3) : Bool := okI x.1 x.2.1 x.2.2
def eB (x : I3) : Bool := endsI x.1 x.2.1 x.2.2
def gB (x : I3) : Bool := goesI x.1 x.2.1 x.2.2
def gN (x : I3) : Int := goesN x.1 x.2.1 x.2.2
theorem gB_ka {x : I3} (h : gB x = true) : ok1 x = true ∧ (O.rowAt x.1).ka = 10 := by
  have h := of_decide_eq_true h
  cases hk : okI x.1 x.2.1 x.2.2
  · rw [rowR_no hk] at h; exact absurd h (by decide)
  · rw [rowR_ok hk] at h; exact ⟨hk, h⟩
theorem gB_in {x : I3} (h : gB x = true) : 0 ≤ x.2.1 ∧ x.2.1 ≤ 511 := by
  obtain ⟨h1, h2⟩ := gB_ka h
  have h3 := (ok_op h1).2.1
  rw [h2] at h3
  exact of_decide_eq_true h3
theorem gN_yes {x : I3} (h : gB x = true) : gN x = x.2.1 := if_pos h
theorem gN_no {x : I3} (h : gB x = false) : gN x = 0 := if_neg (by unfold gB at h; rw [h]; decide)
theorem gN_in (x : I3) : 0 ≤ gN x ∧ gN x ≤ 511 := by
  cases h : gB x
  · rw [gN_no h]; decide
  · rw [gN_yes h]; exact gB_in h
/-- Is a list a body? -/
def itemB (n : Nat) (x : I3) : Bool := ok1 x && decide (gN x < (n : Int))
def lastB (l : List I3) : Bool := match l.getLast? with | some x => eB x | none => false
def okB (l : List I3) : Bool := decide (l.length ≤ 512) && lastB l && l.all (itemB l.length)
def chkB (l : List I3) : Int := if okB l = true then 0 else 50
theorem chkB_ok {l : List I3} (h : okB l = true) : chkB l = 0 := if_pos h
theorem chkB_no {l : List I3} (h : okB l = false) : chkB l = 50 := if_neg (by rw [h]; decide)
theorem okB_parts {l : List I3} (h : okB l = true) : 1 ≤ l.length ∧ l.length ≤ 512 ∧ lastB l = true ∧ l.all (itemB l.length) = true := by
  unfold okB at h
  simp only [Bool.and_eq_true, decide_eq_true_eq] at h
  refine ⟨?_, h.1.1, h.1.2, h.2⟩
  rcases l with _ | ⟨x, l⟩
  · exact absurd h.1.2 (by decide)
  · simp
theorem okB_mk {l : List I3} (h1 : l.length ≤ 512) (h2 : lastB l = true) (h3 : l.all (itemB l.length) = true) : okB l = true := by
  unfold okB; rw [decide_eq_true h1, h2, h3]; rfl
theorem okB_long {l : List I3} (h : ¬ l.length ≤ 512) : okB l = false := by unfold okB; rw [decide_eq_false h]; rfl
theorem okB_last {l : List I3} (h : lastB l = false) : okB l = false := by unfold okB; rw [h]; simp
theorem okB_item {l : List I3} (h : l.all (itemB l.length) = false) : okB l = false := by unfold okB; rw [h]; simp
theorem lastB_at {l : List I3} (h : 0 < l.length) : lastB l = eB (l[l.length - 1]'(by omega)) := by
  unfold lastB
  rw [List.getLast?_eq_getElem?, List.getElem?_eq_getElem (by omega)]
theorem item_no1 {n : Nat} {x : I3} (h : ok1 x = false) : itemB n x = false := by unfold itemB; rw [h]; rfl
theorem item_no2 {n : Nat} {x : I3} (h : ¬ gN x < (n : Int)) : itemB n x = false := by unfold itemB; rw [decide_eq_false h]; simp
theorem item_yes {n : Nat} {x : I3} (h1 : ok1 x = true) (h2 : gN x < (n : Int)) : itemB n x = true := by unfold itemB; rw [h1, decide_eq_true h2]; rfl
theorem all_no {n : Nat} {l : List I3} {k : Nat} (hk : k < l.length) (h : itemB n l[k] = false) : l.all (itemB n) = false := by
  rw [List.all_eq_false]; exact ⟨_, List.getElem_mem hk, by rw [h]; decide⟩
end Go.Proofs.YtifobiajjhknbaaGreatDoor.C

namespace Go.Proofs.YtifobiajjhknbaaGreatDoor.F
open Go.RowKit W

/-- A letter; a digit; a name. -/
def letB (c : UInt8) : Bool := decide ((97 ≤ c.toNat ∧ c.toNat ≤ 122) ∨ (65 ≤ c.toNat ∧ c.toNat ≤ 90))
def digB (c : UInt8) : Bool := decide (48 ≤ c.toNat ∧ c.toNat ≤ 57)
def inB (c : UInt8) : Bool := letB c || digB c
def headB : List UInt8 → Bool
  | [] => false
  | c :: _ => letB c
def okN (s : List UInt8) : Bool := decide (s.length ≤ 32) && (headB s && s.all inB)
def chkN (s : List UInt8) : Int := if okN s = true then 0 else 71
theorem okN_iff (s : List UInt8) : okN s = true ↔ s.length ≤ 32 ∧ headB s = true ∧ s.all inB = true := by unfold okN; rw [Bool.and_eq_true, Bool.and_eq_true, decide_eq_true_iff]
theorem chkN_ok {s : List UInt8} (h : okN s = true) : chkN s = 0 := if_pos h
theorem chkN_no {s : List UInt8} (h : okN s = false) : chkN s = 71 := if_neg (by rw [h]; decide)
theorem okN_long {s : List UInt8} (h : ¬ s.length ≤ 32) : okN s = false := by unfold okN; rw [decide_eq_false h]; rfl
theorem okN_head {s : List UInt8} (h : headB s = false) : okN s = false := by unfold okN; rw [h]; simp
theorem okN_in {s : List UInt8} (h : s.all inB = false) : okN s = false := by unfold okN; rw [h]; simp
theorem headB_at {s : List UInt8} (h : 0 < s.length) : headB s = letB s[0] := by
  cases s with
  | nil => simp at h
  | cons c l => rfl
theorem letB_iff (c : UInt8) : letB c = true ↔ (97 ≤ c.toNat ∧ c.toNat ≤ 122) ∨ (65 ≤ c.toNat ∧ c.toNat ≤ 90) := by unfold letB; rw [decide_eq_true_iff]
theorem digB_iff (c : UInt8) : digB c = true ↔ 48 ≤ c.toNat ∧ c.toNat ≤ 57 := by unfold digB; rw [decide_eq_true_iff]

/-- A function. -/
structure Fu where
  nm : List UInt8
  ar : List Int
  rs : List Int
  lc : List Int
  bd : List C.I3
/-- It may be. -/
def okF (f : Fu) : Bool := okN f.nm && (S.okG f.ar f.rs && (f.lc.all knownB && (C.okB f.bd && decide (f.ar.length + f.rs.length + f.lc.length ≤ 64))))
def chkF (f : Fu) : Int := if okF f = true then 0 else 70
theorem okF_iff (f : Fu) : okF f = true ↔ okN f.nm = true ∧ S.okG f.ar f.rs = true ∧ f.lc.all knownB = true ∧ C.okB f.bd = true ∧ f.ar.length + f.rs.length + f.lc.length ≤ 64 := by
  unfold okF; rw [Bool.and_eq_true, Bool.and_eq_true, Bool.and_eq_true, Bool.and_eq_true, decide_eq_true_iff]
theorem chkF_ok {f : Fu} (h : okF f = true) : chkF f = 0 := if_pos h
theorem chkF_no {f : Fu} (h : okF f = false) : chkF f = 70 := if_neg (by rw [h]; decide)
theorem okF_not {f : Fu} (h : ¬ (okN f.nm = true ∧ S.okG f.ar f.rs = true ∧ f.lc.all knownB = true ∧ C.okB f.bd = true ∧ f.ar.length + f.rs.length + f.lc.length ≤ 64)) : okF f = false := by
  cases ho : okF f
  · rfl
  · exact absurd ((okF_iff f).1 ho) h
/-- Locals are checked as the arguments of a signature. -/
theorem okG_one (l : List Int) : S.okG l [] = true ↔ l.length ≤ 64 ∧ l.all knownB = true := by rw [S.okG_iff]; simp

/-- Are both the same? -/
def sameF (f g : Fu) : Bool := decide (f.nm = g.nm ∧ (f.ar = g.ar ∧ f.rs = g.rs) ∧ f.lc = g.lc ∧ f.bd = g.bd)
theorem sameF_iff (f g : Fu) : sameF f g = true ↔ f = g := by
  unfold sameF
  rw [decide_eq_true_iff]
  constructor
  · rintro ⟨h1, ⟨h2, h3⟩, h4, h5⟩
    cases f; cases g
    simp only at h1 h2 h3 h4 h5
    subst h1 h2 h3 h4 h5; rfl
  · rintro rfl; exact ⟨rfl, ⟨rfl, rfl⟩, rfl, rfl⟩

end Go.Proofs.YtifobiajjhknbaaGreatDoor.F

namespace Go.Proofs.YtifobiajjhknbaaGreatDoor.O

theorem in_bounds {k n : Int} (h : inK k n = true) : (-9223372036854775808 ≤ n ∧ n ≤ 9223372036854775807) ∧ (k ≠ 1 → 0 ≤ n ∧ n ≤ 511) ∧ (k = 0 → n = 0) := by
  have h := of_decide_eq_true h
  unfold lo hi at h
  repeat' split at h
  all_goals omega

theorem itoa_no (n : Int) : ∀ c ∈ Lib.itoa n, c ≠ 32 := by
  have hd : ∀ u, ∀ c ∈ Lib.decDigits u, c ≠ 32 := fun u c hc e => by
    have := W.dec_digits u c hc
    rw [e] at this
    exact absurd this (by decide)
  intro c hc
  rcases Int.lt_or_le n 0 with h | h
  · rw [W.itoa_minus h] at hc
    rcases List.mem_cons.1 hc with rfl | hc
    · decide
    · exact hd _ c hc
  · rw [W.itoa_pos h] at hc
    exact hd _ c hc
theorem nameAt_all {l : List (List UInt8)} {p : List UInt8 → Bool} (h : l.all p = true) (h0 : p [] = true) (n : Int) : p (A.nameAt l n) = true := by
  unfold A.nameAt
  split
  · rcases Nat.lt_or_ge n.toNat l.length with hlt | hge
    · rw [A.getD_at hlt]
      exact List.all_eq_true.1 h _ (List.getElem_mem hlt)
    · rw [A.getD_past hge]; exact h0
  · exact h0
def noSp (s : List UInt8) : Bool := s.all fun c => decide (c ≠ 32)
theorem noSp_mem {s : List UInt8} (h : noSp s = true) : ∀ c ∈ s, c ≠ 32 := fun c hc => by simpa using List.all_eq_true.1 h c hc
theorem word_no (k n : Int) : ∀ c ∈ word k n, c ≠ 32 := by
  unfold word
  split
  · apply noSp_mem
    unfold W.letC
    repeat' split
    all_goals decide
  · split
    · exact noSp_mem (nameAt_all (p := noSp) (by decide) (by decide) n)
    · split
      · exact noSp_mem (nameAt_all (p := noSp) (by decide) (by decide) n)
      · exact itoa_no n
theorem name_no (op : Int) : ∀ c ∈ (rowAt op).name, c ≠ 32 := noSp_mem (rowAt_all (p := fun r => noSp r.name) (by decide) (by decide) op)
theorem part_sp (k n : Int) : partL k n = [] ∨ ∃ r, partL k n = 32 :: r := by
  unfold partL
  split
  · exact .inl rfl
  · exact .inr ⟨_, rfl⟩
theorem rowsN_nodup : (List.range 30).all (fun i => (List.range 30).all fun j => decide ((rowsL.getD i row0).name = (rowsL.getD j row0).name → i = j)) = true := by decide +kernel
theorem name_inj {op op' : Int} (h1 : isOp op = true) (h2 : isOp op' = true) (h : (rowAt op).name = (rowAt op').name) : op = op' := by
  have x1 := isOp_yes h1
  have x2 := isOp_yes h2
  unfold rowAt at h
  rw [if_pos h1, if_pos h2] at h
  have e1 := List.all_eq_true.1 rowsN_nodup op.toNat (List.mem_range.2 (by omega))
  have e2 := List.all_eq_true.1 e1 op'.toNat (List.mem_range.2 (by omega))
  have := of_decide_eq_true e2 h
  omega
end Go.Proofs.YtifobiajjhknbaaGreatDoor.O

namespace Go.Proofs.YtifobiajjhknbaaGreatDoor.O

/-- What comes next, if nothing is wrong with it, is its number's bytes. -/
theorem nx_ok {l : List UInt8} (h : (V.nx l).2.2 = 0) : l = V.encL (V.nx l).1 ++ l.drop (V.nx l).2.1 ∧ (V.encL (V.nx l).1).length = (V.nx l).2.1 := by
  rcases l with _ | ⟨b, r⟩
  · cases h
  · rw [V.nx_cons] at h ⊢
    split at h
    · cases h
    · rename_i h1
      split at h
      · cases h
      · rename_i h2
        rw [if_neg h1, if_neg h2]
        have ht := V.td_rng b.toNat (by simpa using b.toNat_lt)
        obtain ⟨t, hT⟩ : ∃ t, V.td b.toNat = t + 1 := ⟨V.td b.toNat - 1, by omega⟩
        simp only
        have hw := V.dc_width b (r.take t) (V.td b.toNat) rfl (by rw [hT]; simp; omega)
        rw [hT] at h1 h2 hw ⊢
        rw [List.take_succ_cons] at h2 ⊢
        have e := hw.2.1 (by omega)
        rw [e]
        refine ⟨?_, by simp; omega⟩
        rw [List.drop_succ_cons, List.cons_append, List.take_append_drop]

theorem num_ok {l : List UInt8} {p m : Nat} (h : (V.NumR l p m).2.1 = 0) :
    l.drop p = V.encL (V.NumR l p m).1 ++ l.drop (V.NumR l p m).2.2 ∧ (V.NumR l p m).1 ≤ m ∧ (V.NumR l p m).1 < 18446744073709551616 ∧ (V.NumR l p m).2.2 = p + (V.encL (V.NumR l p m).1).length := by
  unfold V.NumR at h ⊢
  unfold V.bnd at h ⊢
  have hw := (V.nx_width (l.drop p)).2.2.2
  simp only at h ⊢
  split at h
  · rename_i h1; exact absurd h h1
  · rename_i h1
    split at h
    · cases h
    · rename_i h2
      rw [if_neg h1, if_neg h2]
      have e := nx_ok (l := l.drop p) h
      rw [List.drop_drop] at e
      exact ⟨e.1, by omega, hw, by rw [e.2]⟩
/-- An operand that is read: its number, the error, the place behind it. -/
def decP (k : Int) (l : List UInt8) (p : Nat) : Int × Nat × Nat :=
  if k = 0 then (0, 0, p)
  else if k = 1 then V.SigR l p (lo 1) (hi 1)
  else if (V.NumR l p (hi k).toNat).2.1 ≠ 0 then (0, (V.NumR l p (hi k).toNat).2.1, (V.NumR l p (hi k).toNat).2.2)
  else if inK k (V.NumR l p (hi k).toNat).1 = true then ((V.NumR l p (hi k).toNat).1, 0, (V.NumR l p (hi k).toNat).2.2) else (0, 40, (V.NumR l p (hi k).toNat).2.2)

/-- An instruction that is read: it, the error, the place behind it. -/
structure Dec where
  op : Int
  a : Int
  b : Int
  er : Nat
  pl : Nat
def decI (l : List UInt8) (p : Nat) : Dec :=
  if (V.NumR l p 29).2.1 ≠ 0 then ⟨0, 0, 0, (V.NumR l p 29).2.1, (V.NumR l p 29).2.2⟩
  else if (decP (rowAt (V.NumR l p 29).1).ka l (V.NumR l p 29).2.2).2.1 ≠ 0 then ⟨0, 0, 0, (decP (rowAt (V.NumR l p 29).1).ka l (V.NumR l p 29).2.2).2.1, (decP (rowAt (V.NumR l p 29).1).ka l (V.NumR l p 29).2.2).2.2⟩
  else if (decP (rowAt (V.NumR l p 29).1).kb l (decP (rowAt (V.NumR l p 29).1).ka l (V.NumR l p 29).2.2).2.2).2.1 ≠ 0 then
    ⟨0, 0, 0, (decP (rowAt (V.NumR l p 29).1).kb l (decP (rowAt (V.NumR l p 29).1).ka l (V.NumR l p 29).2.2).2.2).2.1, (decP (rowAt (V.NumR l p 29).1).kb l (decP (rowAt (V.NumR l p 29).1).ka l (V.NumR l p 29).2.2).2.2).2.2⟩
  else ⟨(V.NumR l p 29).1, (decP (rowAt (V.NumR l p 29).1).ka l (V.NumR l p 29).2.2).1, (decP (rowAt (V.NumR l p 29).1).kb l (decP (rowAt (V.NumR l p 29).1).ka l (V.NumR l p 29).2.2).2.2).1, 0,
    (decP (rowAt (V.NumR l p 29).1).kb l (decP (rowAt (V.NumR l p 29).1).ka l (V.NumR l p 29).2.2).2.2).2.2⟩

end Go.Proofs.YtifobiajjhknbaaGreatDoor.O

namespace Go.Proofs.YtifobiajjhknbaaGreatDoor.C
open Go.RowKit O

/-- What is read in one. -/
def d3 (l : List UInt8) (q : Nat) : I3 := ((decI l q).op, (decI l q).a, (decI l q).b)
/-- So many instructions, read one behind the other, and the place behind them. -/
def fwd (l : List UInt8) (p : Nat) : Nat → Option (List I3 × Nat)
  | 0 => some ([], p)
  | k + 1 => match fwd l p k with
    | none => none
    | some x => if (decI l x.2).er = 0 then some (x.1 ++ [d3 l x.2], (decI l x.2).pl) else none
/-- The body that stands at a place, and the place behind it. -/
def bodyOf (y : Option (List I3 × Nat)) : Option (List I3 × Nat) := match y with
  | none => none
  | some x => if okB x.1 = true then some x else none
def decB (l : List UInt8) (p : Nat) : Option (List I3 × Nat) := if (V.NumR l p 512).2.1 ≠ 0 then none else bodyOf (fwd l (V.NumR l p 512).2.2 (V.NumR l p 512).1)
end Go.Proofs.YtifobiajjhknbaaGreatDoor.C

namespace Go.Proofs.YtifobiajjhknbaaGreatDoor.F
open Go.RowKit W

/-- The name at a place, and the place behind it. -/
def nmR (l : List UInt8) (p : Nat) : Option (List UInt8 × Nat) :=
  if (V.bnd (V.nx (l.drop p)) 32).2.2 ≠ 0 then none else
  if l.length < p + (V.bnd (V.nx (l.drop p)) 32).2.1 + (V.bnd (V.nx (l.drop p)) 32).1 then none else
  some ((l.drop (p + (V.bnd (V.nx (l.drop p)) 32).2.1)).take (V.bnd (V.nx (l.drop p)) 32).1, p + (V.bnd (V.nx (l.drop p)) 32).2.1 + (V.bnd (V.nx (l.drop p)) 32).1)
/-- Locals at a place. -/
def lcR (l : List UInt8) (p : Nat) : Option (List Int × Nat) := match S.decG l p with
  | none => none
  | some x => if x.1.2 = [] then some (x.1.1, x.2) else none
/-- What Decode hands out. -/
def nilF : Fu := ⟨[], [], [], [], []⟩
end Go.Proofs.YtifobiajjhknbaaGreatDoor.F

namespace Go.Proofs.YtifobiajjhknbaaGreatDoor.I
open Go.RowKit W

/-- An image. -/
structure Im where
  sh : List (List Int)
  fn : List F.Fu
def nilI : Im := ⟨[], []⟩
def names (p : Im) : List (List UInt8) := p.fn.map fun f => f.nm
/-- It may be. -/
def okI (p : Im) : Bool := decide (p.sh.length ≤ 64 ∧ (1 ≤ p.fn.length ∧ p.fn.length ≤ 64) ∧ (names p).Nodup) && (p.sh.all S.okS && p.fn.all F.okF)
def chkI (p : Im) : Int := if okI p = true then 0 else 80
theorem okI_iff (p : Im) : okI p = true ↔ (p.sh.length ≤ 64 ∧ (1 ≤ p.fn.length ∧ p.fn.length ≤ 64) ∧ (names p).Nodup) ∧ p.sh.all S.okS = true ∧ p.fn.all F.okF = true := by
  unfold okI; rw [Bool.and_eq_true, Bool.and_eq_true, decide_eq_true_iff]
theorem chkI_ok {p : Im} (h : okI p = true) : chkI p = 0 := if_pos h
theorem chkI_no {p : Im} (h : okI p = false) : chkI p = 80 := if_neg (by rw [h]; decide)

/-- The sum's two numbers, nothing left out; the sum. -/
def adS (s : Nat × Nat) (x : UInt8) : Nat × Nat := (s.1 + x.toNat, s.2 + (s.1 + x.toNat))
def ad (l : List UInt8) : Nat × Nat := l.foldl adS (1, 0)
/-- An image's bytes. -/
def magicL : List UInt8 := [98, 107, 115, 116, 1]
section
variable {α : Type}
end

/-- The number of the first function of a name. -/
def findI (l : List F.Fu) (s : List UInt8) : Option Nat := l.findIdx? fun f => decide (f.nm = s)
instance fuEq : DecidableEq F.Fu := fun a b => decidable_of_iff (F.sameF a b = true) (F.sameF_iff a b)
/-- Are both the same? -/
def sameI (p q : Im) : Bool := decide (p.sh = q.sh ∧ p.fn = q.fn)

end Go.Proofs.YtifobiajjhknbaaGreatDoor.I

namespace Go.Proofs.YtifobiajjhknbaaGreatDoor.O
open Go.RowKit

theorem pr_ii {a b a' b' : Int} (h1 : a = a') (h2 : b = b') : Ending.returned (.tuple #[.int .i64 a, .int .i64 b]) = .returned (.tuple #[.int .i64 a', .int .i64 b']) := by rw [h1, h2]

end Go.Proofs.YtifobiajjhknbaaGreatDoor.O

namespace Go.Proofs.YtifobiajjhknbaaGreatDoor.W
open Go.RowKit

/-- What Check answers. -/
def chk (t n : Int) : Int := if okB t n = true then 0 else 21
set_option maxHeartbeats 400000 in
theorem known_any (t : Int) (w : World) :
    Calls Tryz.prog 58 #[.int .i64 t] w fun e w' => e = .returned (.bool (knownB t)) ∧ w = w' := by
  by_cases h1 : 1 ≤ t
  · by_cases h2 : t < 5
    · go_enter Tryz.func58, Tryz.ntmps58
      go_wp2
      go_ret
      exact ⟨ret_bool (by simp [knownB]; omega), rfl⟩
    · go_enter Tryz.func58, Tryz.ntmps58
      go_wp2
      go_ret
      exact ⟨ret_bool (by simp [knownB]; omega), rfl⟩
  · go_enter Tryz.func58, Tryz.ntmps58
    go_wp2
    go_ret
    exact ⟨ret_bool (by simp [knownB]; omega), rfl⟩

/-! ### Zero, Nil -/

end Go.Proofs.YtifobiajjhknbaaGreatDoor.W

namespace Go.Proofs.YtifobiajjhknbaaGreatDoor.W
open Go.RowKit

/-! ### great -/

end Go.Proofs.YtifobiajjhknbaaGreatDoor.W

namespace Go.Proofs.YtifobiajjhknbaaGreatDoor.W
open Go.RowKit

end Go.Proofs.YtifobiajjhknbaaGreatDoor.W

namespace Go.Proofs.YtifobiajjhknbaaGreatDoor.W
open Go.RowKit

theorem rd_new (w : World) (E : TypeId) (cs : Array Value) : Rd (w.alloc (.cells cs E)) (some ⟨w.heap.size, 0, none⟩) cs.toList := fun _ =>
  ⟨_, _, rfl, fun j u hu => by rw [Nat.zero_add, (Blk.new w E cs).cell j]; simpa using hu⟩

theorem own_after {w W W' : World} {E size n : Nat} {v v' : Value} {xs : List Value} (ho : ∀ g, v.ownBlock = some g → Fresh w g) (hK : Keep NoB w W) (hg : W.grownBy W' v.ownBlock)
    (hv : v'.ownBlock = v.ownBlock ∨ v'.ownBlock = some W.heap.size) (hrow : W'.ownsRow 0 E size v' n xs) : Own W' E size (Fresh w) v' n xs ∧ Keep NoB w W' := by
  refine ⟨⟨hrow, fun g e => ?_⟩, hK.grown hg (fun g e h => by have := ho g e; unfold Fresh at this; omega)⟩
  rcases hv with h | h
  · exact ho g (h ▸ e)
  · rw [h] at e; cases e; exact hK.size

theorem rd_made {w : World} {E : TypeId} {cs : Array Value} {b : Nat} {xs : List Value} (hb : b = w.heap.size) (hx : xs = cs.toList) : Rd (w.alloc (.cells cs E)) (some ⟨b, 0, none⟩) xs := by
  subst hb hx; exact rd_new w E cs

/-- The zeros of types. -/
def zs (l : List Int) : List (Int × Int) := l.map fun t => (t, 0)

end Go.Proofs.YtifobiajjhknbaaGreatDoor.W

namespace Go.Proofs.YtifobiajjhknbaaGreatDoor.W
open Go.RowKit

end Go.Proofs.YtifobiajjhknbaaGreatDoor.W

namespace Go.Proofs.YtifobiajjhknbaaGreatDoor.W
open Go.RowKit

theorem gLet : Tryz.prog.globalNamed "backstay/value.letters" = some 0 := by kernel_rfl
theorem gPow : Tryz.prog.globalNamed "internal/strconv.uint64pow10" = some 4 := by kernel_rfl
theorem gSyn : Tryz.prog.globalNamed "strconv.ErrSyntax" = some 9 := by kernel_rfl
theorem gRng : Tryz.prog.globalNamed "strconv.ErrRange" = some 10 := by kernel_rfl

theorem var_keep {n : String} {g : Nat} {cs : Array Value} {w w' : World} (hg : Tryz.prog.globalNamed n = some g) (h : w.var? Tryz.prog n = some cs) (hk : Keep NoB w w') : w'.var? Tryz.prog n = some cs :=
  Go.Joins.var_stays hg h hk.toBelow (Nat.le_refl _)

def letV : Array Value := #[.int .i32 0, .int .i32 73, .int .i32 82, .int .i32 70, .int .i32 80]
/-- The letters stand. -/
def LetAt (w : World) : Prop := w.var? Tryz.prog "backstay/value.letters" = some letV
theorem LetAt.keep {w w' : World} (h : LetAt w) (hk : Keep NoB w w') : LetAt w' := var_keep gLet h hk
theorem LetAt.cell {w : World} (h : LetAt w) (i : Nat) : w.cell? ⟨0, i, none⟩ = letV[i]? := World.var?_cell gLet h i

/-- What the texts of values are made with stands. -/
structure Laid (w : World) : Prop where
  pow : Lib.TabIs Tryz.prog w "internal/strconv.uint64pow10" .u64 Lib.pow10Tab
  syn : ∃ tp p, w.var? Tryz.prog "strconv.ErrSyntax" = some #[.iface tp p]
  rng : ∃ tp p, w.var? Tryz.prog "strconv.ErrRange" = some #[.iface tp p]
theorem Laid.keep {w w' : World} (h : Laid w) (hk : Keep NoB w w') : Laid w' :=
  ⟨var_keep gPow h.pow hk, h.syn.imp fun _ ⟨p, hp⟩ => ⟨p, var_keep gSyn hp hk⟩, h.rng.imp fun _ ⟨p, hp⟩ => ⟨p, var_keep gRng hp hk⟩⟩
set_option maxRecDepth 100000 in
set_option maxHeartbeats 1000000 in
theorem letter_any (t : Int) (w : World) (h : LetAt w) :
    Calls Tryz.prog 153 #[.int .i64 t] w fun e w' => e = .returned (.string (str (letC t))) ∧ w = w' := by
  cases hk : knownB t
  · have HL := Lib.hid (letC_none hk)
    go_enter Tryz.func153, Tryz.ntmps153
    go_wp2_with (go_at_call 58; refine (known_any _ _).mono ?_; rintro e w' ⟨rfl, rfl⟩)
    go_ret
    exact ⟨by rw [HL.out]; rfl, rfl⟩
  · rcases known_cases hk with rfl | rfl | rfl | rfl
    · have c : w.cell? ⟨0, 1, none⟩ = some (.int .i32 73) := h.cell 1
      go_enter Tryz.func153, Tryz.ntmps153
      go_wp2_with (go_at_call 58; refine (known_any _ _).mono ?_; rintro e w' ⟨rfl, rfl⟩)
      go_ret
      exact ⟨rfl, rfl⟩
    · have c : w.cell? ⟨0, 2, none⟩ = some (.int .i32 82) := h.cell 2
      go_enter Tryz.func153, Tryz.ntmps153
      go_wp2_with (go_at_call 58; refine (known_any _ _).mono ?_; rintro e w' ⟨rfl, rfl⟩)
      go_ret
      exact ⟨rfl, rfl⟩
    · have c : w.cell? ⟨0, 3, none⟩ = some (.int .i32 70) := h.cell 3
      go_enter Tryz.func153, Tryz.ntmps153
      go_wp2_with (go_at_call 58; refine (known_any _ _).mono ?_; rintro e w' ⟨rfl, rfl⟩)
      go_ret
      exact ⟨rfl, rfl⟩
    · have c : w.cell? ⟨0, 4, none⟩ = some (.int .i32 80) := h.cell 4
      go_enter Tryz.func153, Tryz.ntmps153
      go_wp2_with (go_at_call 58; refine (known_any _ _).mono ?_; rintro e w' ⟨rfl, rfl⟩)
      go_ret
      exact ⟨rfl, rfl⟩

end Go.Proofs.YtifobiajjhknbaaGreatDoor.W

namespace Go.Proofs.YtifobiajjhknbaaGreatDoor.W
open Go.RowKit

theorem format_any (n : Int) (w : World) (h0 : -9223372036854775808 ≤ n) (h1 : n ≤ 9223372036854775807) (h : Laid w) :
    Calls Tryz.prog 206 #[.int .i64 n, .int .i64 10] w fun e w' => ∃ d, e = .returned (.string d) ∧ d.size ≤ 21 ∧ Hid (d = str (Lib.itoa n)) ∧ Keep NoB w w' := by
  refine (Tryz.strconv_FormatInt_10 n h0 h1 w h.pow).mono ?_
  rintro e w' ⟨rfl, k, os, rfl⟩
  exact ⟨_, rfl, by have := Lib.itoa_length_le n h0 h1; rw [size_of (s := Lib.itoa n) (by simp)]; exact this, rfl, Keep.of_below (Go.Lib.below_grow _ w (Nat.le_refl _) k os)⟩

end Go.Proofs.YtifobiajjhknbaaGreatDoor.W

namespace Go.Proofs.YtifobiajjhknbaaGreatDoor.A
open Go.ChangeShapes Go.WideShapes Go.ChangeAt Go.RowKit

/-- Texts as a datum. -/
def strD (l : List (List UInt8)) : DataW Unit := .agg (l.map fun s => .lit (.string s))

theorem strs_of_head {P : Program} {W : World} {name : String} {l : List (List UInt8)} {rest : List (String × DataW Unit)} {g : Nat} {t e : TypeId} {n : Nat}
    (hg : P.globalNamed name = some g) (hty : (P.globals[g]?).map (·.type) = some t) (ht : P.underlying t = some (.array n e)) (he : P.underlying e = some .string) (hce : P.cellsOf e = 1) (hct : P.cellsOf t = n)
    (h : laidMet P ((name, strD l) :: rest) W) : W.var? P name = some (svs l).toArray := by
  obtain ⟨ps, ⟨g', t', cs, fuel, p, q, hg', ht', hvar, hd, _, _⟩, _⟩ := h
  obtain rfl := Option.some.inj (hg.symm.trans hg')
  obtain rfl := Option.some.inj (hty.symm.trans ht')
  obtain ⟨xs, m, _, ex, hlen, hl, hel⟩ := DataW.trod_array ht hd
  rw [hct] at hlen
  rw [hce] at hel
  have e3 : l.map (fun s => (DataW.lit (.string s) : DataW Unit)) = xs.map (·.1) := DataW.agg.inj (Prod.mk.inj ex).1
  have hll : l.length = n := by have := congrArg List.length e3; simpa [hl] using this
  have key : cs.toList = svs l := by
    refine List.ext_getElem (by simp [hlen, hll]) fun i h1 h2 => ?_
    have hin : i < n := by rw [← hlen]; exact h1
    have k := hel i hin
    have hix : i < xs.length := by rw [hl]; exact hin
    rw [List.getElem?_eq_getElem hix, Nat.mul_one, List.drop_eq_getElem_cons h1] at k
    obtain ⟨z, a0, b0, _⟩ := DataW.trod_string he k
    have a1 : cs.toList[i] = .string z := by simpa using a0
    have hil : i < l.length := by rw [hll]; exact hin
    have b1 : (DataW.lit (.string l[i]) : DataW Unit) = (xs[i]).1 := by
      have := congrArg (fun y => y[i]?) e3
      simpa [hil, hix] using this
    rw [b0] at b1
    simp only [DataW.lit.injEq, Lit.string.injEq] at b1
    rw [a1, List.getElem_map, b1]
  rw [hvar]
  have : cs = (svs l).toArray := by rw [← key]
  rw [this]

theorem strs_cell {P : Program} {W : World} {name : String} {l : List (List UInt8)} {g : Nat} (hg : P.globalNamed name = some g) (h : W.var? P name = some (svs l).toArray) (i : Nat) (hi : i < l.length) :
    W.cell? ⟨g, i, none⟩ = some (.string (str l[i])) := by
  have := World.var?_cell hg h i
  simpa [hi] using this

end Go.Proofs.YtifobiajjhknbaaGreatDoor.A

namespace Go.Proofs.YtifobiajjhknbaaGreatDoor.A
open Go.RowKit

theorem gBin : Tryz.prog.globalNamed "backstay/alu.binNames" = some 5 := by kernel_rfl
theorem gUn : Tryz.prog.globalNamed "backstay/alu.unNames" = some 6 := by kernel_rfl
theorem var_keepA {n : String} {g : Nat} {cs : Array Value} {w w' : World} (hg : Tryz.prog.globalNamed n = some g) (h : w.var? Tryz.prog n = some cs) (hk : Keep NoB w w') : w'.var? Tryz.prog n = some cs :=
  Go.Joins.var_stays hg h hk.toBelow (Nat.le_refl _)

/-- The names stand. -/
structure NamesAt (w : World) : Prop where
  bin : w.var? Tryz.prog "backstay/alu.binNames" = some (svs binNs).toArray
  un : w.var? Tryz.prog "backstay/alu.unNames" = some (svs unNs).toArray
theorem NamesAt.keep (w w' : World) (h : NamesAt w) (hk : Keep NoB w w') : NamesAt w' := ⟨var_keepA gBin h.bin hk, var_keepA gUn h.un hk⟩

/-- What a function of names answers, in the same world. -/
def NmS (f : FuncId) (l : List (List UInt8)) : Prop := ∀ (n : Int) (W : World), NamesAt W → -9223372036854775808 ≤ n ∧ n ≤ 9223372036854775807 →
  Calls Tryz.prog f #[.int .i64 n] W fun e w' => e = .returned (.string (str (nameAt l n))) ∧ W = w'
set_option maxHeartbeats 4000000 in
theorem binName_any : NmS 155 binNs := fun n w h _ => by
  by_cases hi : 0 ≤ n ∧ n < 14
  · obtain ⟨k, rfl⟩ := Int.eq_ofNat_of_zero_le hi.1
    have hkl : k < binNs.length := by have : binNs.length = 14 := rfl; omega
    have hck := strs_cell gBin h.bin k hkl
    have HD : Hid (nameAt binNs (k : Int) = binNs[k]) := Lib.hid (by unfold nameAt; rw [if_pos hi.1, Int.toNat_natCast, getD_at hkl])
    generalize binNs[k] = x at hck HD
    clear h hkl
    go_enter Tryz.func155, Tryz.ntmps155
    go_wp2
    go_ret
    exact ⟨by rw [HD.out]; rfl, rfl⟩
  · have HD : Hid (nameAt binNs n = []) := Lib.hid (by
      unfold nameAt
      split
      · have : binNs.length ≤ n.toNat := by have : binNs.length = 14 := rfl; omega
        exact getD_past this
      · rfl)
    by_cases h0 : n < 0
    · go_enter Tryz.func155, Tryz.ntmps155
      go_wp2
      go_ret
      exact ⟨by rw [HD.out]; rfl, rfl⟩
    · have h2 : (14 : Int) ≤ n := by omega
      have h0' : decide (n < 0) = false := by simpa using h0
      go_enter Tryz.func155, Tryz.ntmps155
      go_wp2
      go_ret
      exact ⟨by rw [HD.out]; rfl, rfl⟩

set_option maxHeartbeats 4000000 in
theorem unName_any : NmS 157 unNs := fun n w h _ => by
  by_cases hi : 0 ≤ n ∧ n < 9
  · obtain ⟨k, rfl⟩ := Int.eq_ofNat_of_zero_le hi.1
    have hkl : k < unNs.length := by have : unNs.length = 9 := rfl; omega
    have hck := strs_cell gUn h.un k hkl
    have HD : Hid (nameAt unNs (k : Int) = unNs[k]) := Lib.hid (by unfold nameAt; rw [if_pos hi.1, Int.toNat_natCast, getD_at hkl])
    generalize unNs[k] = x at hck HD
    clear h hkl
    go_enter Tryz.func157, Tryz.ntmps157
    go_wp2
    go_ret
    exact ⟨by rw [HD.out]; rfl, rfl⟩
  · have HD : Hid (nameAt unNs n = []) := Lib.hid (by
      unfold nameAt
      split
      · have : unNs.length ≤ n.toNat := by have : unNs.length = 9 := rfl; omega
        exact getD_past this
      · rfl)
    by_cases h0 : n < 0
    · go_enter Tryz.func157, Tryz.ntmps157
      go_wp2
      go_ret
      exact ⟨by rw [HD.out]; rfl, rfl⟩
    · have h2 : (9 : Int) ≤ n := by omega
      have h0' : decide (n < 0) = false := by simpa using h0
      go_enter Tryz.func157, Tryz.ntmps157
      go_wp2
      go_ret
      exact ⟨by rw [HD.out]; rfl, rfl⟩

set_option maxHeartbeats 4000000 in
theorem named_any (f : FuncId) (hcf : ∀ (args : Array Value) (w : World), (callFunc f args).run Tryz.prog w = .ok (.enter f args) w) (l : List (List UInt8)) (n : Nat) (N : Hid (NmS f l)) (S : ByteArray) (s : List UInt8) (w : World) (h : NamesAt w)
    (hn : Hid (l.length = n)) (h1 : n ≤ 100000) (hs : Hid (S.data.toList = s)) :
    Calls Tryz.prog 211 #[.string S, .int .i64 n, .func (.func f) #[] #[]] w fun e w' => e = .returned (.tuple #[.int .i64 (ofI l s), .int .i64 (ofE l s)]) ∧ w = w' := by
  have hS : S.toList = s := by rw [ByteArray.toList_eq, hs.out]
  have HN := Lib.hid (fun n hn => N.out n w h hn)
  clear h N
  go_enter Tryz.func211, Tryz.ntmps211
  go_wp2
  go_loop [10] (fun i => ∃ k : Nat, k ≤ n ∧ i = .int .i64 (k : Int) ∧ Hid (∀ j (_ : j < k), l.getD j [] ≠ s)) (fun i => n - (intOf i).toNat)
  case atStart => exact ⟨0, Nat.zero_le _, rfl, fun j hj => by omega⟩
  case round =>
    obtain ⟨k, hk, rfl, hb⟩ := hrel
    by_cases hlt : k < n
    · have hkl : k < l.length := by rw [hn.out]; exact hlt
      have HK := Lib.hid (HN.out (k : Int) ⟨by omega, by omega⟩)
      have hD : nameAt l (k : Int) = l[k] := by unfold nameAt; rw [if_pos (by omega), Int.toNat_natCast, getD_at hkl]
      have hE : Hid (l.getD k [] = l[k]) := getD_at hkl
      rw [hD] at HK
      clear hD
      by_cases he : l[k] = s
      · have HH := Lib.hid (of_hit hkl he hb.out)
        have hq : (l[k] == S.toList) = true := by rw [hS, he]; simp
        generalize l[k] = x at HK hq
        clear he hE hS
        go_wp2_with fail
        refine HK.out.mono ?_
        rintro e w' ⟨rfl, rfl⟩
        go_wp2
        go_ret2
        exact ⟨ret2 HH.out.1.symm HH.out.2.symm, rfl⟩
      · have hq : (l[k] == S.toList) = false := by rw [hS]; simpa using he
        have HB : Hid (∀ j (_ : j < k + 1), l.getD j [] ≠ s) := fun j hj => by
          rcases Nat.lt_succ_iff_lt_or_eq.1 hj with h | rfl
          · exact hb.out j h
          · rw [hE.out]; exact he
        generalize l[k] = x at HK hq
        clear he hE hS
        go_wp2_with fail
        refine HK.out.mono ?_
        rintro e w' ⟨rfl, rfl⟩
        go_wp2
        go_round
        case rel => exact ⟨k + 1, by omega, by go_num, HB⟩
        case measure => simp [intOf]; omega
    · obtain rfl : k = n := by omega
      have HH := Lib.hid (of_miss (l := l) (s := s) (fun j hj => hb.out j (by rw [← hn.out]; exact hj)))
      clear hS
      go_wp2
      go_ret2
      exact ⟨ret2 HH.out.1.symm HH.out.2.symm, rfl⟩

theorem binOf_all (S : ByteArray) (s : List UInt8) (w : World) (h : NamesAt w) (hs : S.data.toList = s) : Calls Tryz.prog 156 #[.string S] w fun e w' => e = .returned (.tuple #[.int .i64 (ofI binNs s), .int .i64 (ofE binNs s)]) ∧ Keep NoB w w' := by
  have H := Lib.hid (fun W hW => named_any 155 Tryz.call155 binNs 14 (Lib.hid binName_any) S s W hW rfl (by omega) hs)
  go_enter Tryz.func156, Tryz.ntmps156
  go_wp2_with (go_at_call 211; refine (H.out _ h).mono ?_; rintro e w' ⟨rfl, rfl⟩)
  go_ret2
  exact ⟨rfl, Keep.refl _ _⟩
theorem unOf_all (S : ByteArray) (s : List UInt8) (w : World) (h : NamesAt w) (hs : S.data.toList = s) : Calls Tryz.prog 158 #[.string S] w fun e w' => e = .returned (.tuple #[.int .i64 (ofI unNs s), .int .i64 (ofE unNs s)]) ∧ Keep NoB w w' := by
  have H := Lib.hid (fun W hW => named_any 157 Tryz.call157 unNs 9 (Lib.hid unName_any) S s W hW rfl (by omega) hs)
  go_enter Tryz.func158, Tryz.ntmps158
  go_wp2_with (go_at_call 211; refine (H.out _ h).mono ?_; rintro e w' ⟨rfl, rfl⟩)
  go_ret2
  exact ⟨rfl, Keep.refl _ _⟩

end Go.Proofs.YtifobiajjhknbaaGreatDoor.A

namespace Go.Proofs.YtifobiajjhknbaaGreatDoor.O
open Go.RowKit

/-- What the texts of operands are made with stands. -/
structure LaidO (w : World) : Prop where
  lets : W.LetAt w
  names : A.NamesAt w
  lib : W.Laid w
theorem LaidO.keep {w w' : World} (h : LaidO w) (hk : Keep NoB w w') : LaidO w' := ⟨h.lets.keep hk, A.NamesAt.keep _ _ h.names hk, h.lib.keep hk⟩
def I64 (n : Int) : Prop := -9223372036854775808 ≤ n ∧ n ≤ 9223372036854775807

theorem word_dig {k n : Int} (h : digK k = true) : word k n = Lib.itoa n := by
  have h := of_decide_eq_true h
  unfold word
  rw [if_neg (by omega), if_neg (by omega), if_neg (by omega)]
theorem dig_0 {k : Int} (h : digK k = true) : k ≠ 0 := by have h := of_decide_eq_true h; omega
theorem word_0 {k : Int} (h : wordK k = true) : k ≠ 0 := by have h := of_decide_eq_true h; omega

theorem nameAt_len {l : List (List UInt8)} {m : Nat} (h : l.all (fun s => decide (s.length ≤ m)) = true) (n : Int) : (A.nameAt l n).length ≤ m := by
  unfold A.nameAt
  split
  · rcases Nat.lt_or_ge n.toNat l.length with hlt | hge
    · rw [A.getD_at hlt]
      exact of_decide_eq_true (List.all_eq_true.1 h _ (List.getElem_mem hlt))
    · rw [A.getD_past hge]; exact Nat.zero_le _
  · exact Nat.zero_le _
theorem word_len (k n : Int) (hn : I64 n) : (word k n).length ≤ 21 := by
  unfold word
  split
  · unfold W.letC
    repeat' split
    all_goals simp
  · split
    · exact Nat.le_trans (nameAt_len (m := 6) (by decide) n) (by omega)
    · split
      · exact Nat.le_trans (nameAt_len (m := 6) (by decide) n) (by omega)
      · exact Lib.itoa_length_le n hn.1 hn.2

set_option maxHeartbeats 1000000 in
theorem show_dig (k n : Int) (w : World) (hk : digK k = true) (hn : I64 n) (h : LaidO w) :
    Calls Tryz.prog 205 #[.int .i64 n] w fun e w' => ∃ d, e = .returned (.string d) ∧ Hid (d = str (word k n)) ∧ Keep NoB w w' := by
  have HW := Lib.hid (word_dig (n := n) hk)
  have HF := Lib.hid (W.format_any n w hn.1 hn.2 h.lib)
  clear h hk hn
  go_enter Tryz.func205, Tryz.ntmps205
  go_wp2_with fail
  refine HF.out.mono ?_
  rintro e w1 ⟨d, rfl, _, hd, k1⟩
  go_wp2
  go_ret
  exact ⟨d, rfl, by show _ = _; rw [hd.out, HW.out], k1⟩

set_option maxHeartbeats 1000000 in
theorem show_word (k n : Int) (b : Nat) (w : World) (hk : wordK k = true) (hn : I64 n) (h : LaidO w) (hb : w.cell? ⟨b, 0, none⟩ = some (fnV (wordF k))) :
    Calls Tryz.prog 209 #[.int .i64 n, .pointer (some ⟨b, 0, none⟩)] w fun e w' => ∃ d, e = .returned (.string d) ∧ Hid (d = str (word k n)) ∧ Keep NoB w w' := by
  have hk := of_decide_eq_true hk
  have hc : k = 8 ∨ k = 9 ∨ (k = 2 ∨ k = 3) := by omega
  clear hk
  rcases hc with rfl | rfl | hk
  · have HF := Lib.hid (A.binName_any n w h.names hn)
    have hb' : w.cell? ⟨b, 0, none⟩ = some (fnV 155) := hb
    clear h hn hb
    go_enter Tryz.func209, Tryz.ntmps209
    go_wp2_with fail
    refine HF.out.mono ?_
    rintro e w1 ⟨rfl, rfl⟩
    go_wp2
    go_ret
    exact ⟨_, rfl, rfl, Keep.refl _ _⟩
  · have HF := Lib.hid (A.unName_any n w h.names hn)
    have hb' : w.cell? ⟨b, 0, none⟩ = some (fnV 157) := hb
    clear h hn hb
    go_enter Tryz.func209, Tryz.ntmps209
    go_wp2_with fail
    refine HF.out.mono ?_
    rintro e w1 ⟨rfl, rfl⟩
    go_wp2
    go_ret
    exact ⟨_, rfl, rfl, Keep.refl _ _⟩
  · have HF := Lib.hid (W.letter_any n w h.lets)
    have hb' : w.cell? ⟨b, 0, none⟩ = some (fnV 153) := by rw [hb]; unfold wordF; rw [if_neg (by omega), if_neg (by omega)]
    have HW : Hid (word k n = W.letC n) := by show _ = _; unfold word; rw [if_pos (by omega)]
    clear h hn hb hk
    go_enter Tryz.func209, Tryz.ntmps209
    go_wp2_with fail
    refine HF.out.mono ?_
    rintro e w1 ⟨rfl, rfl⟩
    go_wp2
    go_ret
    exact ⟨_, rfl, by show _ = _; rw [HW.out], Keep.refl _ _⟩

end Go.Proofs.YtifobiajjhknbaaGreatDoor.O

namespace Go.Proofs.YtifobiajjhknbaaGreatDoor.O
open Go.RowKit

theorem blk_inst {w : World} {g : Nat} {t : TypeId} {a0 a1 a2 : Value} (h : Blk w g t #[a0, a1, a2]) : w.cell? ⟨g, 0, none⟩ = some a0 ∧ w.cell? ⟨g, 1, none⟩ = some a1 ∧ w.cell? ⟨g, 2, none⟩ = some a2 := ⟨h.cell 0, h.cell 1, h.cell 2⟩

end Go.Proofs.YtifobiajjhknbaaGreatDoor.O

namespace Go.Proofs.YtifobiajjhknbaaGreatDoor.O
open Go.RowKit

end Go.Proofs.YtifobiajjhknbaaGreatDoor.O

namespace Go.Proofs.YtifobiajjhknbaaGreatDoor.O
open Go.RowKit

end Go.Proofs.YtifobiajjhknbaaGreatDoor.O

namespace Go.Proofs.YtifobiajjhknbaaGreatDoor.O
open Go.RowKit

/-- The name of a number, as the program holds it. -/
def nm (k : Nat) : ByteArray := str (rowAt (k : Int)).name
/-- The first number from k on, of n, that has the name; -1, if none has it. -/
def findFrom (S : ByteArray) : Nat → Nat → Int
  | 0, _ => -1
  | n + 1, k => if nm k = S then (k : Int) else findFrom S n (k + 1)
def findI (S : ByteArray) : Int := findFrom S 30 0
/-- What Of answers. -/
def ofN (S : ByteArray) : Int := if findI S < 0 then 0 else findI S
def ofE (S : ByteArray) : Int := if findI S < 0 then 40 else 0

end Go.Proofs.YtifobiajjhknbaaGreatDoor.O

namespace Go.Proofs.YtifobiajjhknbaaGreatDoor
open Go.RowKit Go.Shelf

section
variable {P : Program} {n : Nat}

theorem Keep.grows {W W' : World} (h : Keep NoB W W') : W.grownBy W' none := ⟨h.os, h.tape, h.output, h.size, fun k hk _ => h.block k hk id⟩
theorem ownFrom_keeps {β : Type} {B : Nat} {I : β → World → Prop} (hI : OwnFrom B I) {s : β} {W W' : World} (h : I s W) (hk : Keep NoB W W') : I s W' := hI s W W' none h hk.grows (fun r e => by cases e)
theorem keepsFrom_keep {B : Nat} {W W' : World} (hk : Keep NoB W W') : KeepsFrom B W W' := ⟨hk.size, fun k _ _ h _ => (hk.block k (Array.getElem?_eq_some_iff.1 h).1 id).trans h⟩

/-- One round, out of the walks of the assignments and of the body, if the body comes to its end. -/
theorem yieldAt_end {L m : Nat} {r : Loop} {args : Array Value} {W : World} {R : World → Prop} (hl : W.heap[L]? = some (.loop r)) (hr : r.state = .ready) (hp : r.pending = none) (hs : args.size = r.params.size)
    (h : r.assign.wpIn (Fence.wide.inRound L) m P (Exit.then (fun a₁ W₁ => W₁.heap[L]? = some (.loop r) ∧
        r.body.wpIn (Fence.wide.inRound L) m P (fun e _ W₃ => e = .normal ∧ W₃.heap[L]? = some (.loop { r with state := .busy }) ∧ R (W₃.putObj L (.loop r))) a₁ (W₁.putObj L (.loop { r with state := .busy })))
        (fun _ _ _ => False)) { tmps := (r.params.zip args).foldl (fun t (p, v) => t.setIfInBounds p v) r.tmps, defers := [] } W) :
    YieldAt Fence.wide m P L args W fun e W' => e = .returned (.bool true) ∧ R W' := by
  refine ⟨r.fn, _, r.assign, r.body, run_yield hl hs, roundIn_of_wpIn trivial (wpIn_mono h ?_)⟩
  intro e a₁ W₁ hq
  cases e with
  | normal =>
    obtain ⟨h1, h2⟩ := hq
    refine ⟨_, run_beginRound h1 hr, wpIn_mono h2 ?_⟩
    rintro e₃ a₃ W₃ ⟨rfl, h3, h4⟩
    refine ⟨_, _, run_endRound none h3, rfl, ?_⟩
    have hb : ({ r with state := .busy } : Loop) = { r with state := .busy } := rfl
    have he : ({ ({ r with state := .busy } : Loop) with state := if (none : Option Code).isNone then LoopState.ready else .done, pending := none } : Loop) = r := by
      cases r; simp_all
    rw [he]; exact h4
  | exit id => exact hq
  | goto t => exact hq
  | ret => exact hq
  | panic c => exact hq
  | outgrown => exact hq

/-- What is asked of the iterator. -/
def Brings {α : Type} (P : Program) (m k : Nat) (gf : Nat) (lb : Array Value) (encs : α → Array Value) (I : List α → World → Prop) (En : List α → α → World → Prop) (S : List α → Prop) : Prop :=
  ∀ (L : Nat) (J : List α → World → Prop), (∀ pre W W', J pre W → Keep NoB W W' → J pre W') → (∀ pre W, J pre W → I pre W) →
    (∀ pre x W, J pre W → En pre x W → YieldAt Fence.wide m P L (encs x) W fun e W' => e = .returned (.bool true) ∧ J (pre ++ [x]) W') →
    ∀ W, J [] W → CallsIn Fence.wide k P gf (#[.func (.yield L) #[] #[]] ++ lb) W fun e W' => (∃ v, e = .returned v) ∧ ∃ xs, S xs ∧ J xs W'

theorem wpIn_rangeFunc_brings {α : Type} {g : Operand} {ps : Array Tmp} {assign body : Code} {Q : Exit → Act → World → Prop} {a : Act} {w : World} {m : Nat}
    {gf : Nat} {lb : Array Value} (hg : a.eval g = .func (.func gf) #[] lb) (eg : ∀ args w, (callFunc gf args).run P w = .ok (.enter gf args) w)
    {encs : α → Array Value} {I : List α → World → Prop} {En : List α → α → World → Prop} {S : List α → Prop} (hit : Brings P m (n - 1) gf lb encs I En S) (hps : ∀ x, (encs x).size = ps.size)
    (hI : OwnFrom w.heap.size I) (h0 : I [] w) (Ax : List α → α → Act → World → Prop) (hAx : ∀ pre x a', OwnFrom w.heap.size (fun (_ : Unit) W => Ax pre x a' W))
    (hassign : ∀ (l : Nat) (pre : List α) (x : α) (W : World), I pre W → En pre x W →
      assign.wpIn (Fence.wide.inRound l) m P (Exit.then (fun a' W' => Ax pre x a' W' ∧ KeepsFrom w.heap.size W W') (fun _ _ _ => False)) { tmps := (ps.zip (encs x)).foldl (fun t (p, v) => t.setIfInBounds p v) a.tmps, defers := [] } W)
    (hbody : ∀ (l : Nat) (pre : List α) (x : α) (a' : Act) (W : World), Ax pre x a' W → body.wpIn (Fence.wide.inRound l) m P (fun e _ W' => e = .normal ∧ I (pre ++ [x]) W' ∧ KeepsFrom w.heap.size W W') a' W)
    (hdone : ∀ (D : Nat) (xs : List α) (W : World), w.heap.size ≤ D → S xs → I xs W → W.heap[D]? = some (.deferred (some [])) → Q .normal { a with defers := { target := .collected D, args := #[] } :: a.defers } W) :
    (Code.rangeFunc g ps assign body).wpIn Fence.wide n P Q a w := by
  refine wpIn_rangeFunc fun fn _ => ?_
  obtain ⟨r, hr⟩ : ∃ r : Loop, r = { state := .ready, pending := none, fn, tmps := a.tmps, params := ps, assign, body, defers := w.heap.size } := ⟨_, rfl⟩
  obtain ⟨W1, hW1⟩ : ∃ W1, (w.alloc (.deferred (some []))).alloc (.loop r) = W1 := ⟨_, rfl⟩
  have hL1 : W1.heap[w.heap.size + 1]? = some (.loop r) := by
    rw [← hW1]; have := World.alloc_heap_new (w.alloc (.deferred (some []))) (.loop r); rwa [World.size_alloc] at this
  have hD1 : W1.heap[w.heap.size]? = some (.deferred (some [])) := by
    rw [← hW1]; exact (Below.heap_alloc _ _ _ (by simp)).trans (World.alloc_heap_new w _)
  refine ⟨w.heap.size + 1, [{ target := .collected w.heap.size, args := #[] }], W1, { target := .fn (.func gf) lb, args := #[.func (.yield (w.heap.size + 1)) #[] #[]] }, W1, gf,
    #[.func (.yield (w.heap.size + 1)) #[] #[]] ++ lb, W1, ?_, ?_, fun _ _ => trivial, ?_, (fun h => by cases h), ?_⟩
  · rw [← hW1, hr]; exact run_enterLoop_outer _ _ _ _ _
  · simp only [resolve, hg]
    simp [go_sem]
  · simp [invoke, go_sem, eg]
  refine (hit (w.heap.size + 1) (fun pre W => I pre W ∧ W.heap[w.heap.size + 1]? = some (.loop r) ∧ W.heap[w.heap.size]? = some (.deferred (some []))) ?_ (fun _ _ h => h.1) ?_ W1 ⟨by rw [← hW1]; exact hI.alloc _ (hI.alloc _ h0), hL1, hD1⟩).mono ?_
  · rintro pre W W' ⟨h1, h2, h3⟩ hk
    exact ⟨ownFrom_keeps hI h1 hk, (hk.block _ (Array.getElem?_eq_some_iff.1 h2).1 id).trans h2, (hk.block _ (Array.getElem?_eq_some_iff.1 h3).1 id).trans h3⟩
  · clear hL1 hW1 hD1
    subst hr
    rintro pre x W ⟨h1, h2, h3⟩ hen
    refine yieldAt_end h2 rfl rfl (hps x) ?_
    have ha := hassign (w.heap.size + 1) pre x W h1 hen
    refine wpIn_mono ha ?_
    intro e a₁ Wa hq
    cases e with
    | normal =>
      obtain ⟨hax, hka⟩ := hq
      have l2 := hka.same _ _ (by omega) h2 rfl
      have d2 := hka.same _ _ (Nat.le_refl _) h3 rfl
      refine ⟨l2, ?_⟩
      have lt2 := (Array.getElem?_eq_some_iff.1 l2).1
      refine wpIn_mono (hbody _ pre x a₁ _ ((hAx pre x a₁).putObj (s := ()) _ hax (by omega) l2 rfl)) ?_
      rintro e₃ a₃ W₃ ⟨rfl, h4, h5⟩
      have l3 := h5.same (w.heap.size + 1) _ (by omega) (World.putObj_heap_same lt2) rfl
      have d3 := h5.same w.heap.size _ (Nat.le_refl _) ((World.putObj_heap_other (by omega)).trans d2) rfl
      refine ⟨rfl, l3, hI.putObj _ h4 (by omega) l3 rfl, World.putObj_heap_same (Array.getElem?_eq_some_iff.1 l3).1, (World.putObj_heap_other (by omega)).trans d3⟩
    | exit id => exact hq
    | goto t => exact hq
    | ret => exact hq
    | panic c => exact hq
    | outgrown => exact hq
  · rintro e W2 ⟨⟨v, rfl⟩, xs, hS, h1, h2, h3⟩
    have hp : r.pending = none := by rw [hr]
    exact ⟨none, _, by have := run_endLoop (P := P) h2 (by rw [hr]; simp); rw [hp] at this; exact this, hdone _ xs _ (Nat.le_refl _) hS (hI.putObj _ h1 (by omega) h2 rfl) ((World.putObj_heap_other (by omega)).trans h3)⟩
end
end Go.Proofs.YtifobiajjhknbaaGreatDoor

namespace Go.Proofs.YtifobiajjhknbaaGreatDoor.O
open Go.RowKit Go.Shelf
attribute [local go_sem] Oper.semAt_some

/-- An operand that comes: its kind, its number, its functions. -/
structure Part where
  k : Int
  n : Int
  sh : Value
  gu : Value
def Part.key (x : Part) : Int × Int := (x.k, x.n)
abbrev partE (x : Part) : Array Value := #[opV x.k x.sh x.gu, .int .i64 x.n]
/-- The operands that there are. -/
def partsL (ka kb a b : Int) : List (Int × Int) := if ka = 0 then [] else if kb = 0 then [(ka, a)] else [(ka, a), (kb, b)]
/-- What is known of one that comes: its place, its functions. -/
def PartN (ka kb a b : Int) (pre : List Part) (x : Part) (W : World) : Prop := (∃ post, pre.map Part.key ++ x.key :: post = partsL ka kb a b) ∧ FnAt x.k x.sh x.gu W

theorem parts_0 {ka kb a b : Int} (h : ka = 0) : partsL ka kb a b = [] := by unfold partsL; rw [if_pos h]
theorem parts_1 {ka kb a b : Int} (h : ka ≠ 0) (h' : kb = 0) : partsL ka kb a b = [(ka, a)] := by unfold partsL; rw [if_neg h, if_pos h']
theorem parts_2 {ka kb a b : Int} (h : ka ≠ 0) (h' : kb ≠ 0) : partsL ka kb a b = [(ka, a), (kb, b)] := by unfold partsL; rw [if_neg h, if_neg h']

theorem run_index_nums (a b : Int) (w : World) : (Instr.index 175 (.agg #[.int .i64 a, .int .i64 b]) (.int .i64 0)).run Tryz.prog w = .ok (.int .i64 a) w ∧
    (Instr.index 175 (.agg #[.int .i64 a, .int .i64 b]) (.int .i64 1)).run Tryz.prog w = .ok (.int .i64 b) w := by
  have hs : (sizeOf 2).run Tryz.prog w = .ok 1 w := Tryz.sizeOf2 w
  unfold Instr.index
  constructor
  · simp [run_underlying Tryz.underlying175, asIntOf, hs, part]
  · simp [run_underlying Tryz.underlying175, asIntOf, hs, part]

set_option maxRecDepth 100000 in
set_option maxHeartbeats 4000000 in
theorem parts1_in (m : Nat) (q : Row) (op a b : Int) (Bx Br : Nat) (hka : 0 ≤ q.ka ∧ q.ka ≤ 10) (hkb : 0 ≤ q.kb ∧ q.kb ≤ 10) (I : List Part → World → Prop)
    (hbx : ∀ pre W, I pre W → Blk W Bx 37 #[.int .i64 op, .int .i64 a, .int .i64 b]) (hbr : ∀ pre W, I pre W → Blk W Br 125 (cells9 q)) :
    Brings Tryz.prog m (m + 1) 102 #[.pointer (some ⟨Bx, 0, none⟩), .pointer (some ⟨Br, 0, none⟩)] partE I (PartN q.ka q.kb a b) (fun xs => xs.map Part.key = partsL q.ka q.kb a b) := by
  intro L J hJk hJI hY W h0
  refine callsIn_of_wp Tryz.func102 rfl trivial ?_ rfl
  simp only [Tryz.ntmps102, List.size_toArray, List.length_cons, List.length_nil, Nat.reduceAdd, Nat.reduceSub, Array.replicate_succ, Array.replicate_zero, List.push_toArray, List.append_toArray, List.nil_append, List.cons_append]
  have x0 := hbx _ _ (hJI _ _ h0)
  have c1 : W.cell? ⟨Bx, 1, none⟩ = some (.int .i64 a) := x0.cell 1
  have c2 : W.cell? ⟨Bx, 2, none⟩ = some (.int .i64 b) := x0.cell 2
  clear x0
  gi_wp2
  gi_loopw [11] (fun i wr => ∃ (k : Nat) (pre : List Part), k ≤ 2 ∧ i = .int .i64 (k : Int) ∧ Hid (pre.map Part.key = [(q.ka, a), (q.kb, b)].take k ∧ (1 ≤ k → q.ka ≠ 0) ∧ (2 ≤ k → q.kb ≠ 0)) ∧ J pre wr)
    (fun i _ => 2 - (intOf i).toNat)
  case atStart => exact ⟨0, [], by omega, rfl, ⟨rfl, fun h => by omega, fun h => by omega⟩, h0⟩
  case round =>
    obtain ⟨k, pre, hk, rfl, HP, hJ⟩ := hrel
    have r0 := hbr _ _ (hJI _ _ hJ)
    have d1 : wr.cell? ⟨Br, 1, none⟩ = some (.int .i64 q.ka) := r0.cell 1
    have d2 : wr.cell? ⟨Br, 2, none⟩ = some (.int .i64 q.kb) := r0.cell 2
    clear r0 c1 c2
    have hix := fun w => run_index_nums a b w
    have hi0 := fun w => (hix w).1
    have hi1 := fun w => (hix w).2
    clear hix
    obtain rfl | rfl | rfl : k = 0 ∨ k = 1 ∨ k = 2 := by omega
    · by_cases hz : q.ka = 0
      · have hS : Hid (pre.map Part.key = partsL q.ka q.kb a b) := by show _ = _; rw [HP.out.1, parts_0 hz]; rfl
        have e0 : (q.ka == 0) = true := by rw [beq_iff_eq]; exact hz
        clear HP hz hka hkb
        rw [show ((0 : Nat) : Int) = 0 from rfl]
        gi_wp2
        refine ⟨trivial, ?_⟩
        gi_wp2
        refine ⟨fun _ h => (by cases h), ?_⟩
        gi_wp2
        refine bodyPost_ret (results_none rfl _ _ _) rfl ?_
        exact ⟨⟨_, rfl⟩, pre, hS.out, hJ⟩
      · have e0 : (q.ka == 0) = false := by rw [beq_eq_false_iff_ne]; exact hz
        have HN : Hid (pre.map Part.key ++ (q.ka, a) :: (if q.kb = 0 then [] else [(q.kb, b)]) = partsL q.ka q.kb a b) := by show _ = _; rw [HP.out.1]; unfold partsL; rw [if_neg hz]; split <;> rfl
        have HQ : Hid (∀ x : Part, x.key = (q.ka, a) → (pre ++ [x]).map Part.key = [(q.ka, a), (q.kb, b)].take 1) := by intro x hx; rw [List.map_append, HP.out.1]; simp [hx]
        have hp1 := HP.out.2.1
        have HZ : Hid ((1 ≤ 1 → q.ka ≠ 0) ∧ (2 ≤ 1 → q.kb ≠ 0)) := ⟨fun _ => hz, fun h => by omega⟩
        clear HP hz hp1
        rw [show ((0 : Nat) : Int) = 0 from rfl]
        gi_wp2_with (refine ⟨trivial, ?_⟩; gi_at_call 100; refine (callsIn_wide.2 (operandOf_any q.ka hka _)).mono ?_; rintro e w1 ⟨sh, gu, rfl, hF, k1⟩; have hJ1 := hJk _ _ _ hJ k1; obtain ⟨fn, tmps, assign, body, hy, hR⟩ := hY pre ⟨q.ka, a, sh, gu⟩ w1 hJ1 ⟨⟨_, HN.out⟩, hF⟩; dsimp only [partE] at hy)
        refine hR.mono ?_
        rintro e W3 ⟨rfl, hJ3⟩
        gi_wp2
        go_roundw
        case rel => exact ⟨1, pre ++ [_], by omega, rfl, ⟨HQ.out _ rfl, HZ.out⟩, hJ3⟩
        case measure => simp [intOf]
    · by_cases hz : q.kb = 0
      · have hS : Hid (pre.map Part.key = partsL q.ka q.kb a b) := by show _ = _; rw [HP.out.1, parts_1 (HP.out.2.1 (by omega)) hz]; rfl
        have e0 : (q.kb == 0) = true := by rw [beq_iff_eq]; exact hz
        clear HP hz hka hkb
        rw [show ((1 : Nat) : Int) = 1 from rfl]
        gi_wp2
        refine ⟨trivial, ?_⟩
        gi_wp2
        refine ⟨fun _ h => (by cases h), ?_⟩
        gi_wp2
        refine bodyPost_ret (results_none rfl _ _ _) rfl ?_
        exact ⟨⟨_, rfl⟩, pre, hS.out, hJ⟩
      · have e0 : (q.kb == 0) = false := by rw [beq_eq_false_iff_ne]; exact hz
        have HN : Hid (pre.map Part.key ++ (q.kb, b) :: [] = partsL q.ka q.kb a b) := by show _ = _; rw [HP.out.1, parts_2 (HP.out.2.1 (by omega)) hz]; rfl
        have HQ : Hid (∀ x : Part, x.key = (q.kb, b) → (pre ++ [x]).map Part.key = [(q.ka, a), (q.kb, b)].take 2) := by intro x hx; rw [List.map_append, HP.out.1]; simp [hx]
        have hp1 := HP.out.2.1
        have HZ : Hid ((1 ≤ 2 → q.ka ≠ 0) ∧ (2 ≤ 2 → q.kb ≠ 0)) := ⟨fun _ => hp1 (by omega), fun _ => hz⟩
        clear HP hz hp1
        rw [show ((1 : Nat) : Int) = 1 from rfl]
        gi_wp2_with (refine ⟨trivial, ?_⟩; gi_at_call 100; refine (callsIn_wide.2 (operandOf_any q.kb hkb _)).mono ?_; rintro e w1 ⟨sh, gu, rfl, hF, k1⟩; have hJ1 := hJk _ _ _ hJ k1; obtain ⟨fn, tmps, assign, body, hy, hR⟩ := hY pre ⟨q.kb, b, sh, gu⟩ w1 hJ1 ⟨⟨_, HN.out⟩, hF⟩; dsimp only [partE] at hy)
        refine hR.mono ?_
        rintro e W3 ⟨rfl, hJ3⟩
        gi_wp2
        go_roundw
        case rel => exact ⟨2, pre ++ [_], by omega, rfl, ⟨HQ.out _ rfl, HZ.out⟩, hJ3⟩
        case measure => simp [intOf]
    · have hS : Hid (pre.map Part.key = partsL q.ka q.kb a b) := by show _ = _; rw [HP.out.1, parts_2 (HP.out.2.1 (by omega)) (HP.out.2.2 (by omega))]; rfl
      clear HP hka hkb
      rw [show ((2 : Nat) : Int) = 2 from rfl]
      gi_wp2
      go_end0
      exact ⟨⟨_, rfl⟩, pre, hS.out, hJ⟩

end Go.Proofs.YtifobiajjhknbaaGreatDoor.O

namespace Go.Proofs.YtifobiajjhknbaaGreatDoor.O
open Go.RowKit Go.Shelf
attribute [local go_sem] Oper.semAt_some

theorem blk_own {β : Type} (B g : Nat) (t : TypeId) (cs : β → Array Value) : OwnFrom B (fun s W => Blk W g t (cs s)) := by
  intro s X Y row h hg hrow
  refine (hg.block g h.lt (fun e => ?_)).trans h
  obtain ⟨_, o, ho, hc⟩ := hrow g e.symm
  rw [show X.heap[g]? = _ from h] at ho
  cases ho; cases hc
theorem keep_own {β : Type} {B : Nat} {w0 : World} (O : Nat → Prop) (hB : w0.heap.size ≤ B) : OwnFrom B (fun (_ : β) W => Keep O w0 W) := by
  intro s X Y row h hg hrow
  exact h.grown hg (fun g e hl => by have := (hrow g e).1; omega)
theorem fnAt_own {β : Type} (B : Nat) (k : Int) (sh gu : Value) : OwnFrom B (fun (_ : β) W => FnAt k sh gu W) := by
  intro s X Y row h hg hrow
  have hc : ∀ p v, X.cell? p = some v → Y.cell? p = some v := fun p v hp => cell_kept hp hg (fun r e => (hrow r e).2)
  rcases h with h | h | ⟨h, b, c, h1, h2, h3, h4⟩
  · exact .inl h
  · exact .inr (.inl h)
  · exact .inr (.inr ⟨h, b, c, h1, h2, hc _ _ h3, hc _ _ h4⟩)
theorem keepsFrom_one {B g : Nat} {W W' : World} (h : Keep (fun k => k = g) W W') (hg : g < B) : KeepsFrom B W W' :=
  ⟨h.size, fun k _ hk hh _ => (h.block k (Array.getElem?_eq_some_iff.1 hh).1 (fun e => by omega)).trans hh⟩

set_option maxHeartbeats 1000000 in
theorem parts_any (q : Row) (op a b : Int) (w : World) : Calls Tryz.prog 62 #[rowV q, instV op a b] w fun e w' =>
    e = .returned (.func (.func 102) #[] #[.pointer (some ⟨w.heap.size + 1, 0, none⟩), .pointer (some ⟨w.heap.size, 0, none⟩)]) ∧ Blk w' w.heap.size 125 (cells9 q) ∧ Blk w' (w.heap.size + 1) 37 #[.int .i64 op, .int .i64 a, .int .i64 b] ∧ Keep NoB w w' := by
  go_enter Tryz.func62, Tryz.ntmps62
  go_wp2
  go_ret
  have h1 := Blk.new (w.alloc (.cells (cells9 q) 125)) 37 #[.int .i64 op, .int .i64 a, .int .i64 b]
  rw [World.size_alloc] at h1
  exact ⟨rfl, (Blk.new _ _ _).alloc _, h1, ((Keep.refl NoB w).alloc _).alloc _⟩

/-- The text of the operands that have come. -/
def textP (l : List (Int × Int)) : List UInt8 := l.flatMap fun x => 32 :: word x.1 x.2
theorem textP_parts (ka kb a b : Int) (h : ka = 0 → kb = 0) : textP (partsL ka kb a b) = partL ka a ++ partL kb b := by
  unfold partsL partL textP
  split
  · rename_i hz
    rw [if_pos (h hz)]; rfl
  · split
    · simp
    · simp
theorem kinds_none (op : Int) : (rowAt op).ka = 0 → (rowAt op).kb = 0 := by
  have := rowAt_all (p := fun r => decide (r.ka = 0 → r.kb = 0)) (by decide) (by decide) op
  exact of_decide_eq_true this

theorem textP_snoc (l : List (Int × Int)) (x : Int × Int) : textP (l ++ [x]) = textP l ++ 32 :: word x.1 x.2 := by unfold textP; simp
theorem textP_len : ∀ (l : List (Int × Int)), (∀ x ∈ l, I64 x.2) → (textP l).length ≤ 22 * l.length
  | [], _ => Nat.zero_le _
  | x :: l, h => by
    have h1 := word_len x.1 x.2 (h x (by simp))
    have h2 := textP_len l (fun y hy => h y (by simp [hy]))
    have e : textP (x :: l) = (32 :: word x.1 x.2) ++ textP l := by unfold textP; simp
    rw [e]
    simp
    omega
theorem parts_mem {ka kb a b : Int} {x : Int × Int} (h : x ∈ partsL ka kb a b) : x.1 ≠ 0 ∧ (x.2 = a ∨ x.2 = b) := by
  unfold partsL at h
  split at h
  · cases h
  · split at h
    · rename_i h1 h2; simp at h; subst h; exact ⟨h1, .inl rfl⟩
    · rename_i h1 h2
      simp at h
      rcases h with rfl | rfl
      · exact ⟨h1, .inl rfl⟩
      · exact ⟨h2, .inr rfl⟩
theorem parts_len (ka kb a b : Int) : (partsL ka kb a b).length ≤ 2 := by unfold partsL; split <;> (try split) <;> simp
theorem part_facts {ka kb a b : Int} {pre : List Part} {x : Part} {W : World} (h : PartN ka kb a b pre x W) (ha : I64 a) (hb : I64 b) : x.k ≠ 0 ∧ I64 x.n ∧ (textP (pre.map Part.key)).length ≤ 44 := by
  obtain ⟨⟨post, hp⟩, _⟩ := h
  have h64 : ∀ y ∈ partsL ka kb a b, I64 y.2 := fun y hy => by rcases (parts_mem hy).2 with e | e <;> rw [e] <;> assumption
  have hx := parts_mem (x := x.key) (by rw [← hp]; simp)
  have hl := congrArg List.length hp
  have h2 := parts_len ka kb a b
  have hx64 := h64 x.key (by rw [← hp]; simp)
  have ht := textP_len (pre.map Part.key) (fun y hy => h64 y (by rw [← hp]; exact List.mem_append_left _ hy))
  simp at hl ht
  exact ⟨hx.1, hx64, by omega⟩
theorem name_len (op : Int) : (rowAt op).name.length ≤ 7 := by
  have := rowAt_all (p := fun r => decide (r.name.length ≤ 7)) (by decide) (by decide) op
  exact of_decide_eq_true this

theorem Keep_putObj {O : Nat → Prop} {w W : World} {D : Nat} {o : Obj} (h : Keep O w W) (hD : w.heap.size ≤ D) : Keep O w (W.putObj D o) := h.grown (grownBy_putObj' W D o) (fun g e hl => by cases e; omega)
theorem str_sp (s d : List UInt8) : str s ++ ((⟨#[32]⟩ : ByteArray) ++ str d) = str (s ++ 32 :: d) := by
  apply ByteArray.ext
  simp [ByteArray.data_append]

theorem show_end {w2 W w3 : World} {bt : Nat} {cs : Array Value} {t : TypeId} {u : Value} (h : Blk (w3.setCell ⟨bt, 0, none⟩ u) bt t cs) (h2 : Keep (fun k => k = bt) w2 W) (k4 : Keep NoB W w3) (hlt : bt < w2.heap.size) :
    (Exit.normal = Exit.normal) ∧ (Blk (w3.setCell ⟨bt, 0, none⟩ u) bt t cs ∧ Keep (fun k => k = bt) w2 (w3.setCell ⟨bt, 0, none⟩ u)) ∧ KeepsFrom w2.heap.size W (w3.setCell ⟨bt, 0, none⟩ u) :=
  ⟨rfl, ⟨h, (h2.trans k4 (fun _ hf _ => hf.elim)).setCell (fun _ => rfl) _⟩, keepsFrom_one (Keep.setCell (O := fun k => k = bt) (p := ⟨bt, 0, none⟩) (k4.mono (fun _ hf _ => hf.elim)) (fun _ => rfl) u) hlt⟩

/-- The activation at the head of the loop's body. -/
def showAct (op a b : Int) (r : Row) (g h : Nat) (x : Part) (Bo : Nat) : Act :=
  { tmps := #[instV op a b, .pointer (some ⟨g, 0, none⟩), .string ⟨#[]⟩, .pointer (some ⟨h, 0, none⟩), .bool true, .pointer (some ⟨h + 1, 0, none⟩), .pointer (some ⟨Bo, 0, none⟩), .int .i64 x.n, .tuple #[rowV r, .bool true],
      instV op a b, .tuple #[rowV r, .bool true], rowV r, .bool true, .bool true, .bool false, .pointer (some ⟨h, 0, none⟩), .string (str r.name), rowV r, instV op a b,
      .func (.func 102) #[] #[.pointer (some ⟨h + 1 + 1 + 1, 0, none⟩), .pointer (some ⟨h + 1 + 1, 0, none⟩)], .agg #[.int .i64 x.k, .int .i64 (lo x.k), .int .i64 (hi x.k), x.sh, x.gu], .int .i64 x.n,
      undef, undef, undef, undef, undef, undef, undef, undef], defers := [] }

set_option maxRecDepth 100000 in
set_option maxHeartbeats 4000000 in
theorem show_yes (op a b : Int) (w : World) (hok : okI op a b = true) (ha : I64 a) (hb : I64 b) (hL : LaidO w) :
    Calls Tryz.prog 25 #[instV op a b] w fun e w' => ∃ d, e = .returned (.string d) ∧ Hid (d = str (textI op a b)) ∧ Keep NoB w w' := by
  obtain ⟨r, hr⟩ : ∃ r, rowAt op = r := ⟨_, rfl⟩
  have hka := kinds_ok op
  have hkn := kinds_none op
  have hnl := name_len op
  have HT : Hid (str (textI op a b) = str (r.name ++ textP (partsL r.ka r.kb a b))) := by show _ = _; unfold textI; rw [hr, textP_parts _ _ _ _ (hr ▸ hkn)]
  have HR := Lib.hid (fun w => rowFor_any op a b r w (by rw [rowR_ok hok]; exact hr))
  rw [hr] at hka hnl
  rw [hok] at HR
  have HA := Lib.hid ha
  have HB := Lib.hid hb
  clear hok hr hkn ha hb
  refine (callsIn_wide (n := 4)).1 ?_
  refine callsIn_of_wp_marks Tryz.func25 rfl trivial ?_ rfl
  simp only [Tryz.ntmps25, List.size_toArray, List.length_cons, List.length_nil, Nat.reduceAdd, Nat.reduceSub, Array.replicate_succ, Array.replicate_zero, List.push_toArray, List.append_toArray, List.nil_append, List.cons_append]
  gi_wp2_with (first
    | (refine ⟨trivial, ?_⟩; gi_at_call 61; refine (callsIn_wide.2 (HR.out _)).mono ?_; rintro e w1 ⟨rfl, k1⟩; have bi := (Blk.new w 37 #[.int .i64 op, .int .i64 a, .int .i64 b]).keep k1 id; have i0 : ∀ o o', ((w1.alloc o).alloc o').cell? ⟨w.heap.size, 0, none⟩ = some (.int .i64 op) := fun o o' => ((bi.alloc o).alloc o').cell 0; have i1 : ∀ o o', ((w1.alloc o).alloc o').cell? ⟨w.heap.size, 1, none⟩ = some (.int .i64 a) := fun o o' => ((bi.alloc o).alloc o').cell 1; have i2 : ∀ o o', ((w1.alloc o).alloc o').cell? ⟨w.heap.size, 2, none⟩ = some (.int .i64 b) := fun o o' => ((bi.alloc o).alloc o').cell 2)
    | (refine ⟨trivial, ?_⟩; gi_at_call 62; refine (callsIn_wide.2 (parts_any r op a b _)).mono ?_; rintro e w2 ⟨rfl, br, bx, k2⟩))
  simp only [World.size_alloc] at br bx
  have hbt := (Blk.new (w1.alloc (.cells (cells9 r) 125)) 9 #[.string (str r.name)]).keep k2 id
  rw [World.size_alloc] at hbt
  have hltb := hbt.lt
  have hKw : Keep NoB w w2 := keepN ((keepN ((Keep.refl NoB w).alloc _) k1).alloc _ |>.alloc _) k2
  have HLw := Lib.hid hL
  have hsz : w.heap.size < w1.heap.size := by have := k1.size; simp at this; omega
  clear hL bi i0 i1 i2 k1 k2
  have hI : OwnFrom w2.heap.size (fun (pre : List Part) W => Blk W (w1.heap.size + 1) 9 #[.string (str (r.name ++ textP (pre.map Part.key)))] ∧ Keep (fun k => k = w1.heap.size + 1) w2 W) :=
    (blk_own w2.heap.size (w1.heap.size + 1) 9 (fun pre : List Part => #[.string (str (r.name ++ textP (pre.map Part.key)))])).and (keep_own _ (Nat.le_refl _))
  refine wpIn_rangeFunc_brings (m := 2) (gf := 102) (lb := #[.pointer (some ⟨w1.heap.size + 1 + 1 + 1, 0, none⟩), .pointer (some ⟨w1.heap.size + 1 + 1, 0, none⟩)]) rfl (enters_of Tryz.func102 (by kernel_rfl) rfl)
    (parts1_in 2 r op a b (w1.heap.size + 1 + 1 + 1) (w1.heap.size + 1 + 1) ⟨hka.1, hka.2.1⟩ hka.2.2 (fun pre W => Blk W (w1.heap.size + 1) 9 #[.string (str (r.name ++ textP (pre.map Part.key)))] ∧ Keep (fun k => k = w1.heap.size + 1) w2 W)
      (fun pre W h => bx.keep h.2 (by omega)) (fun pre W h => br.keep h.2 (by omega))) (fun _ => rfl) hI ⟨by simpa [textP] using hbt, Keep.refl _ _⟩
    (fun pre x a' W => (Blk W (w1.heap.size + 1) 9 #[.string (str (r.name ++ textP (pre.map Part.key)))] ∧ Keep (fun k => k = w1.heap.size + 1) w2 W) ∧ PartN r.ka r.kb a b pre x W ∧ ∃ Bo, Bo ≠ w1.heap.size + 1 ∧ Blk W Bo 134 #[.int .i64 x.k, .int .i64 (lo x.k), .int .i64 (hi x.k), x.sh, x.gu] ∧ a' = showAct op a b r w.heap.size w1.heap.size x Bo) ?hax ?assign ?body ?done
  case hax =>
    rintro pre x a' s X Y row ⟨h1, ⟨h2, h3⟩, Bo, h4, h5, h6⟩ hg hrow
    exact ⟨hI _ _ _ _ h1 hg hrow, ⟨h2, fnAt_own (β := Unit) _ _ _ _ () _ _ _ h3 hg hrow⟩, Bo, h4, blk_own (β := Unit) _ _ _ (fun _ => _) () _ _ _ h5 hg hrow, h6⟩
  case assign =>
    rintro l pre ⟨k, n, sh, gu⟩ W hi hen
    have hne : W.heap.size ≠ w1.heap.size + 1 := by have := hi.1.lt; omega
    have hen2 := Lib.hid hen
    have hi2 := Lib.hid hi
    have hk0 := (part_facts hen HA.out HB.out).1
    rcases hen.2 with ⟨h0, _⟩ | ⟨_, h1, h2⟩ | ⟨_, b1, c1, h1, h2, _, _⟩
    · exact absurd h0 hk0
    all_goals
      simp only at h1 h2
      subst h1 h2
      clear hen hi
      dsimp only [partE, opV]
      gi_wp2
      exact ⟨⟨⟨hi2.out.1.alloc _, hi2.out.2.alloc _⟩, ⟨hen2.out.1, hen2.out.2.keep ((Keep.refl NoB W).alloc _)⟩, W.heap.size, hne, Blk.new W _ _, rfl⟩, keepsFrom_keep ((Keep.refl NoB W).alloc _)⟩
  case body =>
    rintro l pre ⟨k, n, sh, gu⟩ a' W ⟨hi, hen, Bo, hne, bo, rfl⟩
    obtain ⟨hk0, hn, htl⟩ := part_facts hen HA.out HB.out
    have hKW : Keep NoB w W := hKw.trans hi.2 (fun k e hl => by subst e; omega)
    have hSz : (str (r.name ++ textP (pre.map Part.key))).size ≤ 60 := by rw [_root_.Go.Proofs.YtifobiajjhknbaaGreatDoor.W.size_of (s := r.name ++ textP (pre.map Part.key)) (by simp), List.length_append]; omega
    have HS : Hid (str (r.name ++ textP ((pre ++ [(⟨k, n, sh, gu⟩ : Part)]).map Part.key)) = str (r.name ++ textP (pre.map Part.key)) ++ ((⟨#[32]⟩ : ByteArray) ++ str (word k n))) := by
      show _ = _
      rw [str_sp, List.map_append]
      simp only [List.map_cons, List.map_nil]
      rw [textP_snoc, List.append_assoc]
      rfl
    have hWd : (str (word k n)).size ≤ 21 := by rw [_root_.Go.Proofs.YtifobiajjhknbaaGreatDoor.W.size_of (s := word k n) (by simp)]; exact word_len k n hn
    have hlt := hi.1.lt
    obtain ⟨D, hD⟩ : ∃ D, str (word k n) = D := ⟨_, rfl⟩
    rw [hD] at HS hWd
    generalize str (r.name ++ textP (pre.map Part.key)) = S at hi hSz HS
    have ct : W.cell? ⟨w1.heap.size + 1, 0, none⟩ = some (.string S) := hi.1.cell 0
    have ft := hi.1.frozen 0
    have hB := Lib.hid hi
    clear hi htl
    rcases hen.2 with ⟨h0, _⟩ | ⟨hd, h1, h2⟩ | ⟨hd, b1, c1, h1, h2, hb1, _⟩
    · exact absurd h0 hk0
    · simp only at h1 h2 hd
      subst h1 h2
      have HC := Lib.hid (fun (W' : World) (hk : Keep NoB W W') => (show_dig k n W' hd hn (HLw.out.keep (keepN hKW hk))).mono (R' := fun e w' => e = .returned (.string D) ∧ Keep NoB W' w') (fun _ _ ⟨d, he, hd', hk'⟩ => ⟨by rw [he, hd'.out, hD], hk'⟩))
      have co : W.cell? ⟨Bo, 3, none⟩ = some (fnV 205) := bo.cell 3
      clear hen hd hk0 bo hD
      dsimp only [showAct]
      have hmix : Tryz.prog.follows .mixedOrders = true := by kernel_rfl
      have q1 : ¬ 9223372036854775807 < 1 + D.size := by omega
      have q2 : ¬ 9223372036854775807 < S.size + (1 + D.size) := by omega
      gi_wp2
      gi_region_with_o (refine ⟨trivial, ?_⟩; gi_at_call 205; refine (CallsIn.inRound l (callsIn_wide.2 (HC.out _ (by first | exact Keep.refl _ _ | exact (Keep.refl _ _).drew | exact (Keep.refl _ _).drew.drew)))).mono ?_; rintro e w3 ⟨rfl, k3⟩; have k4 : Keep NoB W w3 := ⟨k3.os, k3.tape, k3.output, k3.size, k3.block⟩; have b3 : Blk w3 (w1.heap.size + 1) 9 #[.string S] := hB.out.1.keep k4 id; have c3 : w3.cell? ⟨w1.heap.size + 1, 0, none⟩ = some (.string S) := b3.cell 0; have f3 : w3.frozen? ⟨w1.heap.size + 1, 0, none⟩ = false := b3.frozen 0)
      all_goals
        have hf : Blk (w3.setCell ⟨w1.heap.size + 1, 0, none⟩ (.string (S ++ ((⟨#[32]⟩ : ByteArray) ++ D)))) (w1.heap.size + 1) 9 #[.string (S ++ ((⟨#[32]⟩ : ByteArray) ++ D))] := b3.put 0 _
        rw [← HS.out] at hf ⊢
        exact show_end hf hB.out.2 k4 hltb
    · simp only at h1 h2 hd
      subst h1 h2
      have HC := Lib.hid (fun (W' : World) (hk : Keep NoB W W') => (show_word k n b1 W' hd hn (HLw.out.keep (keepN hKW hk)) (hk.cell hb1 id)).mono (R' := fun e w' => e = .returned (.string D) ∧ Keep NoB W' w') (fun _ _ ⟨d, he, hd', hk'⟩ => ⟨by rw [he, hd'.out, hD], hk'⟩))
      have co : W.cell? ⟨Bo, 3, none⟩ = some (boxV 209 b1) := bo.cell 3
      clear hen hd hk0 bo hD hb1
      dsimp only [showAct]
      have hmix : Tryz.prog.follows .mixedOrders = true := by kernel_rfl
      have q1 : ¬ 9223372036854775807 < 1 + D.size := by omega
      have q2 : ¬ 9223372036854775807 < S.size + (1 + D.size) := by omega
      gi_wp2
      gi_region_with_o (refine ⟨trivial, ?_⟩; gi_at_call 209; refine (CallsIn.inRound l (callsIn_wide.2 (HC.out _ (by first | exact Keep.refl _ _ | exact (Keep.refl _ _).drew | exact (Keep.refl _ _).drew.drew)))).mono ?_; rintro e w3 ⟨rfl, k3⟩; have k4 : Keep NoB W w3 := ⟨k3.os, k3.tape, k3.output, k3.size, k3.block⟩; have b3 : Blk w3 (w1.heap.size + 1) 9 #[.string S] := hB.out.1.keep k4 id; have c3 : w3.cell? ⟨w1.heap.size + 1, 0, none⟩ = some (.string S) := b3.cell 0; have f3 : w3.frozen? ⟨w1.heap.size + 1, 0, none⟩ = false := b3.frozen 0)
      all_goals
        have hf : Blk (w3.setCell ⟨w1.heap.size + 1, 0, none⟩ (.string (S ++ ((⟨#[32]⟩ : ByteArray) ++ D)))) (w1.heap.size + 1) 9 #[.string (S ++ ((⟨#[32]⟩ : ByteArray) ++ D))] := b3.put 0 _
        rw [← HS.out] at hf ⊢
        exact show_end hf hB.out.2 k4 hltb
  case done =>
    rintro D xs W hD hS hi hK
    have ct := hi.1.cell 0
    simp only [List.getElem?_toArray, List.getElem?_cons_zero] at ct
    gi_wp2
    refine ⟨by simp, .inl ⟨_, _, rfl, run_takeDeferred hK, ?_⟩⟩
    refine ⟨_, results_tmp rfl _ _ _, _, rfl, ?_, Keep_putObj (hKw.trans hi.2 (fun k e hl => by subst e; omega)) (Nat.le_trans hKw.size hD)⟩
    show _ = _
    rw [HT.out]

end Go.Proofs.YtifobiajjhknbaaGreatDoor.O

namespace Go.Proofs.YtifobiajjhknbaaGreatDoor.W
open Go.Lib

/-- The number that ParseInt hands back, whatever the error. -/
def pI (l : List UInt8) : Int := match atoiAll l with | .ok v => v | .range => atoiSat l | _ => 0
/-- A number's place in an int64. -/
def w64 (n : Int) : Int := (n + 9223372036854775808) % 18446744073709551616 - 9223372036854775808
/-- The number that the code guesses of a text. -/
def gN (t : Int) (s : List UInt8) : Int := if s = [110, 105, 108] then 0 else w64 (pI (trimPrefix s (sgn t)) + off t)
/-- Read: the number of the value, if the text is that of one. -/
def rd (t : Int) (s : List UInt8) : Option Int := if showL t (gN t s) = s then some (gN t s) else none

theorem pI_bounds (l : List UInt8) : -9223372036854775808 ≤ pI l ∧ pI l ≤ 9223372036854775807 := by
  unfold pI
  rcases h : atoiAll l with v | _ | _
  · obtain ⟨b1, b2⟩ := Lib.atoiAll_bounds h
    simp only
    omega
  · simp
  · simp only [atoiSat]; split <;> omega
/-- Numbers that int64 has. -/
def I64 (n : Int) : Prop := -9223372036854775808 ≤ n ∧ n ≤ 9223372036854775807

/-! ### The document's own way of reading -/

end Go.Proofs.YtifobiajjhknbaaGreatDoor.W

namespace Go.Proofs.YtifobiajjhknbaaGreatDoor.W
open Go.RowKit

end Go.Proofs.YtifobiajjhknbaaGreatDoor.W

namespace Go.Proofs.YtifobiajjhknbaaGreatDoor.W
open Go.RowKit

/-- A letter's number. -/
def letZ (k : Nat) : Int := if k = 1 then 73 else if k = 2 then 82 else if k = 3 then 70 else if k = 4 then 80 else 0
/-- The type of a rune; 0: none has it. -/
def unletZ (r : Int) : Int := if r = 73 then 1 else if r = 82 then 2 else if r = 70 then 3 else if r = 80 then 4 else 0
theorem unletZ_byte (c : UInt8) : unletZ (c.toNat : Int) = unlet c := by
  have e : ∀ d : UInt8, ((c.toNat : Int) = (d.toNat : Int)) ↔ c = d := fun d => ⟨fun h => UInt8.toNat_inj.1 (by omega), fun h => by rw [h]⟩
  unfold unletZ unlet
  have h1 := e 73; have h2 := e 82; have h3 := e 70; have h4 := e 80
  simp only [show ((73 : UInt8).toNat : Int) = 73 from rfl, show ((82 : UInt8).toNat : Int) = 82 from rfl, show ((70 : UInt8).toNat : Int) = 70 from rfl, show ((80 : UInt8).toNat : Int) = 80 from rfl] at h1 h2 h3 h4
  simp only [h1, h2, h3, h4]
theorem unletZ_big {r : Int} (h : 128 ≤ r) : unletZ r = 0 := by unfold unletZ; rw [if_neg (by omega), if_neg (by omega), if_neg (by omega), if_neg (by omega)]
theorem unletZ_hit {k : Nat} {r : Int} (h1 : 1 ≤ k) (h2 : k < 5) (h : letZ k = r) : unletZ r = k := by
  subst h
  obtain rfl | rfl | rfl | rfl : k = 1 ∨ k = 2 ∨ k = 3 ∨ k = 4 := by omega
  all_goals rfl
theorem unletZ_miss {r : Int} (h : ∀ j, 1 ≤ j → j < 5 → letZ j ≠ r) : unletZ r = 0 := by
  have h1 := h 1 (by omega) (by omega)
  have h2 := h 2 (by omega) (by omega)
  have h3 := h 3 (by omega) (by omega)
  have h4 := h 4 (by omega) (by omega)
  have e1 : letZ 1 = 73 := rfl
  have e2 : letZ 2 = 82 := rfl
  have e3 : letZ 3 = 70 := rfl
  have e4 : letZ 4 = 80 := rfl
  unfold unletZ
  rw [if_neg (by omega), if_neg (by omega), if_neg (by omega), if_neg (by omega)]
theorem letZ_cell {w : World} (h : LetAt w) {k : Nat} (h1 : 1 ≤ k) (h2 : k < 5) : w.cell? ⟨0, k, none⟩ = some (.int .i32 (letZ k)) := by
  rw [h.cell k]
  obtain rfl | rfl | rfl | rfl : k = 1 ∨ k = 2 ∨ k = 3 ∨ k = 4 := by omega
  all_goals rfl

set_option maxHeartbeats 1000000 in
theorem lettered_any (r : Int) (w : World) (h : LetAt w) :
    Calls Tryz.prog 214 #[.int .i32 r] w fun e w' => e = .returned (.tuple #[.int .i64 (unletZ r), .bool (decide (unletZ r ≠ 0))]) ∧ w = w' := by
  go_enter Tryz.func214, Tryz.ntmps214
  go_wp2
  go_loop [4] (fun i => ∃ k : Nat, 1 ≤ k ∧ k ≤ 5 ∧ i = .int .i64 k ∧ Hid (∀ j, 1 ≤ j → j < k → letZ j ≠ r)) (fun i => 5 - (intOf i).toNat)
  case atStart => exact ⟨1, by omega, by omega, rfl, fun j h1 h2 => by omega⟩
  case round =>
    obtain ⟨k, hk1, hk5, rfl, hm⟩ := hrel
    by_cases hlt : k < 5
    · have c := letZ_cell h hk1 hlt
      by_cases he : letZ k = r
      · have HU := Lib.hid (unletZ_hit hk1 hlt he)
        have he' : (letZ k == r) = true := by rw [beq_iff_eq]; exact he
        clear he
        go_wp2
        go_ret2
        exact ⟨by rw [HU.out]; congr 3; simp; omega, rfl⟩
      · have he' : (letZ k == r) = false := by rw [beq_eq_false_iff_ne]; exact he
        have hm2 : Hid (∀ j, 1 ≤ j → j < k + 1 → letZ j ≠ r) := fun j h1 h2 => by
          rcases Nat.lt_or_ge j k with h3 | h3
          · exact hm.out j h1 h3
          · obtain rfl : j = k := by omega
            exact he
        clear he
        go_wp2
        go_round
        case rel => exact ⟨k + 1, by omega, by omega, by go_num, hm2⟩
        case measure => simp [intOf]; omega
    · obtain rfl : k = 5 := by omega
      have HU := Lib.hid (unletZ_miss hm.out)
      go_wp2
      go_ret2
      exact ⟨by rw [HU.out]; rfl, rfl⟩

/-- What is decoded of a byte that is no ASCII is none either. -/
theorem decode_big (s : ByteArray) (i : Nat) (h : 128 ≤ (s.get! i).toNat) : 128 ≤ (Utf8.decode s i).1 := by
  rw [Lib.decode_at]
  have hb : (s.get! i).toNat < 256 := (s.get! i).toNat_lt
  generalize (s.get! i).toNat = b0 at h hb
  unfold Lib.decodeN
  repeat' split
  all_goals first | omega | (simp only; omega)

theorem own_iter {w : World} {E size n : Nat} {O : Nat → Prop} {v : Value} {xs : List Value} (h : Own w E size O v n xs) {k pos : Nat} {s : ByteArray} (hk : w.heap[k]? = some (.stringIter s pos)) : v.ownBlock ≠ some k := by
  rcases h.1.2 with ⟨rfl, _⟩ | ⟨g, cap, cur, rfl, _, hg, _⟩
  · simp [Value.ownBlock]
  · intro e
    have : g = k := by simpa [Value.ownBlock] using e
    subst this
    rw [hk] at hg; cases hg
theorem _root_.Go.Proofs.YtifobiajjhknbaaGreatDoor.Own.iterAt {w : World} {E size n : Nat} {O : Nat → Prop} {v : Value} {xs : List Value} (h : Own w E size O v n xs) {k pos : Nat} {s : ByteArray} (hk : w.heap[k]? = some (.stringIter s pos)) (pos' : Nat) : Own (w.iterAt k s pos') E size O v n xs := by
  have hne := own_iter h hk
  refine ⟨⟨h.1.1, ?_⟩, h.2⟩
  rcases h.1.2 with h2 | ⟨g, cap, cur, rfl, hb, hh, r⟩
  · exact .inl h2
  · exact .inr ⟨g, cap, cur, rfl, hb, (Lib.iterAt_other w k g s pos' (fun e => hne (by rw [e]; rfl))).trans hh, r⟩
theorem _root_.Go.Proofs.YtifobiajjhknbaaGreatDoor.Keep.iterAt {w w' : World} (h : Keep NoB w w') {k : Nat} (hk : w.heap.size ≤ k) (s : ByteArray) (pos : Nat) : Keep NoB w (w'.iterAt k s pos) := Keep.of_below (Lib.below_iterAt h.toBelow hk s pos)

/-- What Types answers, in one form. -/
def tN (s : List UInt8) : Nat := if (untxt s).isSome = true then s.length else 0
def tL (s : List UInt8) : List Int := (untxt s).getD []
def tE (s : List UInt8) : Int := if (untxt s).isSome = true then 0 else 20
theorem untxt_none {s : List UInt8} (h : ¬ (s.length ≤ 1024 ∧ (s.all fun c => decide (unlet c ≠ 0)) = true)) : untxt s = none := by unfold untxt; rw [if_neg h]
theorem untxt_some {s : List UInt8} (h1 : s.length ≤ 1024) (h2 : (s.all fun c => decide (unlet c ≠ 0)) = true) : untxt s = some (s.map unlet) := by unfold untxt; rw [if_pos ⟨h1, h2⟩]
theorem tL_length (s : List UInt8) : (tL s).length = tN s := by
  unfold tL tN
  by_cases h : s.length ≤ 1024 ∧ (s.all fun c => decide (unlet c ≠ 0)) = true
  · rw [untxt_some h.1 h.2]; simp
  · rw [untxt_none h]; simp
/-- What it hands back, and that it keeps all. -/
def TypesR (w : World) (s : List UInt8) (e : Ending) (w' : World) : Prop :=
  ∃ B d, e = .returned (.tuple #[.slice B (tN s) d, .int .i64 (tE s)]) ∧ Own w' 3 1 (Fresh w) (.slice B (tN s) d) (tN s) (ivs (tL s)) ∧ Keep NoB w w'
theorem types_none {w w' : World} {s : List UInt8} (h : untxt s = none) (hK : Keep NoB w w') : TypesR w s (.returned (.tuple #[.slice none 0 0, .int .i64 20])) w' := by
  have e1 : tN s = 0 := by unfold tN; rw [h]; rfl
  have e2 : tL s = [] := by unfold tL; rw [h]; rfl
  have e3 : tE s = 20 := by unfold tE; rw [h]; rfl
  unfold TypesR
  rw [e1, e2, e3]
  exact ⟨none, 0, rfl, Own.nil _ _ _ _, hK⟩
theorem types_some {w w' : World} {s : List UInt8} {B : Option Addr} {d : Nat} (h : untxt s = some (s.map unlet)) (hO : Own w' 3 1 (Fresh w) (.slice B s.length d) s.length (ivs (s.map unlet))) (hK : Keep NoB w w') :
    TypesR w s (.returned (.tuple #[.slice B s.length d, .int .i64 0])) w' := by
  have e1 : tN s = s.length := by unfold tN; rw [h]; rfl
  have e2 : tL s = s.map unlet := by unfold tL; rw [h]; rfl
  have e3 : tE s = 0 := by unfold tE; rw [h]; rfl
  unfold TypesR
  rw [e1, e2, e3]
  exact ⟨B, d, rfl, hO, hK⟩

end Go.Proofs.YtifobiajjhknbaaGreatDoor.W
