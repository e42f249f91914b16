/-
  The plain mathematics of layer asm's words and lines: what stands in a text, its normal one, a text with notes put in. No program, no conditions.
  What a normal text does not contain: as the library's index tells it. No program, no conditions.
  The lines of a text, one after another: each up to its line feed. No program, no conditions.
  The plain mathematics of layer value: which numbers are types, which values may be, letters, a value's text and the value of a text. No program, no conditions.
  Words for memory that walks share: what a step keeps (Keep), a slice that reads as a list (Rd), one that the call owns (Own), and append. No conditions.
  What Known, Check, Zero and Nil answer, the code's and the document's. No conditions.
  What Nil answers, the code's and the document's; great. No conditions.
  What the document's Ints and Same answer: are two lists the same? Conditions: the lists lie in memory.
  What Zeros and Of answer: new lists. Conditions: the lists lie in memory, no more than 4096 long.
  Strings as cells, and lists of them in memory. No program but its types.
  The plain mathematics of a text that is gone through rune by rune, where only bytes below 128 are looked for: what the library's IndexFunc and FieldsFunc answer, in bytes. No program, no conditions.
  A range over a function that is never left ahead of its end, whose iterator brings things of which something is known in the world in which each comes (En). No program, no conditions.
  A range over a function whose body owns blocks that change (p: which ones), maps among them, and that may be left ahead of its end. No program. The iterator changes only blocks that it made itself; the body only what is its own, or new.
  The program's lines, as they are ranged over: each line of a text with its number, one after another; or until the body has had enough. Conditions: the text lies in the box that the iterator reads; the body changes only what is its own.
  What the document's words and joined answer: a line's words; words, parted by one blank. Conditions: the text is not too long; the words lie in memory.
  What Words of layer asm answers: a line's words, in new memory. Condition: the line is not too long.
  A builder of one's own, what was written into it, and what it leaves as it was. No program but its types.
-/
import Derived.BigQuiet
import Derived.Deep.AppendLies
import Derived.Deep.Draws
import Derived.Deep.QuietTactic
import Derived.Deep.RegionHeld3
import Derived.Deep.RegionLaw
import Derived.Laws.RangeAny
import Derived.Laws.RangeString
import Derived.Lib.DecodeN
import Derived.Lib.Hide
import Derived.Lib.IndexBytes
import Derived.Lib.IndexLaws
import Derived.Lib.IndexMore
import Derived.Lib.ItoaLen
import Derived.Lib.OthersKept
import Derived.Lib.ParseIntBTie
import Derived.LoopIn
import Derived.LoopNIn
import Derived.Maps.AppendAt
import Derived.OwnWalk
import Derived.OwnWalkIn
import Derived.RangeFuncBound
import Derived.RangeFuncCalls
import Derived.RangeFuncLeaves
import Derived.RangeFuncNested
import Derived.Shelf.Abstract
import Derived.Shelf.GgClosure.StringsIndexFunc
import Derived.Shelf.RegionOpen
import Derived.Shelf.Strings.FieldsFuncAny
import Derived.TacticsInMore
import Derived.WalkKit
import Derived.WalkLawsBesides
import Derived.WalkSpells
import Derived.Test.YtifobiajjhknbaaProg
import Derived.Test.YtifobiajjhknbaaShelf
import Derived.Test.YtifobiajjhknbaaShelf2
namespace Go.Proofs.Ytifobiajjhknbaa.M

abbrev Bs := List UInt8
abbrev Ln := Nat × List Bs

/-- Does the byte part words; does it end a line's words? -/
def gapB (c : UInt8) : Bool := decide (c = 32 ∨ c = 9)
def endB (c : UInt8) : Bool := decide (c = 10 ∨ c = 59)
/-- A word that ends here, if there is one. -/
def fl (cur : Bs) : List Bs := if cur = [] then [] else [cur]
/-- The words of what is left, when so much of a word was met. -/
def wgo (cur : Bs) : Bs → List Bs
  | [] => fl cur
  | c :: r => if endB c = true then fl cur else if gapB c = true then fl cur ++ wgo [] r else wgo (cur ++ [c]) r
def wordsL (s : Bs) : List Bs := wgo [] s
/-- A line, if it has words. -/
def one (n : Nat) (cur : Bs) : List Ln := if wordsL cur = [] then [] else [(n, wordsL cur)]
/-- The lines of what is left, when so much of a line was met. -/
def lgo (n : Nat) (cur : Bs) : Bs → List Ln
  | [] => one n cur
  | c :: r => if c = 10 then one n cur ++ lgo (n + 1) [] r else lgo n (cur ++ [c]) r
def linesL (s : Bs) : List Ln := lgo 1 [] s
/-- Words, parted by one blank. -/
def joinW : List Bs → Bs
  | [] => []
  | [w] => w
  | w :: v :: ws => w ++ 32 :: joinW (v :: ws)
/-- A text's normal one. -/
def flat (l : List (List Bs)) : Bs := l.flatMap fun w => joinW w ++ [10]
def normL (s : Bs) : Bs := flat ((linesL s).map Prod.snd)

theorem fl_nil : fl [] = [] := if_pos rfl
theorem fl_some {w : Bs} (h : w ≠ []) : fl w = [w] := if_neg h
theorem wgo_end {cur : Bs} {c : UInt8} (h : endB c = true) (r : Bs) : wgo cur (c :: r) = fl cur := by rw [wgo, if_pos h]
theorem wgo_gap {cur : Bs} {c : UInt8} (h : endB c = false) (hg : gapB c = true) (r : Bs) : wgo cur (c :: r) = fl cur ++ wgo [] r := by rw [wgo, if_neg (by rw [h]; decide), if_pos hg]
theorem wgo_byte {cur : Bs} {c : UInt8} (h : endB c = false) (hg : gapB c = false) (r : Bs) : wgo cur (c :: r) = wgo (cur ++ [c]) r := by rw [wgo, if_neg (by rw [h]; decide), if_neg (by rw [hg]; decide)]
theorem one_none {n : Nat} {s : Bs} (h : wordsL s = []) : one n s = [] := if_pos h
theorem one_some {n : Nat} {s : Bs} (h : wordsL s ≠ []) : one n s = [(n, wordsL s)] := if_neg h
theorem lgo_lf (n : Nat) (cur r : Bs) : lgo n cur (10 :: r) = one n cur ++ lgo (n + 1) [] r := by rw [lgo, if_pos rfl]
theorem lgo_byte {c : UInt8} (h : c ≠ 10) (n : Nat) (cur r : Bs) : lgo n cur (c :: r) = lgo n (cur ++ [c]) r := by rw [lgo, if_neg h]

/-- A byte of a word; a word. -/
def inW (c : UInt8) : Bool := !endB c && !gapB c
theorem inW_iff (c : UInt8) : inW c = true ↔ endB c = false ∧ gapB c = false := by unfold inW; rw [Bool.and_eq_true, Bool.not_eq_true', Bool.not_eq_true']
theorem wgo_word {w : Bs} (h : w.all inW = true) (cur r : Bs) : wgo cur (w ++ r) = wgo (cur ++ w) r := by
  induction w generalizing cur with
  | nil => simp
  | cons c w ih =>
    rw [List.all_cons, Bool.and_eq_true, inW_iff] at h
    rw [List.cons_append, wgo_byte h.1.1 h.1.2, ih h.2, List.append_assoc]
    rfl
/-! ### Lines -/

theorem flat_cons (w : List Bs) (l : List (List Bs)) : flat (w :: l) = joinW w ++ 10 :: flat l := by unfold flat; rw [List.flatMap_cons, List.append_assoc]; rfl
theorem flat_append (a b : List (List Bs)) : flat (a ++ b) = flat a ++ flat b := by unfold flat; rw [List.flatMap_append]
/-- Words are no longer than what they stand in. -/
theorem join_len : ∀ l : List Bs, (joinW l).length + 1 = (l.map fun w => w.length + 1).sum ∨ l = []
  | [] => .inr rfl
  | [w] => .inl (by simp [joinW])
  | w :: v :: ws => .inl (by
    have := (join_len (v :: ws)).resolve_right (by simp)
    rw [joinW, List.length_append, List.length_cons, List.map_cons, List.sum_cons]
    omega)
def wsum (l : List Bs) : Nat := (l.map fun w => w.length + 1).sum
theorem wsum_append (a b : List Bs) : wsum (a ++ b) = wsum a + wsum b := by unfold wsum; rw [List.map_append, List.sum_append_nat]
theorem wsum_fl (cur : Bs) : wsum (fl cur) ≤ cur.length + 1 ∧ (cur = [] → wsum (fl cur) = 0) := by
  by_cases h : cur = []
  · subst h; rw [fl_nil]; simp [wsum]
  · rw [fl_some h]; simp [wsum, h]
theorem wsum_go : ∀ (s cur : Bs), wsum (wgo cur s) ≤ cur.length + s.length + 1
  | [], cur => by have := (wsum_fl cur).1; rw [wgo]; simp; exact this
  | c :: s, cur => by
    have h0 := (wsum_fl cur).1
    cases he : endB c with
    | true => rw [wgo_end he]; simp; omega
    | false =>
      cases hg : gapB c with
      | true =>
        have ih := wsum_go s []
        rw [wgo_gap he hg, wsum_append]
        simp at ih ⊢; omega
      | false =>
        have ih := wsum_go s (cur ++ [c])
        rw [wgo_byte he hg]
        simp at ih ⊢; omega
theorem join_le (s : Bs) : (joinW (wordsL s)).length ≤ s.length := by
  have h := wsum_go s []
  rcases join_len (wordsL s) with e | e
  · have e2 : wsum (wordsL s) = (joinW (wordsL s)).length + 1 := e.symm
    unfold wordsL at e2 ⊢
    simp at h; omega
  · rw [e]; exact Nat.zero_le _
theorem one_len (n : Nat) (s : Bs) : (flat ((one n s).map Prod.snd)).length ≤ s.length + 1 := by
  by_cases h : wordsL s = []
  · rw [one_none h]; simp [flat]
  · rw [one_some h]
    have := join_le s
    simp [flat]; exact this
theorem lgo_len : ∀ (s : Bs) (n : Nat) (cur : Bs), (flat ((lgo n cur s).map Prod.snd)).length ≤ cur.length + s.length + 1
  | [], n, cur => one_len n cur
  | c :: s, n, cur => by
    by_cases hc : c = 10
    · subst hc
      have ih := lgo_len s (n + 1) []
      have h1 := one_len n cur
      rw [lgo_lf, List.map_append, flat_append, List.length_append]
      simp at ih h1 ⊢; omega
    · have ih := lgo_len s n (cur ++ [c])
      rw [lgo_byte hc]
      simp at ih ⊢; omega
theorem norm_len (s : Bs) : (normL s).length ≤ s.length + 1 := by have := lgo_len s 1 []; rw [List.length_nil, Nat.zero_add] at this; exact this

/-! ### What stands in a normal text -/

/-! ### Notes put in -/

/-- The lines of a text, each without its line feed. -/
def sgo (cur : Bs) : Bs → List Bs
  | [] => fl cur
  | c :: r => if c = 10 then cur :: sgo [] r else sgo (cur ++ [c]) r
def segs (s : Bs) : List Bs := sgo [] s
def ones (n : Nat) : List Bs → List Ln
  | [] => []
  | s :: r => one n s ++ ones (n + 1) r
theorem lgo_segs : ∀ (s : Bs) (n : Nat) (cur : Bs), lgo n cur s = ones n (sgo cur s)
  | [], n, cur => by
    rw [lgo, sgo]
    by_cases h : cur = []
    · subst h; rw [fl_nil]; rfl
    · rw [fl_some h, ones, ones, List.append_nil]
  | c :: r, n, cur => by
    by_cases hc : c = 10
    · subst hc
      rw [lgo_lf, sgo, if_pos rfl, ones, lgo_segs r (n + 1) []]
    · rw [lgo_byte hc, sgo, if_neg hc, lgo_segs r n _]
end Go.Proofs.Ytifobiajjhknbaa.M

namespace Go.Proofs.Ytifobiajjhknbaa.M
open Go

end Go.Proofs.Ytifobiajjhknbaa.M

namespace Go.Proofs.Ytifobiajjhknbaa.M
open Go

theorem lines_segs (s : Bs) : linesL s = ones 1 (segs s) := lgo_segs s 1 []
end Go.Proofs.Ytifobiajjhknbaa.M

namespace Go.Proofs.Ytifobiajjhknbaa.W
open Go.Lib

abbrev str (l : List UInt8) : ByteArray := ⟨l.toArray⟩

/-! ### Texts of lists of types -/

/-! ### A value's text -/

/-- What a value's number is above the one shown. -/
def off (t : Int) : Int := if t = 3 then 1 else 0
/-! ### Decimal digits there and back -/

theorem size_of {S : ByteArray} {s : List UInt8} (h : S.data.toList = s) : S.size = s.length := by rw [← h, Array.length_toList]; rfl
theorem byte_at {S : ByteArray} {s : List UInt8} (h : S.data.toList = s) (i : Nat) (hi : i < S.size) (hj : i < s.length) : S[i] = s[i] := by subst h; simp; rfl
end Go.Proofs.Ytifobiajjhknbaa.W

namespace Go.Proofs.Ytifobiajjhknbaa
open Go.RowKit

/-- What lay when the step began, and is none of O, lies as it lay. -/
structure Keep (O : Nat → Prop) (w w' : World) : Prop where
  os : w'.os = w.os
  tape : w'.tape = w.tape
  output : w'.output = w.output
  size : w.heap.size ≤ w'.heap.size
  block : ∀ k, k < w.heap.size → ¬ O k → w'.heap[k]? = w.heap[k]?

/-- No block at all. -/
def NoB : Nat → Prop := fun _ => False
/-- Blocks that were not yet there. -/
def Fresh (w : World) : Nat → Prop := fun k => w.heap.size ≤ k

section
variable {O O' : Nat → Prop} {w w1 w2 : World}
theorem Keep.refl (O : Nat → Prop) (w : World) : Keep O w w := ⟨rfl, rfl, rfl, Nat.le_refl _, fun _ _ _ => rfl⟩
theorem Keep.trans (h : Keep O w w1) (h' : Keep O' w1 w2) (hO : ∀ k, O' k → k < w.heap.size → O k) : Keep O w w2 :=
  ⟨h'.os.trans h.os, h'.tape.trans h.tape, h'.output.trans h.output, Nat.le_trans h.size h'.size,
    fun k hk hn => (h'.block k (Nat.lt_of_lt_of_le hk h.size) (fun ho => hn (hO k ho hk))).trans (h.block k hk hn)⟩
theorem Keep.mono (h : Keep O w w1) (hO : ∀ k, O k → k < w.heap.size → O' k) : Keep O' w w1 :=
  ⟨h.os, h.tape, h.output, h.size, fun k hk hn => h.block k hk (fun ho => hn (hO k ho hk))⟩
theorem Keep.drewN (h : Keep O w w1) (n : Nat) : Keep O w (w1.drewN n) := ⟨h.os, h.tape, h.output, h.size, h.block⟩
theorem Keep.alloc (h : Keep O w w1) (o : Obj) : Keep O w (w1.alloc o) :=
  h.trans (O' := NoB) ⟨rfl, rfl, rfl, by simp, fun k hk _ => Below.heap_alloc _ _ _ hk⟩ (fun _ hf => hf.elim)
theorem Keep.setCell (h : Keep O w w1) {p : Addr} (hp : p.block < w.heap.size → O p.block) (u : Value) : Keep O w (w1.setCell p u) :=
  h.trans (O' := fun k => k = p.block) ⟨rfl, rfl, rfl, by simp [World.setCell], fun k _ hn => Below.heap_setCell _ _ _ _ hn⟩ (fun k e hk => by rw [e] at hk ⊢; exact hp hk)
theorem Keep.grown {row : Option Nat} (h : Keep O w w1) (hg : w1.grownBy w2 row) (hr : ∀ g, row = some g → g < w.heap.size → O g) : Keep O w w2 :=
  h.trans (O' := fun k => some k = row) ⟨hg.os, hg.tape, hg.output, hg.size, fun k hk hn => hg.block k hk hn⟩ (fun k e hk => hr k e.symm hk)
theorem Keep.below (h : Keep O w w1) (hO : ∀ k, O k → w.heap.size ≤ k) : Below w.heap.size w w1 :=
  ⟨h.os, h.tape, h.output, h.size, fun k hk => h.block k hk (fun ho => by have := hO k ho; omega)⟩
theorem Keep.of_below (h : Below w.heap.size w w1) : Keep O w w1 := ⟨h.os, h.tape, h.output, h.size, fun k hk _ => h.block k hk⟩
theorem Keep.cell (h : Keep O w w1) {p : Addr} {v : Value} (hc : w.cell? p = some v) (hp : ¬ O p.block) : w1.cell? p = some v :=
  (World.cell?_of_block (h.block _ (World.block_lt_of_cell? w p hc) hp)).trans hc
theorem keepN (h : Keep NoB w w1) (h' : Keep NoB w1 w2) : Keep NoB w w2 := h.trans h' (fun _ hf _ => hf.elim)
end

/-- A slice's address, from which the cells xs stand. -/
def Rd (w : World) (A : Option Addr) (xs : List Value) : Prop :=
  0 < xs.length → ∃ g off, A = some ⟨g, off, none⟩ ∧ ∀ j u, xs[j]? = some u → w.cell? ⟨g, off + j, none⟩ = some u
theorem Rd.none_ (w : World) (A : Option Addr) : Rd w A [] := fun h => by simp at h
theorem Rd.keep {O : Nat → Prop} {w w' : World} {A : Option Addr} {xs : List Value} (h : Rd w A xs) (hk : Keep O w w') (hA : ∀ ad, A = some ad → ¬ O ad.block) : Rd w' A xs := fun h0 => by
  obtain ⟨g, off, e, hc⟩ := h h0
  exact ⟨g, off, e, fun j u hu => hk.cell (hc j u hu) (by have := hA _ e; exact this)⟩
theorem Rd.keepN {w w' : World} {A : Option Addr} {xs : List Value} (h : Rd w A xs) (hk : Keep NoB w w') : Rd w' A xs := h.keep hk (fun _ _ => id)

/-- A slice that the call owns: so many elements, so many cells each, in a block of O. -/
def Own (w : World) (E size : Nat) (O : Nat → Prop) (v : Value) (n : Nat) (xs : List Value) : Prop :=
  w.ownsRow 0 E size v n xs ∧ ∀ g, v.ownBlock = some g → O g
section
variable {w w' : World} {E size n : Nat} {O O' : Nat → Prop} {v : Value} {xs : List Value}
theorem Own.nil (w : World) (E size : Nat) (O : Nat → Prop) : Own w E size O (.slice none 0 0) 0 [] := ⟨World.ownsRow_nil _ _ _ _, by simp [Value.ownBlock]⟩
theorem Own.mono (h : Own w E size O v n xs) (hO : ∀ k, O k → k < w.heap.size → O' k) : Own w E size O' v n xs := ⟨h.1, fun g e => hO g (h.2 g e) (h.1.lt g e).2⟩
theorem ownsRow_keep {base : Nat} (h : w.ownsRow base E size v n xs) (hk : Keep O w w') (hn : ∀ g, v.ownBlock = some g → ¬ O g) : w'.ownsRow base E size v n xs := by
  refine ⟨h.1, ?_⟩
  rcases h.2 with h2 | ⟨g, cap, cur, rfl, hb, hh, r⟩
  · exact .inl h2
  · exact .inr ⟨g, cap, cur, rfl, hb, (hk.block g (Array.getElem?_eq_some_iff.1 hh).1 (hn g rfl)).trans hh, r⟩
theorem Own.keep (h : Own w E size O v n xs) (hk : Keep O' w w') (hn : ∀ k, O k → ¬ O' k) : Own w' E size O v n xs := ⟨ownsRow_keep h.1 hk (fun g e => hn g (h.2 g e)), h.2⟩
theorem Own.keepN (h : Own w E size O v n xs) (hk : Keep NoB w w') : Own w' E size O v n xs := h.keep hk (fun _ _ => id)
/-- The slice written out; it reads as its cells. -/
theorem Own.form (h : Own w E size O v n xs) : ∃ A c, v = .slice A n c ∧ n ≤ c ∧ c ≤ maxLen ∧ Rd w A xs ∧ (∀ ad, A = some ad → O ad.block ∧ ad = ⟨ad.block, 0, none⟩) := by
  rcases h.1.2 with ⟨rfl, hn⟩ | ⟨g, cap, cur, rfl, _, hh, hc, hm, _⟩
  · have hx : xs = [] := List.length_eq_zero_iff.1 (by rw [h.1.1, hn, Nat.zero_mul])
    subst hx
    exact ⟨none, 0, by rw [hn], Nat.le_of_eq hn, Nat.zero_le _, Rd.none_ _ _, by simp⟩
  · refine ⟨_, cap, rfl, hc, hm, fun _ => ⟨g, 0, rfl, fun j u hu => ?_⟩, ?_⟩
    · have := h.1.cells (g := g) rfl j u hu
      have ea : (⟨g, 0, none⟩ : Addr).add j = ⟨g, 0 + j, none⟩ := by unfold Addr.add; by_cases hj : j = 0 <;> simp [hj]
      rwa [ea] at this
    · intro ad e
      cases e
      exact ⟨h.2 g rfl, rfl⟩
/-- A row of new blocks, as a contract of the shelf, or of make, hands it out. -/
theorem Own.of_row {base : Nat} (h : w.ownsRow base E size v n xs) (hb : ∀ k, base ≤ k → O k) : Own w E size O v n xs := by
  refine ⟨⟨h.1, ?_⟩, fun g e => hb g (h.lt g e).1⟩
  rcases h.2 with h2 | ⟨g, cap, cur, h1, _, h2⟩
  · exact .inl h2
  · exact .inr ⟨g, cap, cur, h1, Nat.zero_le _, h2⟩
end

theorem own_form {w : World} {E size base n : Nat} {v : Value} {xs : List Value} (h : w.ownsRow base E size v n xs) : ∃ A c, v = .slice A n c := by
  rcases h.2 with ⟨rfl, rfl⟩ | ⟨g, cap, cur, rfl, _⟩
  · exact ⟨_, _, rfl⟩
  · exact ⟨_, _, rfl⟩

/-- append of cells that are read onto a row that is owned. -/
theorem run_append_rd (w : World) (S E size bytes : Nat) (i0 : TypeInfo) (z : Value) (hS : Try.prog.underlying S = some (.slice E)) (hi : Try.prog.info? E = some i0) (hz0 : i0.zero = some z) (hz1 : i0.size = size) (hz2 : i0.bytes = bytes) (hzs : z.cells.size = size) (hsz : 0 < size)
    (v : Value) (n : Nat) (xs : List Value) (A : Option Addr) (m c : Nat) (ys : List Value) (ty : TypeId)
    (hown : w.ownsRow 0 E size v n xs) (hr : Rd w A ys) (hl : ys.length = m * size) (h1 : ∀ u ∈ ys, u.oneCell' = true) (h63 : n + m ≤ maxLen) (hb : (n + m) * bytes ≤ 140737488355328) :
    ∃ v' w', (Builtin.append_ #[S, S] ty #[v, .slice A m c]).run Try.prog w = .ok v' w' ∧ w'.ownsRow 0 E size v' (n + m) (xs ++ ys) ∧ w.grownBy w' v.ownBlock ∧
      (v'.ownBlock = v.ownBlock ∨ v'.ownBlock = some w.heap.size) := by
  have hm0 : m = 0 → ys = [] := fun e => List.length_eq_zero_iff.1 (by rw [hl, e, Nat.zero_mul])
  rcases A with _ | ad
  · have hy : ys = [] := by
      rcases Nat.eq_zero_or_pos ys.length with h0 | h0
      · exact List.length_eq_zero_iff.1 h0
      · obtain ⟨g, off, e, _⟩ := hr h0; cases e
    subst hy
    have hm : m = 0 := by
      rcases Nat.eq_zero_or_pos m with h | h
      · exact h
      · have := Nat.mul_pos h hsz; simp at hl; omega
    subst hm
    refine ⟨v, w, ?_, by simpa using hown, World.grownBy.refl w _, .inl rfl⟩
    rcases hown.2 with ⟨rfl, h0⟩ | ⟨g, cap, cur, rfl, _, _, hnc, _⟩
    · simp [Builtin.append_, run_underlying hS, sizeOf, typeInfo, hi, Builtin.lenOf, Builtin.firstCells]
    · simp [Builtin.append_, run_underlying hS, sizeOf, typeInfo, hi, Builtin.lenOf, Builtin.firstCells, hnc, storeCells]
  · have hcells : ∀ j u, ys[j]? = some u → w.cell? (ad.add j) = some u := by
      intro j u hu
      rcases Nat.eq_zero_or_pos ys.length with h0 | h0
      · have : ys = [] := List.length_eq_zero_iff.1 h0
        subst this; simp at hu
      · obtain ⟨g, off, e, hc⟩ := hr h0
        cases e
        have ea : (⟨g, off, none⟩ : Addr).add j = ⟨g, off + j, none⟩ := by unfold Addr.add; by_cases hj : j = 0 <;> simp [hj]
        rw [ea]; exact hc j u hu
    obtain ⟨v', w', hrun, h2, h3, _, h5⟩ := run_append_own_at (P := Try.prog) w 0 S ty E i0 z size bytes hS hi hz0 hz1 hz2 hzs hsz v n xs hown ad m c ys hl hcells h1 h63 hb (Nat.zero_le _)
    exact ⟨v', w', hrun, h2, h3, h5⟩

theorem wp_append_rd {o : Oper} {a : Act} {K : Act → World → Prop} {Q : Exit → Act → World → Prop} (w : World) (s x : Operand) (S : TypeId)
    (ho : o.op = .call { callee := .builtin .append, args := #[s, x], argTypes := #[S, S] })
    (E size bytes : Nat) (i0 : TypeInfo) (z : Value) (hS : Try.prog.underlying S = some (.slice E)) (hi : Try.prog.info? E = some i0) (hz0 : i0.zero = some z) (hz1 : i0.size = size) (hz2 : i0.bytes = bytes) (hzs : z.cells.size = size) (hsz : 0 < size)
    (v : Value) (n : Nat) (xs : List Value) (A : Option Addr) (m c : Nat) (ys : List Value) (hs : a.eval s = v) (hown : w.ownsRow 0 E size v n xs) (hx : a.eval x = .slice A m c) (hr : Rd w A ys)
    (hl : ys.length = m * size) (h1 : ∀ u ∈ ys, u.oneCell' = true) (h63 : n + m ≤ maxLen) (hb : (n + m) * bytes ≤ 140737488355328)
    (h : ∀ A' c' w', w'.ownsRow 0 E size (.slice A' (n + m) c') (n + m) (xs ++ ys) → w.grownBy w' v.ownBlock → ((Value.slice A' (n + m) c').ownBlock = v.ownBlock ∨ (Value.slice A' (n + m) c').ownBlock = some w.heap.size) → K (a.put o.dst (.slice A' (n + m) c')) w') : o.wp Try.prog a w K Q := by
  obtain ⟨v', w', hrun, h2, h3, h4⟩ := run_append_rd w S E size bytes i0 z hS hi hz0 hz1 hz2 hzs hsz v n xs A m c ys o.type hown hr hl h1 h63 hb
  obtain ⟨A', c', rfl⟩ := own_form h2
  unfold Oper.wp execOp
  simp only [ho, resolve, invoke, builtin, Sem.run_bind, Sem.run_pure, Result.andThen_ok, List.map_toArray, List.map_cons, List.map_nil, hs, hx, hrun]
  exact h A' c' w' h2 h3 h4

theorem wpList_append_rd {ops : Array Oper} {rest : List Oper} {o : Oper} {a : Act} {Q : Exit → Act → World → Prop} (w : World) (hgd : o.guard = none) (s x : Operand) (S : TypeId)
    (ho : o.op = .call { callee := .builtin .append, args := #[s, x], argTypes := #[S, S] })
    (E size bytes : Nat) (i0 : TypeInfo) (z : Value) (hS : Try.prog.underlying S = some (.slice E)) (hi : Try.prog.info? E = some i0) (hz0 : i0.zero = some z) (hz1 : i0.size = size) (hz2 : i0.bytes = bytes) (hzs : z.cells.size = size) (hsz : 0 < size)
    (v : Value) (n : Nat) (xs : List Value) (A : Option Addr) (m c : Nat) (ys : List Value) (hs : a.eval s = v) (hown : w.ownsRow 0 E size v n xs) (hx : a.eval x = .slice A m c) (hr : Rd w A ys)
    (hl : ys.length = m * size) (h1 : ∀ u ∈ ys, u.oneCell' = true) (h63 : n + m ≤ maxLen) (hb : (n + m) * bytes ≤ 140737488355328)
    (h : ∀ A' c' w', w'.ownsRow 0 E size (.slice A' (n + m) c') (n + m) (xs ++ ys) → w.grownBy w' v.ownBlock → ((Value.slice A' (n + m) c').ownBlock = v.ownBlock ∨ (Value.slice A' (n + m) c').ownBlock = some w.heap.size) → wpList Try.prog ops Q rest (a.put o.dst (.slice A' (n + m) c')) w') :
    wpList Try.prog ops Q (o :: rest) a w :=
  wpList_plain hgd fun _ hK => wp_append_rd w s x S ho E size bytes i0 z hS hi hz0 hz1 hz2 hzs hsz v n xs A m c ys hs hown hx hr hl h1 h63 hb fun A' c' w' h2 h3 h4 => hK _ _ (h A' c' w' h2 h3 h4)


/-- Block g is just the cells cs of type t, none of them frozen. -/
def Blk (w : World) (g : Nat) (t : TypeId) (cs : Array Value) : Prop := w.heap[g]? = some (.cells cs t (0, 0))
section
variable {w w' : World} {g : Nat} {t : TypeId} {cs : Array Value}
theorem Blk.lt (h : Blk w g t cs) : g < w.heap.size := (Array.getElem?_eq_some_iff.1 h).1
theorem Blk.cell (h : Blk w g t cs) (i : Nat) : w.cell? ⟨g, i, none⟩ = cs[i]? := cell_of_row w g i cs t (0, 0) h
theorem Blk.new (w : World) (t : TypeId) (cs : Array Value) : Blk (w.alloc (.cells cs t)) w.heap.size t cs := heap_alloc_new w _
theorem Blk.alloc (h : Blk w g t cs) (o : Obj) : Blk (w.alloc o) g t cs := (Below.heap_alloc w o g h.lt).trans h
theorem Blk.put (h : Blk w g t cs) (i : Nat) (u : Value) : Blk (w.setCell ⟨g, i, none⟩ u) g t (cs.setIfInBounds i u) := by
  unfold Blk at h ⊢; simp [World.setCell, Array.getElem?_modify, h]
theorem Blk.grown {row : Option Nat} (h : Blk w g t cs) (hb : w.grownBy w' row) (hg : some g ≠ row) : Blk w' g t cs := (hb.block g h.lt hg).trans h
theorem Blk.keep {O : Nat → Prop} (h : Blk w g t cs) (hk : Keep O w w') (hg : ¬ O g) : Blk w' g t cs := (hk.block g h.lt hg).trans h
end

end Go.Proofs.Ytifobiajjhknbaa

namespace Go.Proofs.Ytifobiajjhknbaa.W
open Go.RowKit

/-! ### Zero, Nil -/

end Go.Proofs.Ytifobiajjhknbaa.W

namespace Go.Proofs.Ytifobiajjhknbaa.W
open Go.RowKit

/-! ### great -/

end Go.Proofs.Ytifobiajjhknbaa.W

namespace Go.Proofs.Ytifobiajjhknbaa.W
open Go.RowKit

end Go.Proofs.Ytifobiajjhknbaa.W

namespace Go.Proofs.Ytifobiajjhknbaa.W
open Go.RowKit

theorem rd_new (w : World) (E : TypeId) (cs : Array Value) : Rd (w.alloc (.cells cs E)) (some ⟨w.heap.size, 0, none⟩) cs.toList := fun _ =>
  ⟨_, _, rfl, fun j u hu => by rw [Nat.zero_add, (Blk.new w E cs).cell j]; simpa using hu⟩

theorem own_after {w W W' : World} {E size n : Nat} {v v' : Value} {xs : List Value} (ho : ∀ g, v.ownBlock = some g → Fresh w g) (hK : Keep NoB w W) (hg : W.grownBy W' v.ownBlock)
    (hv : v'.ownBlock = v.ownBlock ∨ v'.ownBlock = some W.heap.size) (hrow : W'.ownsRow 0 E size v' n xs) : Own W' E size (Fresh w) v' n xs ∧ Keep NoB w W' := by
  refine ⟨⟨hrow, fun g e => ?_⟩, hK.grown hg (fun g e h => by have := ho g e; unfold Fresh at this; omega)⟩
  rcases hv with h | h
  · exact ho g (h ▸ e)
  · rw [h] at e; cases e; exact hK.size

theorem rd_made {w : World} {E : TypeId} {cs : Array Value} {b : Nat} {xs : List Value} (hb : b = w.heap.size) (hx : xs = cs.toList) : Rd (w.alloc (.cells cs E)) (some ⟨b, 0, none⟩) xs := by
  subst hb hx; exact rd_new w E cs

end Go.Proofs.Ytifobiajjhknbaa.W

namespace Go.Proofs.Ytifobiajjhknbaa.M
open Go.RowKit W

theorem string_info : (Try.prog.info? 9).map (fun i => (i.zero, i.size, i.bytes)) = some (some (.string ⟨#[]⟩), 1, 16) := by kernel_rfl
abbrev sv (l : List Bs) : List Value := l.map fun s => .string (str s)
theorem rd_one {w : World} {T : TypeId} {v : Value} : Rd (w.alloc (.cells #[v] T)) (some ⟨w.heap.size, 0, none⟩) [v] := fun _ =>
  ⟨_, 0, rfl, fun j u hu => by rw [Nat.zero_add, (Blk.new w T #[v]).cell j, ← hu]; simp⟩
theorem sv_at {w : World} {A : Option Addr} {l : List Bs} (h : Rd w A (sv l)) (h0 : 0 < l.length) : ∃ g off, A = some ⟨g, off, none⟩ ∧ ∀ (i : Nat) (hi : i < l.length), w.cell? ⟨g, off + i, none⟩ = some (.string (str l[i])) := by
  obtain ⟨g, off, e, hc⟩ := h (by simpa using h0)
  exact ⟨g, off, e, fun i hi => hc i _ (by simp [hi])⟩
theorem extract_of {S : ByteArray} {s : Bs} (hs : S.data.toList = s) (f k : Nat) : S.extract f k = str ((s.drop f).take (k - f)) := by
  apply ByteArray.ext
  rw [ByteArray.data_extract]
  apply Array.ext'
  rw [Array.toList_extract, hs, List.extract_eq_take_drop]
theorem str_add (a b : Bs) : str a ++ str b = str (a ++ b) := by
  apply ByteArray.ext
  simp [ByteArray.data_append]
theorem str_eq (a b : Bs) : ((str a).toList == (str b).toList) = decide (a = b) := by
  rw [ByteArray.toList_eq, ByteArray.toList_eq, Bool.eq_iff_iff, beq_iff_eq, decide_eq_true_iff]
end Go.Proofs.Ytifobiajjhknbaa.M

namespace Go.Proofs.Ytifobiajjhknbaa.M
open Go.RowKit Go.Lib

theorem decN_high (n b0 b1 b2 b3 : Nat) (h0 : 128 ≤ b0) (hn : 1 ≤ n) :
    128 ≤ (decodeN n b0 b1 b2 b3).1 ∧ 1 ≤ (decodeN n b0 b1 b2 b3).2 ∧ (decodeN n b0 b1 b2 b3).2 ≤ n ∧ (decodeN n b0 b1 b2 b3).2 ≤ 4 ∧ (2 ≤ (decodeN n b0 b1 b2 b3).2 → 128 ≤ b1) ∧ (3 ≤ (decodeN n b0 b1 b2 b3).2 → 128 ≤ b2) ∧ (4 ≤ (decodeN n b0 b1 b2 b3).2 → 128 ≤ b3) := by
  unfold decodeN
  repeat' split
  all_goals (simp only; omega)
theorem get_byte {S : ByteArray} {s : Bs} (hs : S.data.toList = s) {k : Nat} (hk : k < s.length) : S.get! k = s[k] := by
  subst hs
  have h : k < S.size := by simpa using hk
  simp [ByteArray.get!, getElem!_pos, h]
/-- What is looked for: a byte below 128 of some kind; as a question about runes. -/
def asR (q : UInt8 → Bool) (r : Nat) : Bool := decide (r < 128) && q r.toUInt8
def lowQ (q : UInt8 → Bool) : Prop := ∀ c : UInt8, 128 ≤ c.toNat → q c = false
theorem toU8 (c : UInt8) : c.toNat.toUInt8 = c := by simp
theorem step_at {q : UInt8 → Bool} (hq : lowQ q) {S : ByteArray} {s : Bs} (hs : S.data.toList = s) {k : Nat} (hk : k < s.length) :
    ∃ r w, Utf8.decode S k = (r, w) ∧ 1 ≤ w ∧ k + w ≤ s.length ∧ ((asR q r = true ∧ w = 1 ∧ q s[k] = true ∧ r = s[k].toNat) ∨ (asR q r = false ∧ ∀ c ∈ (s.drop k).take w, q c = false)) := by
  have hsz : S.size = s.length := W.size_of hs
  have g0 := get_byte hs hk
  by_cases h : s[k].toNat < 128
  · refine ⟨s[k].toNat, 1, ?_, Nat.le_refl _, by omega, ?_⟩
    · rw [decode_at, g0]
      unfold decodeN
      rw [if_pos h]
    · have e : asR q s[k].toNat = q s[k] := by unfold asR; rw [toU8, decide_eq_true h]; rfl
      cases hqk : q s[k] with
      | true => exact .inl ⟨by rw [e, hqk], rfl, rfl, rfl⟩
      | false =>
        refine .inr ⟨by rw [e, hqk], fun c hc => ?_⟩
        rw [List.drop_eq_getElem_cons hk] at hc
        rw [List.take_succ_cons, List.take_zero, List.mem_singleton] at hc
        rw [hc]; exact hqk
  · obtain ⟨h1, h2, h3, h4, h5, h6, h7⟩ := decN_high (S.size - k) (S.get! k).toNat (S.get! (k + 1)).toNat (S.get! (k + 2)).toNat (S.get! (k + 3)).toNat (by rw [g0]; omega) (by omega)
    rw [← decode_at] at h1 h2 h3 h4 h5 h6 h7
    obtain ⟨r, w, e⟩ : ∃ r w, Utf8.decode S k = (r, w) := ⟨_, _, rfl⟩
    rw [e] at h1 h2 h3 h4 h5 h6 h7
    dsimp only at h1 h2 h3 h4 h5 h6 h7
    refine ⟨r, w, e, h2, by omega, .inr ⟨by unfold asR; rw [decide_eq_false (by omega)]; rfl, fun c hc => ?_⟩⟩
    obtain ⟨j, hj, rfl⟩ := List.mem_iff_getElem.1 hc
    simp at hj
    rw [List.getElem_take, List.getElem_drop]
    apply hq
    have hj2 : j = 0 ∨ j = 1 ∨ j = 2 ∨ j = 3 := by omega
    rcases hj2 with rfl | rfl | rfl | rfl
    · exact by simpa using (by omega : 128 ≤ s[k].toNat)
    · have := h5 (by omega); rwa [get_byte hs (by omega)] at this
    · have := h6 (by omega); rwa [get_byte hs (by omega)] at this
    · have := h7 (by omega); rwa [get_byte hs (by omega)] at this

/-! ### Up to the first one -/

def cutQ (q : UInt8 → Bool) (s : Bs) : Bs := s.takeWhile fun c => !q c
theorem idx_from {q : UInt8 → Bool} (hq : lowQ q) {S : ByteArray} {s : Bs} (hs : S.data.toList = s) : ∀ (f k : Nat), k ≤ s.length → s.length - k ≤ f →
    (idxFuncFrom (asR q) true S f k = -1 ∧ cutQ q (s.drop k) = s.drop k) ∨ (∃ i : Nat, idxFuncFrom (asR q) true S f k = (i : Int) ∧ k ≤ i ∧ i < s.length ∧ cutQ q (s.drop k) = (s.drop k).take (i - k))
  | 0, k, h1, h2 => by
    have : k = s.length := by omega
    subst this
    exact .inl ⟨rfl, by rw [List.drop_length]; rfl⟩
  | f + 1, k, h1, h2 => by
    have hsz : S.size = s.length := W.size_of hs
    by_cases hk : k < s.length
    · obtain ⟨r, w, e, hw1, hw2, hcase⟩ := step_at hq hs hk
      unfold idxFuncFrom
      rw [if_pos (by omega), e]
      dsimp only
      rcases hcase with ⟨hp, _, hqk, _⟩ | ⟨hp, hall⟩
      · rw [if_pos hp]
        refine .inr ⟨k, rfl, Nat.le_refl _, hk, ?_⟩
        rw [Nat.sub_self, List.take_zero, List.drop_eq_getElem_cons hk]
        unfold cutQ
        rw [List.takeWhile_cons_of_neg (by rw [hqk]; decide)]
      · rw [if_neg (by rw [hp]; decide)]
        have hsp : s.drop k = (s.drop k).take w ++ s.drop (k + w) := by
          rw [← List.drop_drop]; exact (List.take_append_drop w _).symm
        have hcut : cutQ q (s.drop k) = (s.drop k).take w ++ cutQ q (s.drop (k + w)) := by
          conv => lhs; rw [hsp]
          unfold cutQ
          rw [List.takeWhile_append_of_pos (fun c hc => by rw [hall c hc]; rfl)]
        rcases idx_from hq hs f (k + w) hw2 (by omega) with ⟨h3, h4⟩ | ⟨i, h3, h4, h5, h6⟩
        · exact .inl ⟨h3, by rw [hcut, h4]; exact hsp.symm⟩
        · refine .inr ⟨i, h3, by omega, h5, ?_⟩
          rw [hcut, h6, show i - k = w + (i - (k + w)) by omega, List.take_add, List.drop_drop]
    · have : k = s.length := by omega
      subst this
      rw [idxFuncFrom_end _ _ _ _ _ (by omega)]
      exact .inl ⟨rfl, by rw [List.drop_length]; rfl⟩
theorem idx_cut {q : UInt8 → Bool} (hq : lowQ q) {S : ByteArray} {s : Bs} (hs : S.data.toList = s) :
    (idxFunc (asR q) true S = -1 ∧ cutQ q s = s) ∨ (∃ i : Nat, idxFunc (asR q) true S = (i : Int) ∧ i < s.length ∧ cutQ q s = s.take i) := by
  have hsz : S.size = s.length := W.size_of hs
  unfold idxFunc
  rcases idx_from hq hs S.size 0 (Nat.zero_le _) (by omega) with ⟨h1, h2⟩ | ⟨i, h1, _, h3, h4⟩
  · exact .inl ⟨h1, by simpa using h2⟩
  · exact .inr ⟨i, h1, h3, by simpa using h4⟩

/-! ### Fields -/

theorem low_end : lowQ endB := by
  intro c h
  unfold endB
  rw [decide_eq_false_iff_not]
  rintro (rfl | rfl) <;> exact absurd h (by decide)
theorem low_gap : lowQ gapB := by
  intro c h
  unfold gapB
  rw [decide_eq_false_iff_not]
  rintro (rfl | rfl) <;> exact absurd h (by decide)
theorem wgo_cut : ∀ (s cur : Bs), wgo cur (cutQ endB s) = wgo cur s
  | [], cur => rfl
  | c :: r, cur => by
    unfold cutQ
    cases he : endB c with
    | true => rw [List.takeWhile_cons_of_neg (by rw [he]; decide), wgo_end he]; rfl
    | false =>
      rw [List.takeWhile_cons_of_pos (by rw [he]; decide)]
      cases hg : gapB c with
      | true => rw [wgo_gap he hg, wgo_gap he hg]; rw [show r.takeWhile (fun c => !endB c) = cutQ endB r from rfl, wgo_cut r []]
      | false => rw [wgo_byte he hg, wgo_byte he hg]; exact wgo_cut r _
theorem words_cut (s : Bs) : wordsL (cutQ endB s) = wordsL s := wgo_cut s []
theorem cut_all (q : UInt8 → Bool) (s : Bs) : ∀ c ∈ cutQ q s, q c = false := by
  induction s with
  | nil => intro c hc; cases hc
  | cons x r ih =>
    intro c hc
    unfold cutQ at hc
    cases hq : q x with
    | true => rw [List.takeWhile_cons_of_neg (by rw [hq]; decide)] at hc; cases hc
    | false =>
      rw [List.takeWhile_cons_of_pos (by rw [hq]; decide)] at hc
      rcases List.mem_cons.1 hc with rfl | hc
      · exact hq
      · exact ih c hc

/-- What is in hand: from where a word began. -/
def curOf (s : Bs) (pos : Nat) : Option Nat → Bs
  | some a => (s.drop a).take (pos - a)
  | none => []
def okSt (pos : Nat) : Option Nat → Prop
  | some a => a < pos
  | none => True
def outOf (S : ByteArray) (acc : List (Nat × Nat)) : List ByteArray := acc.map fun x => S.extract x.1 x.2
theorem spans_from {S : ByteArray} {s : Bs} (hs : S.data.toList = s) (hno : ∀ c ∈ s, endB c = false) : ∀ (f pos : Nat) (st : Option Nat) (acc : List (Nat × Nat)), pos ≤ s.length → s.length - pos ≤ f → okSt pos st →
    outOf S (closeSpans S (spansFromP (asR gapB) S f pos st acc)) = outOf S acc ++ (wgo (curOf s pos st) (s.drop pos)).map W.str := by
  have hsz : S.size = s.length := W.size_of hs
  have hdone : ∀ (pos : Nat) (st : Option Nat) (acc : List (Nat × Nat)), pos = s.length → okSt pos st → outOf S (closeSpans S (acc, st)) = outOf S acc ++ (wgo (curOf s pos st) (s.drop pos)).map W.str := by
    intro pos st acc hp hok
    subst hp
    rw [List.drop_length, wgo]
    cases st with
    | none =>
      show outOf S acc = outOf S acc ++ (fl []).map W.str
      rw [fl_nil]; simp
    | some a =>
      have ha : a < s.length := hok
      have hne : curOf s s.length (some a) ≠ [] := by
        intro e
        have := congrArg List.length e
        simp [curOf] at this
        omega
      rw [fl_some hne]
      unfold closeSpans outOf
      dsimp only
      rw [List.map_append]
      congr 1
      show [S.extract a S.size] = [W.str (curOf s s.length (some a))]
      rw [extract_of hs, hsz]
      rfl
  intro f
  induction f with
  | zero => intro pos st acc h1 h2 h3; exact hdone pos st acc (by omega) h3
  | succ f ih =>
    intro pos st acc h1 h2 h3
    by_cases hk : pos < s.length
    · obtain ⟨r, w, e, hw1, hw2, hcase⟩ := step_at low_gap hs hk
      have hen : endB s[pos] = false := hno _ (List.getElem_mem _)
      unfold spansFromP
      rw [if_pos (by omega), e]
      dsimp only
      rcases hcase with ⟨hp, hw, hqk, _⟩ | ⟨hp, hall⟩
      · subst hw
        rw [if_pos hp]
        cases st with
        | none =>
          dsimp only
          rw [ih (pos + 1) none acc hw2 (by omega) trivial]
          congr 1
          rw [List.drop_eq_getElem_cons hk, wgo_gap hen hqk]
          show (wgo [] _).map W.str = (fl [] ++ wgo [] _).map W.str
          rw [fl_nil, List.nil_append]
        | some a =>
          dsimp only
          have ha : a < pos := h3
          rw [ih (pos + 1) none (acc ++ [(a, pos)]) hw2 (by omega) trivial]
          have hne : curOf s pos (some a) ≠ [] := by
            intro e
            have := congrArg List.length e
            simp [curOf] at this
            omega
          conv => rhs; rw [List.drop_eq_getElem_cons hk, wgo_gap hen hqk, fl_some hne]
          unfold outOf
          rw [List.map_append, List.append_assoc]
          congr 1
          show [S.extract a pos] ++ (wgo [] _).map W.str = ([curOf s pos (some a)] ++ wgo [] _).map W.str
          rw [extract_of hs, List.map_append]
          rfl
      · rw [if_neg (by rw [hp]; decide)]
        have hsp : s.drop pos = (s.drop pos).take w ++ s.drop (pos + w) := by
          rw [← List.drop_drop]; exact (List.take_append_drop w _).symm
        have hW : ((s.drop pos).take w).all inW = true := by
          rw [List.all_eq_true]
          intro c hc
          rw [inW_iff]
          exact ⟨hno c (List.mem_of_mem_drop (List.mem_of_mem_take hc)), hall c hc⟩
        cases st with
        | none =>
          dsimp only
          rw [ih (pos + w) (some pos) acc hw2 (by omega) (by show pos < pos + w; omega)]
          congr 2
          conv => rhs; rw [hsp, wgo_word hW]
          show wgo ((s.drop pos).take (pos + w - pos)) _ = wgo ([] ++ _) _
          rw [List.nil_append, show pos + w - pos = w by omega]
        | some a =>
          dsimp only
          have ha : a < pos := h3
          rw [ih (pos + w) (some a) acc hw2 (by omega) (by show a < pos + w; omega)]
          congr 2
          conv => rhs; rw [hsp, wgo_word hW]
          congr 1
          show (s.drop a).take (pos + w - a) = (s.drop a).take (pos - a) ++ (s.drop pos).take w
          have e2 : s.drop pos = (s.drop a).drop (pos - a) := by rw [List.drop_drop]; congr 1; omega
          rw [e2, show pos + w - a = (pos - a) + w by omega, List.take_add]
    · rw [spansFromP_end _ _ _ _ _ _ (by omega)]
      exact hdone pos st acc (by omega) h3
/-- The library's fields of a text in which no line ends are its words. -/
theorem fields_words {S : ByteArray} {s : Bs} (hs : S.data.toList = s) (hno : ∀ c ∈ s, endB c = false) : goFieldsP (asR gapB) S = (wordsL s).map W.str := by
  have h := spans_from hs hno S.size 0 none [] (Nat.zero_le _) (by rw [W.size_of hs]; omega) trivial
  have h2 : outOf S [] = [] := rfl
  rw [h2, List.nil_append, List.drop_zero] at h
  exact h

end Go.Proofs.Ytifobiajjhknbaa.M

namespace Go.Proofs.Ytifobiajjhknbaa
open Go.RowKit Go.Shelf

section
variable {P : Program} {n : Nat}

end
end Go.Proofs.Ytifobiajjhknbaa

namespace Go.Proofs.Ytifobiajjhknbaa
open Go.RowKit Go.Shelf

abbrev BSet := Nat → Prop
/-- What an iterator does: it changes only what is as new as that, and not p's, and makes no cells. -/
structure IStep (B : Nat) (p : BSet) (W W' : World) : Prop where
  keep : Keep (fun k => B ≤ k ∧ ¬ p k) W W'
  cells : ∀ (k : Nat) (o : Obj), W'.heap[k]? = some o → o.isCells = true → W.heap[k]? = some o
/-- What holds is not touched by that. -/
def KeepsOut {β : Type} (B : Nat) (I : β → BSet → World → Prop) : Prop := ∀ s p W W', I s p W → IStep B p W W' → I s p W'
theorem IStep.alloc {B : Nat} {p : BSet} {W : World} (o : Obj) (ho : o.isCells = false) : IStep B p W (W.alloc o) := by
  refine ⟨(Keep.refl _ _).alloc _, fun k o' hk hc => ?_⟩
  have hl := (Array.getElem?_eq_some_iff.1 hk).1
  rw [World.size_alloc] at hl
  by_cases e : k = W.heap.size
  · subst e
    rw [World.alloc_heap_new] at hk
    cases hk
    rw [ho] at hc; cases hc
  · rw [Below.heap_alloc _ _ _ (by omega)] at hk
    exact hk
theorem IStep.trans {B : Nat} {p : BSet} {W W1 W2 : World} (h : IStep B p W W1) (h' : IStep B p W1 W2) : IStep B p W W2 :=
  ⟨h.keep.trans h'.keep (fun _ h _ => h), fun k o hk hc => h.cells k o (h'.cells k o hk hc) hc⟩
theorem IStep.putObj {B l : Nat} {p : BSet} {W : World} (o : Obj) (ho : o.isCells = false) (hB : B ≤ l) (hp : ¬ p l) : IStep B p W (W.putObj l o) := by
  refine ⟨(Keep.refl _ W).grown (grownBy_putObj' W l o) (fun g e hl => by cases e; exact ⟨hB, hp⟩), fun k o' hk hc => ?_⟩
  by_cases e : k = l
  · subst e
    have hl := (Array.getElem?_eq_some_iff.1 hk).1
    rw [World.putObj_heap_same (by simpa [World.putObj] using hl)] at hk
    cases hk
    rw [ho] at hc; cases hc
  · rwa [World.putObj_heap_other e] at hk
theorem IStep.mono {B B' : Nat} {p p' : BSet} {W W' : World} (h : IStep B p W W') (hB : B' ≤ B) (hp : ∀ k, p' k → p k) : IStep B' p' W W' :=
  ⟨h.keep.mono (fun k h2 _ => ⟨Nat.le_trans hB h2.1, fun h3 => h2.2 (hp k h3)⟩), h.cells⟩
/-- Only what is p's is changed; p takes in only what is new. -/
structure Rnd (p p' : BSet) (W W' : World) : Prop where
  own : ∀ k, k < W.heap.size → p' k → p k
  keep : Keep p W W'
theorem Rnd.refl (p : BSet) (W : World) : Rnd p p W W := ⟨fun _ _ h => h, Keep.refl _ _⟩
theorem Rnd.trans {p p1 p2 : BSet} {W W1 W2 : World} (h : Rnd p p1 W W1) (h' : Rnd p1 p2 W1 W2) : Rnd p p2 W W2 :=
  ⟨fun k hk h2 => h.own k hk (h'.own k (Nat.lt_of_lt_of_le hk h.keep.size) h2), h.keep.trans h'.keep (fun k h1 hk => h.own k hk h1)⟩
theorem Keep.noB {O : BSet} {W W' : World} (h : Keep NoB W W') : Keep O W W' := h.mono (fun _ hf => hf.elim)
theorem Rnd.not {p p' : BSet} {W W' : World} (h : Rnd p p' W W') {k : Nat} (hk : k < W.heap.size) (hn : ¬ p k) : ¬ p' k := fun h2 => hn (h.own k hk h2)
theorem Rnd.same {p p' : BSet} {W W' : World} (h : Rnd p p' W W') {k : Nat} (hk : k < W.heap.size) (hn : ¬ p k) : W'.heap[k]? = W.heap[k]? := h.keep.block k hk hn

section
variable {P : Program} {n : Nat}
/-- What is asked of the iterator. -/
def StopsM {α : Type} (P : Program) (m k : Nat) (gf : Nat) (lb : Array Value) (encs : α → Array Value) (bx : Nat) (o : Obj) (En : List α → α → Prop) (S Sp : List α → Prop) : Prop :=
  ∀ (L : Nat) (J Jx : List α → BSet → World → Prop) (p : BSet) (W : World), KeepsOut W.heap.size J → KeepsOut W.heap.size Jx →
    (∀ pre x p W1, J pre p W1 → En pre x → YieldAt Fence.wide m P L (encs x) W1 fun e W' => ∃ p', Rnd p p' W1 W' ∧ ((e = .returned (.bool true) ∧ J (pre ++ [x]) p' W') ∨ (e = .returned (.bool false) ∧ Jx (pre ++ [x]) p' W'))) →
    J [] p W → (∀ k, p k → k < W.heap.size) → W.heap[bx]? = some o → ¬ p bx →
    CallsIn Fence.wide k P gf (#[.func (.yield L) #[] #[]] ++ lb) W fun e W' => (∃ v, e = .returned v) ∧ ∃ p', ((∃ xs, S xs ∧ J xs p' W') ∨ (∃ pre, Sp pre ∧ Jx pre p' W'))

/-- How a round of the body may end. -/
def minePost {α : Type} (I : List α → BSet → World → Prop) (Ix : Code → List α → BSet → World → Prop) (xs : List α) (p : BSet) (W : World) : Exit → Act → World → Prop
  | .normal, _, W' => ∃ p', Rnd p p' W W' ∧ I xs p' W'
  | .ret, _, W' => ∃ p', Rnd p p' W W' ∧ Ix .ret xs p' W'
  | .exit id, _, W' => ∃ p', Rnd p p' W W' ∧ Ix (.exit id) xs p' W'
  | .goto t, _, W' => ∃ p', Rnd p p' W W' ∧ Ix (.goto t) xs p' W'
  | .panic _, _, _ => False
  | .outgrown, _, _ => False

theorem wpIn_rangeFunc_mine {α : Type} {g : Operand} {ps : Array Tmp} {assign body : Code} {Q : Exit → Act → World → Prop} {a : Act} {w : World} {m : Nat}
    {gf : Nat} {lb : Array Value} (hg : a.eval g = .func (.func gf) #[] lb) (eg : ∀ args w, (callFunc gf args).run P w = .ok (.enter gf args) w)
    {encs : α → Array Value} {bx : Nat} {o : Obj} {En : List α → α → Prop} {S Sp : List α → Prop} (hit : StopsM P m (n - 1) gf lb encs bx o En S Sp) (hps : ∀ x, (encs x).size = ps.size)
    (I : List α → BSet → World → Prop) (Ix : Code → List α → BSet → World → Prop) (hI : KeepsOut w.heap.size I) (hIx : ∀ c, KeepsOut w.heap.size (Ix c)) {p0 : BSet} (h0 : I [] p0 w) (hp0 : ∀ k, p0 k → k < w.heap.size) (hbx : w.heap[bx]? = some o) (hpb : ¬ p0 bx)
    (Ax : List α → α → BSet → Act → World → Prop) (hAx : ∀ pre x a', KeepsOut w.heap.size (fun (_ : Unit) p W => Ax pre x p a' W))
    (hassign : ∀ (l : Nat) (pre : List α) (x : α) (p : BSet) (W : World), I pre p W → En pre x →
      assign.wpIn (Fence.wide.inRound l) m P (Exit.then (fun a' W' => ∃ p', Rnd p p' W W' ∧ Ax pre x p' a' W') (fun _ _ _ => False)) { tmps := (ps.zip (encs x)).foldl (fun t (p, v) => t.setIfInBounds p v) a.tmps, defers := [] } W)
    (hbody : ∀ (l : Nat) (pre : List α) (x : α) (p : BSet) (a' : Act) (W : World), En pre x → Ax pre x p a' W → body.wpIn (Fence.wide.inRound l) m P (minePost I Ix (pre ++ [x]) p W) a' W)
    (hdone : ∀ (D : Nat) (xs : List α) (p : BSet) (W : World), w.heap.size ≤ D → ¬ p D → S xs → I xs p W → W.heap[D]? = some (.deferred (some [])) → Q .normal { a with defers := { target := .collected D, args := #[] } :: a.defers } W)
    (hstop : ∀ (D : Nat) (c : Code) (pre : List α) (p : BSet) (W : World), w.heap.size ≤ D → ¬ p D → Sp pre → Ix c pre p W → W.heap[D]? = some (.deferred (some [])) → c.wpIn Fence.wide n P Q { a with defers := { target := .collected D, args := #[] } :: a.defers } W) :
    (Code.rangeFunc g ps assign body).wpIn Fence.wide n P Q a w := by
  have hbl : bx < w.heap.size := (Array.getElem?_eq_some_iff.1 hbx).1
  refine wpIn_rangeFunc fun fn _ => ?_
  obtain ⟨rec, hrec⟩ : ∃ rec : LoopState → Option Code → Loop, rec = fun st pe => { state := st, pending := pe, fn, tmps := a.tmps, params := ps, assign, body, defers := w.heap.size } := ⟨_, rfl⟩
  obtain ⟨W1, hW1⟩ : ∃ W1, (w.alloc (.deferred (some []))).alloc (.loop (rec .ready none)) = W1 := ⟨_, rfl⟩
  have hL1 : W1.heap[w.heap.size + 1]? = some (.loop (rec .ready none)) := by
    rw [← hW1]; have := World.alloc_heap_new (w.alloc (.deferred (some []))) (.loop (rec .ready none)); rwa [World.size_alloc] at this
  have hD1 : W1.heap[w.heap.size]? = some (.deferred (some [])) := by
    rw [← hW1]; exact (Below.heap_alloc _ _ _ (by simp)).trans (World.alloc_heap_new w _)
  have hs1 : W1.heap.size = w.heap.size + 2 := by rw [← hW1]; simp
  have hB1 : W1.heap[bx]? = some o := by
    rw [← hW1]; exact (Below.heap_alloc _ _ _ (by simp; omega)).trans ((Below.heap_alloc _ _ _ hbl).trans hbx)
  have hI1 : I [] p0 W1 := hI _ _ _ _ h0 (by rw [← hW1]; exact (IStep.alloc _ rfl).trans (IStep.alloc _ rfl))
  have hput : ∀ {β : Type} {I' : β → BSet → World → Prop} (_ : KeepsOut w.heap.size I') {s : β} {p : BSet} {W : World} (l' : Loop), I' s p W → ¬ p (w.heap.size + 1) → I' s p (W.putObj (w.heap.size + 1) (.loop l')) := by
    intro β I' h s p W l' hi hn
    exact h _ _ _ _ hi (IStep.putObj _ rfl (by omega) hn)
  refine ⟨w.heap.size + 1, [{ target := .collected w.heap.size, args := #[] }], W1, { target := .fn (.func gf) lb, args := #[.func (.yield (w.heap.size + 1)) #[] #[]] }, W1, gf,
    #[.func (.yield (w.heap.size + 1)) #[] #[]] ++ lb, W1, ?_, ?_, fun _ _ => trivial, ?_, (fun h => by cases h), ?_⟩
  · rw [← hW1, hrec]; exact run_enterLoop_outer _ _ _ _ _
  · simp only [resolve, hg]
    simp [go_sem]
  · simp [invoke, go_sem, eg]
  refine (hit (w.heap.size + 1)
    (fun pre pj W => ∃ p, (pj = fun k => p k ∨ k = w.heap.size + 1) ∧ (¬ p (w.heap.size + 1) ∧ ¬ p w.heap.size) ∧ I pre p W ∧ W.heap[w.heap.size + 1]? = some (.loop (rec .ready none)) ∧ W.heap[w.heap.size]? = some (.deferred (some [])))
    (fun pre pj W => ∃ p, (pj = fun k => p k ∨ k = w.heap.size + 1) ∧ (¬ p (w.heap.size + 1) ∧ ¬ p w.heap.size) ∧ ∃ c, Ix c pre p W ∧ W.heap[w.heap.size + 1]? = some (.loop (rec .done (some c))) ∧ W.heap[w.heap.size]? = some (.deferred (some [])))
    (fun k => p0 k ∨ k = w.heap.size + 1) W1 ?_ ?_ ?_ ⟨p0, rfl, ⟨fun h => by have := hp0 _ h; omega, fun h => by have := hp0 _ h; omega⟩, hI1, hL1, hD1⟩ ?_ hB1 ?_).mono ?_
  · rintro pre pj W W' ⟨p, rfl, hn, hi, hl, hd⟩ hk
    exact ⟨p, rfl, hn, hI _ _ _ _ hi (hk.mono (by omega) (fun k h2 => .inl h2)), (hk.keep.block _ (Array.getElem?_eq_some_iff.1 hl).1 (by rintro ⟨h, _⟩; omega)).trans hl, (hk.keep.block _ (Array.getElem?_eq_some_iff.1 hd).1 (by rintro ⟨h, _⟩; omega)).trans hd⟩
  · rintro pre pj W W' ⟨p, rfl, hn, c, hi, hl, hd⟩ hk
    exact ⟨p, rfl, hn, c, hIx c _ _ _ _ hi (hk.mono (by omega) (fun k h2 => .inl h2)), (hk.keep.block _ (Array.getElem?_eq_some_iff.1 hl).1 (by rintro ⟨h, _⟩; omega)).trans hl, (hk.keep.block _ (Array.getElem?_eq_some_iff.1 hd).1 (by rintro ⟨h, _⟩; omega)).trans hd⟩
  · rintro pre x pj W ⟨p, rfl, ⟨hnl, hnd⟩, hi, hl, hd⟩ hen
    have hlt : w.heap.size + 1 < W.heap.size := (Array.getElem?_eq_some_iff.1 hl).1
    have hy := run_yield (P := P) (args := encs x) hl (by rw [hrec]; exact hps x)
    rw [hrec] at hy
    refine ⟨fn, _, assign, body, hy, roundIn_of_wpIn trivial (wpIn_mono (hassign _ pre x p W hi hen) ?_)⟩
    clear hy
    intro e a₁ Wa hq
    cases e with
    | normal =>
      obtain ⟨p1, hr1, hax⟩ := hq
      have hl1 := (hr1.same hlt hnl).trans hl
      have hd1 := (hr1.same (by omega) hnd).trans hd
      have hnl1 := hr1.not hlt hnl
      have hnd1 := hr1.not (by omega) hnd
      have hlt1 : w.heap.size + 1 < Wa.heap.size := (Array.getElem?_eq_some_iff.1 hl1).1
      refine ⟨_, run_beginRound hl1 (by rw [hrec]), ?_⟩
      have hl2 : (Wa.putObj (w.heap.size + 1) (.loop { rec .ready none with state := .busy })).heap[w.heap.size + 1]? = some (.loop { rec .ready none with state := .busy }) := World.putObj_heap_same hlt1
      have hd2 : (Wa.putObj (w.heap.size + 1) (.loop { rec .ready none with state := .busy })).heap[w.heap.size]? = some (.deferred (some [])) := (World.putObj_heap_other (by omega)).trans hd1
      have hkl : Keep (fun k => p k ∨ k = w.heap.size + 1) W (Wa.putObj (w.heap.size + 1) (.loop { rec .ready none with state := .busy })) :=
        (hr1.keep.mono (fun k h _ => .inl h)).grown (grownBy_putObj' Wa (w.heap.size + 1) _) (fun g e _ => by cases e; exact .inr rfl)
      have hz2 : (Wa.putObj (w.heap.size + 1) (.loop { rec .ready none with state := .busy })).heap.size = Wa.heap.size := by simp [World.putObj]
      refine wpIn_mono (hbody _ pre x p1 a₁ _ hen (hput (hAx pre x a₁) (s := ()) _ hax hnl1)) ?_
      have fin : ∀ (jump : Option Code) (p2 : BSet) (W3 : World), Rnd p1 p2 (Wa.putObj (w.heap.size + 1) (.loop { rec .ready none with state := .busy })) W3 →
          (Instr.endRound (w.heap.size + 1) jump).run P W3 = .ok (.bool jump.isNone) (W3.putObj (w.heap.size + 1) (.loop (rec (if jump.isNone then .ready else .done) jump))) ∧
          (W3.putObj (w.heap.size + 1) (.loop (rec (if jump.isNone then .ready else .done) jump))).heap[w.heap.size + 1]? = some (.loop (rec (if jump.isNone then .ready else .done) jump)) ∧
          (W3.putObj (w.heap.size + 1) (.loop (rec (if jump.isNone then .ready else .done) jump))).heap[w.heap.size]? = some (.deferred (some [])) ∧
          (¬ p2 (w.heap.size + 1) ∧ ¬ p2 w.heap.size) ∧
          Rnd (fun k => p k ∨ k = w.heap.size + 1) (fun k => p2 k ∨ k = w.heap.size + 1) W (W3.putObj (w.heap.size + 1) (.loop (rec (if jump.isNone then .ready else .done) jump))) := fun jump p2 W3 hr2 => by
        have hl3 := (hr2.same (by rw [hz2]; exact hlt1) hnl1).trans hl2
        have hd3 := (hr2.same (by rw [hz2]; omega) hnd1).trans hd2
        have := run_endRound (P := P) jump hl3
        rw [hrec] at this ⊢
        refine ⟨this, World.putObj_heap_same (Array.getElem?_eq_some_iff.1 hl3).1, (World.putObj_heap_other (by omega)).trans hd3, ⟨hr2.not (by rw [hz2]; exact hlt1) hnl1, hr2.not (by rw [hz2]; omega) hnd1⟩, ⟨fun k hk h => ?_, ?_⟩⟩
        · rcases h with h | h
          · exact .inl (hr1.own k hk (hr2.own k (by rw [hz2]; exact Nat.lt_of_lt_of_le hk hr1.keep.size) h))
          · exact .inr h
        · rw [hrec] at hkl hr2
          exact (hkl.trans hr2.keep (fun k h hk => .inl (hr1.own k hk h))).grown (grownBy_putObj' W3 (w.heap.size + 1) _) (fun g e _ => by cases e; exact .inr rfl)
      rintro e a3 W3 hp
      cases e with
      | normal =>
        obtain ⟨p2, hr2, hi3⟩ := hp
        obtain ⟨hr, hl4, hd4, hn4, hR⟩ := fin none p2 W3 hr2
        exact ⟨_, _, hr, ⟨_, hR, .inl ⟨rfl, p2, rfl, hn4, hput hI _ hi3 hn4.1, hl4, hd4⟩⟩⟩
      | ret =>
        obtain ⟨p2, hr2, hi3⟩ := hp
        obtain ⟨hr, hl4, hd4, hn4, hR⟩ := fin (some .ret) p2 W3 hr2
        exact ⟨_, _, hr, ⟨_, hR, .inr ⟨rfl, p2, rfl, hn4, .ret, hput (hIx _) _ hi3 hn4.1, hl4, hd4⟩⟩⟩
      | exit id =>
        obtain ⟨p2, hr2, hi3⟩ := hp
        obtain ⟨hr, hl4, hd4, hn4, hR⟩ := fin (some (.exit id)) p2 W3 hr2
        exact ⟨_, _, hr, ⟨_, hR, .inr ⟨rfl, p2, rfl, hn4, .exit id, hput (hIx _) _ hi3 hn4.1, hl4, hd4⟩⟩⟩
      | goto t =>
        obtain ⟨p2, hr2, hi3⟩ := hp
        obtain ⟨hr, hl4, hd4, hn4, hR⟩ := fin (some (.goto t)) p2 W3 hr2
        exact ⟨_, _, hr, ⟨_, hR, .inr ⟨rfl, p2, rfl, hn4, .goto t, hput (hIx _) _ hi3 hn4.1, hl4, hd4⟩⟩⟩
      | panic ch => exact hp.elim
      | outgrown => exact hp.elim
    | exit id => exact hq
    | goto t => exact hq
    | ret => exact hq
    | panic c => exact hq
    | outgrown => exact hq
  · rintro k (h | h)
    · have := hp0 k h; omega
    · omega
  · rintro (h | h)
    · exact hpb h
    · omega
  · rintro e W2 ⟨⟨v, rfl⟩, pj, (⟨xs, hS, p, rfl, hn, hi, hl, hd⟩ | ⟨pre, hSp, p, rfl, hn, c, hi, hl, hd⟩)⟩
    · exact ⟨none, _, by have := run_endLoop (P := P) hl (by rw [hrec]; simp); rw [hrec] at this; exact this, hdone _ xs p _ (Nat.le_refl _) hn.2 hS (hput hI _ hi hn.1) ((World.putObj_heap_other (by omega)).trans hd)⟩
    · exact ⟨some c, _, by have := run_endLoop (P := P) hl (by rw [hrec]; simp); rw [hrec] at this; exact this, hstop _ c pre p _ (Nat.le_refl _) hn.2 hSp (hput (hIx c) _ hi hn.1) ((World.putObj_heap_other (by omega)).trans hd)⟩
end
end Go.Proofs.Ytifobiajjhknbaa

namespace Go.Proofs.Ytifobiajjhknbaa.M
open Go.RowKit Go.Shelf Go.Lib W

/-- Lines with their numbers. -/
def numS (n : Nat) : List Bs → List (Nat × Bs)
  | [] => []
  | s :: r => (n, s) :: numS (n + 1) r
theorem sgo_word {w : Bs} (h : ∀ c ∈ w, c ≠ 10) (cur r : Bs) : sgo cur (w ++ r) = sgo (cur ++ w) r := by
  induction w generalizing cur with
  | nil => simp
  | cons c w ih =>
    rw [List.cons_append, sgo, if_neg (h c (by simp)), ih (fun d hd => h d (List.mem_cons_of_mem _ hd)), List.append_assoc]
    rfl
def isLF (c : UInt8) : Bool := decide (c = 10)
theorem low_lf : lowQ isLF := by
  intro c h
  unfold isLF
  rw [decide_eq_false_iff_not]
  rintro rfl
  exact absurd h (by decide)
theorem asR_lf (r : Nat) : asR isLF r = ((r : Int) == 10) := by
  unfold asR isLF
  rw [Bool.eq_iff_iff, Bool.and_eq_true, decide_eq_true_iff, decide_eq_true_iff, beq_iff_eq]
  constructor
  · rintro ⟨h, h1⟩
    have := congrArg UInt8.toNat h1; simp at this; omega
  · intro h
    obtain rfl : r = 10 := by omega
    exact ⟨by omega, rfl⟩
/-- What is left, when a line is in hand from f on, and the text was gone through up to k. -/
def LeftI (s : Bs) (pre : List (Nat × Bs)) (f k : Nat) : Prop := numS 1 (segs s) = pre ++ numS (pre.length + 1) (sgo ((s.drop f).take (k - f)) (s.drop k))
theorem left_start (s : Bs) : LeftI s [] 0 0 := by unfold LeftI segs; simp
theorem left_byte {s : Bs} {pre : List (Nat × Bs)} {f k w : Nat} (h : LeftI s pre f k) (hf : f ≤ k) (hno : ∀ c ∈ (s.drop k).take w, isLF c = false) : LeftI s pre f (k + w) := by
  unfold LeftI at h ⊢
  rw [h]
  have hsp : s.drop k = (s.drop k).take w ++ s.drop (k + w) := by
    rw [← List.drop_drop]; exact (List.take_append_drop w _).symm
  congr 2
  conv => lhs; rw [hsp]
  rw [sgo_word (fun c hc e => by have := hno c hc; unfold isLF at this; rw [e] at this; exact absurd this (by decide))]
  congr 1
  rw [show k + w - f = (k - f) + w by omega, List.take_add, List.drop_drop, show f + (k - f) = k by omega]
theorem left_line {s : Bs} {pre : List (Nat × Bs)} {f k : Nat} (h : LeftI s pre f k) (hk : k < s.length) (he : isLF s[k] = true) :
    numS 1 (segs s) = pre ++ (pre.length + 1, (s.drop f).take (k - f)) :: numS (pre.length + 1 + 1) (sgo [] (s.drop (k + 1))) := by
  unfold LeftI at h
  rw [h, List.drop_eq_getElem_cons hk, sgo, if_pos (of_decide_eq_true he)]
  rfl
theorem left_next {s : Bs} {pre : List (Nat × Bs)} {x : Bs} {k : Nat} (h : numS 1 (segs s) = pre ++ (pre.length + 1, x) :: numS (pre.length + 1 + 1) (sgo [] (s.drop (k + 1)))) : LeftI s (pre ++ [(pre.length + 1, x)]) (k + 1) (k + 1) := by
  unfold LeftI
  rw [h, Nat.sub_self, List.take_zero, List.length_append, List.append_assoc]
  rfl
theorem left_last {s : Bs} {pre : List (Nat × Bs)} {f k : Nat} (h : LeftI s pre f k) (hk : s.length ≤ k) (hf : f < s.length) : numS 1 (segs s) = pre ++ [(pre.length + 1, s.drop f)] := by
  unfold LeftI at h
  have e : (s.drop f).take (k - f) = s.drop f := List.take_of_length_le (by rw [List.length_drop]; omega)
  rw [h, List.drop_eq_nil_of_le hk, e, sgo, fl_some (fun e => by have := congrArg List.length e; simp at this; omega)]
  rfl
theorem left_none {s : Bs} {pre : List (Nat × Bs)} {f k : Nat} (h : LeftI s pre f k) (hk : s.length ≤ k) (hf : s.length ≤ f) : numS 1 (segs s) = pre := by
  unfold LeftI at h
  rw [h, List.drop_eq_nil_of_le hk, List.drop_eq_nil_of_le hf, List.take_nil, sgo, fl_nil]
  simp [numS]
theorem segs_count (s : Bs) : (segs s).length ≤ s.length := by
  have : ∀ (s cur : Bs), (sgo cur s).length ≤ s.length + (if cur = [] then 0 else 1) := by
    intro s
    induction s with
    | nil => intro cur; rw [sgo]; unfold fl; split <;> simp
    | cons c r ih =>
      intro cur
      by_cases hc : c = 10
      · subst hc
        rw [sgo, if_pos rfl, List.length_cons, List.length_cons]
        have := ih []
        simp at this
        omega
      · rw [sgo, if_neg hc]
        have := ih (cur ++ [c])
        rw [if_neg (by simp)] at this
        rw [List.length_cons]
        omega
  have h := this s []
  simp at h
  exact h
theorem numS_length : ∀ (n : Nat) (l : List Bs), (numS n l).length = l.length
  | _, [] => rfl
  | n, x :: r => by rw [numS, List.length_cons, List.length_cons, numS_length]
theorem pre_count {s : Bs} {pre post : List (Nat × Bs)} (h : numS 1 (segs s) = pre ++ post) : pre.length + post.length ≤ s.length := by
  have := congrArg List.length h
  rw [numS_length, List.length_append] at this
  have := segs_count s
  omega

abbrev lnV (x : Nat × Bs) : Array Value := #[.int .i64 (x.1 : Int), .string (str x.2)]
/-- What is known of a line that comes: it is the next one. -/
def EnL (s : Bs) (pre : List (Nat × Bs)) (x : Nat × Bs) : Prop := x.1 = pre.length + 1 ∧ ∃ post, numS 1 (segs s) = pre ++ x :: post
def ItI (J : List (Nat × Bs) → BSet → World → Prop) (S : ByteArray) (bx it : Nat) (pre : List (Nat × Bs)) (k : Nat) (W : World) : Prop :=
  ∃ p, J pre p W ∧ ¬ p it ∧ ¬ p bx ∧ W.heap[it]? = some (.stringIter S k) ∧ Blk W bx 9 #[.string S]

theorem step_iter {B : Nat} {p : BSet} {w : World} {it : Nat} {S : ByteArray} {k : Nat} (n : Nat) (h0 : w.heap[it]? = some (.stringIter S k)) (hB : B ≤ it) (hp : ¬ p it) : IStep B p w (w.iterAt it S n) := by
  refine ⟨⟨rfl, rfl, rfl, by rw [Lib.iterAt_size]; exact Nat.le_refl _, fun j _ hn => Lib.iterAt_other _ _ _ _ _ (fun e => by subst e; exact hn ⟨hB, hp⟩)⟩, fun j o hj hc => ?_⟩
  by_cases e : j = it
  · subst e
    rw [Lib.iterAt_heap _ _ _ _ n h0] at hj
    cases hj; cases hc
  · rwa [Lib.iterAt_other _ _ _ _ _ e] at hj
theorem ne_bool {r : Nat} (h : asR isLF r = false) : ((r : Int) == 10) = false := by rw [← asR_lf]; exact h
theorem sl_rest {S : ByteArray} {s : Bs} {f : Nat} (hs : S.data.toList = s) : S.extract f S.size = str (s.drop f) := by
  rw [extract_of hs, size_of hs]
  congr 1
  exact List.take_of_length_le (by rw [List.length_drop]; exact Nat.le_refl _)

set_option maxRecDepth 100000 in
set_option maxHeartbeats 4000000 in
theorem lines_stops (m k bx : Nat) (hk : 1 ≤ k) (hmk : m = k - 1) (S : ByteArray) (s : Bs) (hs : Hid (S.data.toList = s)) (hl : S.size ≤ 140000) :
    StopsM Try.prog m k 23 #[.pointer (some ⟨bx, 0, none⟩)] lnV bx (.cells #[.string S] 9 (0, 0)) (EnL s) (fun xs => xs = numS 1 (segs s)) (fun pre => ∃ post, numS 1 (segs s) = pre ++ post) := by
  subst hmk
  intro L J Jx p0 W hJ hJx hY h0 hp0 hbx hpb
  have hsz := size_of hs.out
  have HEX := Lib.hid (extract_of hs.out)
  have HY := Lib.hid hY
  have HJ := Lib.hid hJ
  have c1 : W.cell? ⟨bx, 0, none⟩ = some (.string S) := (show Blk W bx 9 #[.string S] from hbx).cell 0
  have hI0 : ItI J S bx W.heap.size [] 0 (W.iter S 0) := ⟨p0, hJ _ _ _ _ h0 (IStep.alloc _ rfl), fun h => Nat.lt_irrefl _ (hp0 _ h), hpb, World.iter_heap W S 0, (show Blk W bx 9 #[.string S] from hbx).alloc _⟩
  clear hY hJ hJx h0 hp0 hbx hpb
  refine callsIn_of_wp Try.func23 rfl trivial ?_ rfl
  simp only [Try.ntmps23, List.size_toArray, List.length_cons, List.length_nil, Nat.reduceAdd, Nat.reduceSub, Array.replicate_succ, Array.replicate_zero, List.push_toArray, List.append_toArray, List.nil_append, List.cons_append]
  gi_wp2
  gi_loopw [3, 4, 5, 6] (fun vn vf _ _ wr => ∃ (pre : List (Nat × Bs)) (f k n : Nat), vn = .int .i64 (n : Int) ∧ n = pre.length + 1 ∧ vf = .int .i64 (f : Int) ∧ f ≤ k ∧ k ≤ s.length ∧ Hid (LeftI s pre f k) ∧ ItI J S bx W.heap.size pre k wr)
    (fun _ _ _ _ wr => S.size - wr.iterPos W.heap.size)
  case atStart => exact ⟨[], 0, 0, 1, rfl, rfl, rfl, Nat.le_refl _, Nat.zero_le _, left_start s, hI0⟩
  case round =>
    obtain ⟨pre, f, k, n, rfl, hn1, rfl, hfk, hks, hL, p, hJp, hpi, hpb, hit, hB⟩ := hrel
    by_cases hps : k < s.length
    · obtain ⟨r, w, hd, hw1, hw2, hcase⟩ := step_at low_lf hs.out hps
      have hnx : ∀ ty, (Instr.next (.pointer (some ⟨W.heap.size, 0, none⟩)) true ty).run Try.prog wr = _ := fun ty => Lib.run_next_any_at wr W.heap.size S k ty hit (by omega)
      rw [hd] at hnx
      dsimp only at hnx
      have hit2 := Lib.iterAt_heap wr W.heap.size S k (k + w) hit
      have hps1 : wr.iterPos W.heap.size = k := by unfold World.iterPos; rw [hit]
      rcases hcase with ⟨hp, rfl, hq, hr⟩ | ⟨hp, hall⟩
      · have hten : s[k] = 10 := of_decide_eq_true hq
        obtain rfl : r = 10 := by rw [hr, hten]; rfl
        have hn := left_line hL.out hps hq
        have hJ2 := HJ.out pre p _ _ hJp (step_iter (k + 1) hit (Nat.le_refl _) hpi)
        have hB2 : Blk (wr.iterAt W.heap.size S (k + 1)) bx 9 #[.string S] := (Lib.iterAt_other _ _ _ _ _ (fun e => by subst e; exact absurd (hB.symm.trans hit) (by simp))).trans hB
        have c2 : (wr.iterAt W.heap.size S (k + 1)).cell? ⟨bx, 0, none⟩ = some (.string S) := hB2.cell 0
        rw [← hn1] at hn
        have hY2 := HY.out pre (n, (s.drop f).take (k - f)) p _ hJ2 ⟨hn1, _, hn⟩
        have hx : S.extract f k = str ((s.drop f).take (k - f)) := HEX.out f k
        have HPo : Hid (∃ post, numS 1 (segs s) = (pre ++ [(n, (s.drop f).take (k - f))]) ++ post) := ⟨_, by rw [hn, List.append_assoc]; rfl⟩
        have hcnt : pre.length ≤ 140000 := by have := pre_count hn; omega
        have hn14 : n ≤ 140001 := by omega
        have HN := Lib.hid (left_next (hn1 ▸ hn))
        rw [← hn1] at HN
        have hle : (0 : Int) ≤ (f : Int) ∧ (f : Int) ≤ (k : Int) ∧ (k : Int) ≤ (S.size : Int) := ⟨by omega, by omega, by omega⟩
        have hk14 : k ≤ 140000 := by omega
        dsimp only [lnV] at hY2
        generalize str ((s.drop f).take (k - f)) = T at hx hY2
        generalize (s.drop f).take (k - f) = x at hY2 HN HPo
        clear hp hq hr hten hn hJp hJ2 hL hd hw1 HY
        generalize wr.iterAt W.heap.size S (k + 1) = W2 at *
        have HN1 := Lib.hid hn1
        have HPost := HPo
        clear hn1
        obtain ⟨fn, tmps, assign, body, hy, hR⟩ := hY2
        gi_wp2
        refine hR.mono ?_
        rintro e W3 ⟨p', hrn, ⟨rfl, hJ3⟩ | ⟨rfl, hJx3⟩⟩
        · have hit3 := (hrn.same (Array.getElem?_eq_some_iff.1 hit2).1 hpi).trans hit2
          have hB3 : Blk W3 bx 9 #[.string S] := (hrn.same hB2.lt hpb).trans hB2
          have hpi3 := hrn.not (Array.getElem?_eq_some_iff.1 hit2).1 hpi
          have hpb3 := hrn.not hB2.lt hpb
          have hps3 : W3.iterPos W.heap.size = k + 1 := by unfold World.iterPos; rw [hit3]
          clear hit2 hB2 hrn hit hB hy hnx
          gi_wp2
          go_roundw
          case rel => exact ⟨_, k + 1, k + 1, n + 1, rfl, by rw [HN1.out]; simp, rfl, Nat.le_refl _, by omega, HN, p', hJ3, hpi3, hpb3, hit3, hB3⟩
          case measure => rw [hps1, hps3]; omega
        · gi_wp2
          refine bodyPost_ret (results_none rfl _ _ _) rfl ?_
          exact ⟨⟨_, rfl⟩, p', .inr ⟨_, HPost.out, hJx3⟩⟩
      · have HL := Lib.hid (left_byte hL.out hfk hall)
        have hne := ne_bool hp
        have hJ2 := HJ.out pre p _ _ hJp (step_iter (k + w) hit (Nat.le_refl _) hpi)
        have hB2 : Blk (wr.iterAt W.heap.size S (k + w)) bx 9 #[.string S] := (Lib.iterAt_other _ _ _ _ _ (fun e => by subst e; exact absurd (hB.symm.trans hit) (by simp))).trans hB
        have hps3 : (wr.iterAt W.heap.size S (k + w)).iterPos W.heap.size = k + w := by unfold World.iterPos; rw [hit2]
        clear hp hall hJp hL hd HY
        generalize wr.iterAt W.heap.size S (k + w) = W2 at *
        gi_wp2
        go_roundw
        case rel => exact ⟨pre, f, k + w, n, rfl, hn1, rfl, by omega, hw2, HL, p, hJ2, hpi, hpb, hit2, hB2⟩
        case measure => rw [hps1, hps3]; omega
    · have hnx : ∀ ty, (Instr.next (.pointer (some ⟨W.heap.size, 0, none⟩)) true ty).run Try.prog wr = _ := fun ty => Lib.run_next_end_at wr W.heap.size S k ty hit (by omega)
      have c2 : wr.cell? ⟨bx, 0, none⟩ = some (.string S) := hB.cell 0
      by_cases hf : f < s.length
      · have hn := left_last hL.out (by omega) hf
        rw [← hn1] at hn
        have hY2 := HY.out pre (n, s.drop f) p _ hJp ⟨hn1, [], hn⟩
        have hx : S.extract f S.size = str (s.drop f) := sl_rest hs.out
        have HN := Lib.hid hn
        have hcnt : pre.length ≤ 140000 := by have := pre_count hn; omega
        have hn14 : n ≤ 140001 := by omega
        have hfS : f < S.size := by omega
        have hle : (0 : Int) ≤ (f : Int) ∧ (f : Int) ≤ (S.size : Int) := ⟨by omega, by omega⟩
        dsimp only [lnV] at hY2
        generalize str (s.drop f) = T at hx hY2
        generalize s.drop f = x at hY2 HN
        clear hn hJp hL HY hn1 hsz
        obtain ⟨fn, tmps, assign, body, hy, hR⟩ := hY2
        gi_wp2
        refine hR.mono ?_
        rintro e W3 ⟨p', hrn, ⟨rfl, hJ3⟩ | ⟨rfl, hJx3⟩⟩
        · gi_wp2
          go_end0
          exact ⟨⟨_, rfl⟩, p', .inl ⟨_, rfl, by rw [HN.out]; exact hJ3⟩⟩
        · gi_wp2
          go_end0
          exact ⟨⟨_, rfl⟩, p', .inr ⟨_, ⟨[], by rw [HN.out]; simp⟩, hJx3⟩⟩
      · have HN := Lib.hid (left_none hL.out (by omega) (by omega))
        have hfS : ¬ f < S.size := by omega
        clear hL HY hsz
        gi_wp2
        go_end0
        exact ⟨⟨_, rfl⟩, p, .inl ⟨_, rfl, by rw [HN.out]; exact hJp⟩⟩

/-- What lines answers: an iterator over its text, in a box of its own. -/
theorem lines_any (S : ByteArray) (w : World) : Calls Try.prog 14 #[.string S] w fun e w' =>
    e = .returned (.func (.func 23) #[] #[.pointer (some ⟨w.heap.size, 0, none⟩)]) ∧ w' = w.alloc (.cells #[.string S] 9) := by
  go_enter Try.func14, Try.ntmps14
  go_wp2
  go_ret
  exact ⟨rfl, rfl⟩

end Go.Proofs.Ytifobiajjhknbaa.M

namespace Go.Proofs.Ytifobiajjhknbaa.M
open Go.RowKit W

/-- What has come: the words so far, and the one that is being read. -/
def WordI (s : Bs) (out : List Bs) (cur : Bs) (k : Nat) : Prop := wordsL s = out ++ wgo cur (s.drop k)
theorem wordI_end {s : Bs} {out : List Bs} {cur : Bs} {k : Nat} (h : WordI s out cur k) (hk : s.length ≤ k) : wordsL s = out ++ fl cur := by
  rw [h, List.drop_eq_nil_of_le hk, wgo]
theorem wordI_stop {s : Bs} {out : List Bs} {cur : Bs} {k : Nat} (h : WordI s out cur k) (hk : k < s.length) (he : endB s[k] = true) : wordsL s = out ++ fl cur := by
  rw [h, List.drop_eq_getElem_cons hk, wgo_end he]
theorem wordI_gap {s : Bs} {out : List Bs} {cur : Bs} {k : Nat} (h : WordI s out cur k) (hk : k < s.length) (he : endB s[k] = false) (hg : gapB s[k] = true) : WordI s (out ++ fl cur) [] (k + 1) := by
  unfold WordI at h ⊢
  rw [h, List.drop_eq_getElem_cons hk, wgo_gap he hg, List.append_assoc]
theorem wordI_byte {s : Bs} {out : List Bs} {cur : Bs} {k : Nat} (h : WordI s out cur k) (hk : k < s.length) (he : endB s[k] = false) (hg : gapB s[k] = false) : WordI s out (cur ++ [s[k]]) (k + 1) := by
  unfold WordI at h ⊢
  rw [h, List.drop_eq_getElem_cons hk, wgo_byte he hg]
theorem one_byte {s : Bs} {k : Nat} (hk : k < s.length) : (s.drop k).take (k + 1 - k) = [s[k]] := by
  rw [show k + 1 - k = 1 by omega, List.drop_eq_getElem_cons hk]
  rfl
theorem end_ways {c : UInt8} (h : endB c = true) : ((c.toNat : Int) == 10) = true ∨ (((c.toNat : Int) == 10) = false ∧ ((c.toNat : Int) == 59) = true) := by
  unfold endB at h
  rw [decide_eq_true_iff] at h
  rcases h with rfl | rfl
  · exact .inl rfl
  · exact .inr ⟨rfl, rfl⟩
theorem end_no {c : UInt8} (h : endB c = false) : ((c.toNat : Int) == 10) = false ∧ ((c.toNat : Int) == 59) = false := by
  unfold endB at h
  rw [decide_eq_false_iff_not] at h
  constructor
  · rw [beq_eq_false_iff_ne]; intro e; exact h (.inl (UInt8.toNat_inj.1 (by have : ((c.toNat : Nat) : Int) = ((10 : UInt8).toNat : Int) := e; omega)))
  · rw [beq_eq_false_iff_ne]; intro e; exact h (.inr (UInt8.toNat_inj.1 (by have : ((c.toNat : Nat) : Int) = ((59 : UInt8).toNat : Int) := e; omega)))
theorem gap_ways {c : UInt8} (h : gapB c = true) : ((c.toNat : Int) != 32) = false ∨ (((c.toNat : Int) != 32) = true ∧ ((c.toNat : Int) != 9) = false) := by
  unfold gapB at h
  rw [decide_eq_true_iff] at h
  rcases h with rfl | rfl
  · exact .inl rfl
  · exact .inr ⟨rfl, rfl⟩
theorem gap_no {c : UInt8} (h : gapB c = false) : ((c.toNat : Int) != 32) = true ∧ ((c.toNat : Int) != 9) = true := by
  unfold gapB at h
  rw [decide_eq_false_iff_not] at h
  constructor
  · rw [bne_iff_ne]; intro e; exact h (.inl (UInt8.toNat_inj.1 (by have : ((c.toNat : Nat) : Int) = ((32 : UInt8).toNat : Int) := e; omega)))
  · rw [bne_iff_ne]; intro e; exact h (.inr (UInt8.toNat_inj.1 (by have : ((c.toNat : Nat) : Int) = ((9 : UInt8).toNat : Int) := e; omega)))

/-- A list of words, of memory that is new. -/
def WordsR (l : List Bs) (w : World) (e : Ending) (w' : World) : Prop :=
  ∃ A c, e = .returned (.slice A l.length c) ∧ Own w' 9 1 (Fresh w) (.slice A l.length c) l.length (sv l) ∧ Keep NoB w w'

theorem wordsR_mk {l out : List Bs} {n : Nat} {A : Option Addr} {c : Nat} {w w' : World} (h : l = out) (hn : out.length = n) (hO : Own w' 9 1 (Fresh w) (.slice A n c) n (sv out)) (hk : Keep NoB w w') : WordsR l w (.returned (.slice A n c)) w' := by
  subst h hn
  exact ⟨A, c, rfl, hO, hk⟩

set_option maxRecDepth 100000 in
set_option maxHeartbeats 4000000 in
theorem rwords_any (S : ByteArray) (s : Bs) (w : World) (hs : Hid (S.data.toList = s)) (hl : S.size ≤ 200000) :
    Calls Try.prog 6 #[.string S] w (WordsR (wordsL s) w) := by
  have HSZ : Hid (S.size = s.length) := Lib.hid (size_of hs.out)
  have HEX := Lib.hid (extract_of hs.out)
  obtain ⟨i0, hi, hz0, hz1, hz2⟩ := info_parts string_info
  go_enter Try.func6, Try.ntmps6
  go_wp2
  go_loopw [3, 4, 5] (fun o f i wr => ∃ (out : List Bs) (cur : Bs) (k : Nat), k ≤ S.size ∧ f = .string (str cur) ∧ i = .int .i64 (k : Int) ∧ Hid (WordI s out cur k) ∧ out.length ≤ k ∧ cur.length ≤ k ∧ (∃ B d, o = .slice B out.length d ∧ Own wr 9 1 (Fresh w) (.slice B out.length d) out.length (sv out)) ∧ Keep NoB w wr)
    (fun _ _ i _ => S.size - (intOf i).toNat)
  case atStart => exact ⟨[], [], 0, Nat.zero_le _, rfl, rfl, rfl, Nat.le_refl _, Nat.le_refl _, ⟨_, _, rfl, Own.nil _ _ _ _⟩, Keep.refl _ _⟩
  case round =>
    obtain ⟨out, cur, k, hk, rfl, rfl, hW, hol, hcl, ⟨B, d, rfl, hO⟩, hK⟩ := hrel
    by_cases hlt : k < S.size
    · have hks : k < s.length := by rw [← HSZ.out]; exact hlt
      have hbt := byte_at hs.out k hlt hks
      cases he : endB s[k] with
      | true =>
        have hfin := wordI_stop hW.out hks he
        have HE : Hid (((S[k].toNat : Int) == 10) = true ∨ (((S[k].toNat : Int) == 10) = false ∧ ((S[k].toNat : Int) == 59) = true)) := by rw [hbt]; exact end_ways he
        clear hbt he hks
        rcases HE.out with h10 | ⟨h10, h59⟩
        · clear HE
          by_cases h0 : cur = []
          · have HQ : cur.isEmpty = true := by rw [h0]; rfl
            have hf2 : Hid (wordsL s = out) := by show _ = _; rw [hfin, h0, fl_nil, List.append_nil]
            clear hfin h0 hW
            go_wp2
            go_ret
            exact wordsR_mk hf2.out rfl hO hK
          · have HQ : cur.isEmpty = false := by simpa using h0
            have hf2 : Hid (wordsL s = out ++ [cur]) := by show _ = _; rw [hfin, fl_some h0]
            have HZ : Hid (sv (out ++ [cur]) = sv out ++ [.string (str cur)]) := by show _ = _; simp
            have HLn : Hid ((out ++ [cur]).length = out.length + 1) := by show _ = _; simp
            clear hfin h0 hW
            generalize out ++ [cur] = out2 at HZ HLn hf2
            go_wp2_with (at_builtin; refine wpList_append_rd _ rfl (.tmp 43) (.tmp 45) _ rfl 9 1 16 i0 _ Try.underlying23 hi hz0 hz1 hz2 rfl (by decide) _ out.length _ _ 1 _ [.string (str cur)] rfl (hO.1.alloc _) rfl rd_one rfl (by simp [Value.oneCell']) (by unfold maxLen; omega) (by omega) ?_; intro B2 d2 w3 hrow3 hg3 hv3; rw [← HZ.out] at hrow3; obtain ⟨hO3, hK3⟩ := own_after hO.2 (hK.alloc _) hg3 hv3 hrow3; clear hrow3 hg3 hv3)
            go_ret
            exact wordsR_mk hf2.out HLn.out hO3 hK3
        · clear HE
          by_cases h0 : cur = []
          · have HQ : cur.isEmpty = true := by rw [h0]; rfl
            have hf2 : Hid (wordsL s = out) := by show _ = _; rw [hfin, h0, fl_nil, List.append_nil]
            clear hfin h0 hW
            go_wp2
            go_ret
            exact wordsR_mk hf2.out rfl hO hK
          · have HQ : cur.isEmpty = false := by simpa using h0
            have hf2 : Hid (wordsL s = out ++ [cur]) := by show _ = _; rw [hfin, fl_some h0]
            have HZ : Hid (sv (out ++ [cur]) = sv out ++ [.string (str cur)]) := by show _ = _; simp
            have HLn : Hid ((out ++ [cur]).length = out.length + 1) := by show _ = _; simp
            clear hfin h0 hW
            generalize out ++ [cur] = out2 at HZ HLn hf2
            go_wp2_with (at_builtin; refine wpList_append_rd _ rfl (.tmp 43) (.tmp 45) _ rfl 9 1 16 i0 _ Try.underlying23 hi hz0 hz1 hz2 rfl (by decide) _ out.length _ _ 1 _ [.string (str cur)] rfl (hO.1.alloc _) rfl rd_one rfl (by simp [Value.oneCell']) (by unfold maxLen; omega) (by omega) ?_; intro B2 d2 w3 hrow3 hg3 hv3; rw [← HZ.out] at hrow3; obtain ⟨hO3, hK3⟩ := own_after hO.2 (hK.alloc _) hg3 hv3 hrow3; clear hrow3 hg3 hv3)
            go_ret
            exact wordsR_mk hf2.out HLn.out hO3 hK3
      | false =>
        obtain ⟨h10, h59⟩ := end_no he
        rw [← hbt] at h10 h59
        cases hg : gapB s[k] with
        | true =>
          have HW2 : Hid (WordI s (out ++ fl cur) [] (k + 1)) := wordI_gap hW.out hks he hg
          have HG : Hid (((S[k].toNat : Int) != 32) = false ∨ (((S[k].toNat : Int) != 32) = true ∧ ((S[k].toNat : Int) != 9) = false)) := by rw [hbt]; exact gap_ways hg
          clear hbt he hg hks hW
          by_cases h0 : cur = []
          · have HQ : cur.isEmpty = true := by rw [h0]; rfl
            rw [h0, fl_nil, List.append_nil] at HW2
            rcases HG.out with h32 | ⟨h32, h9⟩
            · clear HG h0
              go_wp2
              go_roundw
              case rel => exact ⟨out, [], k + 1, by omega, rfl, by go_num, HW2, by omega, by simp, ⟨B, d, rfl, hO⟩, hK⟩
              case measure => simp [intOf]; omega
            · clear HG h0
              go_wp2
              go_roundw
              case rel => exact ⟨out, [], k + 1, by omega, rfl, by go_num, HW2, by omega, by simp, ⟨B, d, rfl, hO⟩, hK⟩
              case measure => simp [intOf]; omega
          · have HQ : cur.isEmpty = false := by simpa using h0
            rw [fl_some h0] at HW2
            have HZ : Hid (sv (out ++ [cur]) = sv out ++ [.string (str cur)]) := by show _ = _; simp
            have HLn : Hid ((out ++ [cur]).length = out.length + 1) := by show _ = _; simp
            generalize out ++ [cur] = out2 at HZ HLn HW2
            rcases HG.out with h32 | ⟨h32, h9⟩
            · clear HG h0
              go_wp2_with (at_builtin; refine wpList_append_rd _ rfl (.tmp 37) (.tmp 39) _ rfl 9 1 16 i0 _ Try.underlying23 hi hz0 hz1 hz2 rfl (by decide) _ out.length _ _ 1 _ [.string (str cur)] rfl (hO.1.alloc _) rfl rd_one rfl (by simp [Value.oneCell']) (by unfold maxLen; omega) (by omega) ?_; intro B2 d2 w3 hrow3 hg3 hv3; rw [← HZ.out] at hrow3; obtain ⟨hO3, hK3⟩ := own_after hO.2 (hK.alloc _) hg3 hv3 hrow3; clear hrow3 hg3 hv3)
              go_roundw
              case rel => exact ⟨out2, [], k + 1, by omega, rfl, by go_num, HW2, by rw [HLn.out]; omega, by simp, ⟨B2, d2, by rw [HLn.out], by rw [HLn.out]; exact hO3⟩, hK3⟩
              case measure => simp [intOf]; omega
            · clear HG h0
              go_wp2_with (at_builtin; refine wpList_append_rd _ rfl (.tmp 37) (.tmp 39) _ rfl 9 1 16 i0 _ Try.underlying23 hi hz0 hz1 hz2 rfl (by decide) _ out.length _ _ 1 _ [.string (str cur)] rfl (hO.1.alloc _) rfl rd_one rfl (by simp [Value.oneCell']) (by unfold maxLen; omega) (by omega) ?_; intro B2 d2 w3 hrow3 hg3 hv3; rw [← HZ.out] at hrow3; obtain ⟨hO3, hK3⟩ := own_after hO.2 (hK.alloc _) hg3 hv3 hrow3; clear hrow3 hg3 hv3)
              go_roundw
              case rel => exact ⟨out2, [], k + 1, by omega, rfl, by go_num, HW2, by rw [HLn.out]; omega, by simp, ⟨B2, d2, by rw [HLn.out], by rw [HLn.out]; exact hO3⟩, hK3⟩
              case measure => simp [intOf]; omega
        | false =>
          obtain ⟨h32, h9⟩ := gap_no hg
          rw [← hbt] at h32 h9
          have HW2 : Hid (WordI s out (cur ++ [s[k]]) (k + 1)) := wordI_byte hW.out hks he hg
          have HB : Hid (str cur ++ S.extract k (k + 1) = str (cur ++ [s[k]])) := by show _ = _; rw [HEX.out, one_byte hks, str_add]
          have hcl2 : (cur ++ [s[k]]).length ≤ k + 1 := by simp; omega
          generalize cur ++ [s[k]] = cur2 at HW2 HB hcl2
          clear hbt he hg hks hW
          go_wp2
          go_roundw
          case rel => exact ⟨out, cur2, k + 1, by omega, by rw [← HB.out], by go_num, HW2, by omega, hcl2, ⟨B, d, rfl, hO⟩, hK⟩
          case measure => simp [intOf]; omega
    · have hfin := wordI_end hW.out (by rw [← HSZ.out]; omega)
      by_cases h0 : cur = []
      · have HQ : cur.isEmpty = true := by rw [h0]; rfl
        have hf2 : Hid (wordsL s = out) := by show _ = _; rw [hfin, h0, fl_nil, List.append_nil]
        clear hfin h0 hW
        go_wp2
        go_ret
        exact wordsR_mk hf2.out rfl hO hK
      · have HQ : cur.isEmpty = false := by simpa using h0
        have hf2 : Hid (wordsL s = out ++ [cur]) := by show _ = _; rw [hfin, fl_some h0]
        have HZ : Hid (sv (out ++ [cur]) = sv out ++ [.string (str cur)]) := by show _ = _; simp
        have HLn : Hid ((out ++ [cur]).length = out.length + 1) := by show _ = _; simp
        clear hfin h0 hW
        generalize out ++ [cur] = out2 at HZ HLn hf2
        go_wp2_with (at_builtin; refine wpList_append_rd _ rfl (.tmp 43) (.tmp 45) _ rfl 9 1 16 i0 _ Try.underlying23 hi hz0 hz1 hz2 rfl (by decide) _ out.length _ _ 1 _ [.string (str cur)] rfl (hO.1.alloc _) rfl rd_one rfl (by simp [Value.oneCell']) (by unfold maxLen; omega) (by omega) ?_; intro B2 d2 w3 hrow3 hg3 hv3; rw [← HZ.out] at hrow3; obtain ⟨hO3, hK3⟩ := own_after hO.2 (hK.alloc _) hg3 hv3 hrow3; clear hrow3 hg3 hv3)
        go_ret
        exact wordsR_mk hf2.out HLn.out hO3 hK3

end Go.Proofs.Ytifobiajjhknbaa.M

namespace Go.Proofs.Ytifobiajjhknbaa.M
open Go.RowKit Go.Shelf Go.Lib W

theorem asR_end (r : Nat) : asR endB r = (((r : Int) == 10) || ((r : Int) == 59)) := by
  unfold asR endB
  rw [Bool.eq_iff_iff, Bool.and_eq_true, decide_eq_true_iff, decide_eq_true_iff, Bool.or_eq_true, beq_iff_eq, beq_iff_eq]
  constructor
  · rintro ⟨h, h1 | h1⟩
    · left; have := congrArg UInt8.toNat h1; simp at this; omega
    · right; have := congrArg UInt8.toNat h1; simp at this; omega
  · rintro (h | h)
    · obtain rfl : r = 10 := by omega
      exact ⟨by omega, .inl rfl⟩
    · obtain rfl : r = 59 := by omega
      exact ⟨by omega, .inr rfl⟩
theorem asR_gap (r : Nat) : asR gapB r = (((r : Int) == 32) || ((r : Int) == 9)) := by
  unfold asR gapB
  rw [Bool.eq_iff_iff, Bool.and_eq_true, decide_eq_true_iff, decide_eq_true_iff, Bool.or_eq_true, beq_iff_eq, beq_iff_eq]
  constructor
  · rintro ⟨h, h1 | h1⟩
    · left; have := congrArg UInt8.toNat h1; simp at this; omega
    · right; have := congrArg UInt8.toNat h1; simp at this; omega
  · rintro (h | h)
    · obtain rfl : r = 32 := by omega
      exact ⟨by omega, .inl rfl⟩
    · obtain rfl : r = 9 := by omega
      exact ⟨by omega, .inr rfl⟩
theorem ends_pays (w : World) : PredAt Try.prog 10 #[] encR (asR endB) w := fun W r _ => by
  unfold FnGives
  rw [asR_end]
  cases h1 : (r : Int) == 10 <;> cases h2 : (r : Int) == 59
  all_goals
    go_enter Try.func10, Try.ntmps10
    go_wp2
    go_ret
    exact ⟨rfl, 0, rfl⟩
theorem parts_pays (w : World) : PredAt Try.prog 13 #[] encR (asR gapB) w := fun W r _ => by
  unfold FnGives
  rw [asR_gap]
  cases h1 : (r : Int) == 32 <;> cases h2 : (r : Int) == 9
  all_goals
    go_enter Try.func13, Try.ntmps13
    go_wp2
    go_ret
    exact ⟨rfl, 0, rfl⟩
theorem indexFunc_any (S : ByteArray) (w : World) : Calls Try.prog 9 #[.string S, .func (.func 10) #[] #[]] w fun e w' => e = .returned (.int .i64 (idxFunc (asR endB) true S)) ∧ Keep NoB w w' := by
  have H := Try.strings_indexFunc 10 #[] (enters_of Try.func10 (by kernel_rfl) rfl) (asR endB) true S w (ends_pays w)
  go_enter Try.func9, Try.ntmps9
  go_wp2_with fail
  refine H.mono ?_
  rintro e w1 ⟨rfl, hb⟩
  go_wp2
  go_ret
  exact ⟨rfl, Keep.of_below hb⟩
theorem clone_any (S : ByteArray) (w : World) (hl : S.size ≤ 140000) : Calls Try.prog 12 #[.string S] w fun e w' => e = .returned (.string S) ∧ Keep NoB w w' := by
  have H := Try.stringslite_Clone S w (by omega)
  go_enter Try.func12, Try.ntmps12
  go_wp2_with fail
  refine H.mono ?_
  rintro e w1 ⟨rfl, hb⟩
  go_wp2
  go_ret
  exact ⟨rfl, Keep.of_below hb⟩
theorem fieldsFunc_any (S : ByteArray) (s : Bs) (w : World) (hs : S.data.toList = s) (hno : ∀ c ∈ s, endB c = false) (hl : S.size ≤ 140000) :
    Calls Try.prog 11 #[.string S, .func (.func 13) #[] #[]] w (WordsR (wordsL s) w) := by
  have H := Try.strings_FieldsFunc 13 #[] (enters_of Try.func13 (by kernel_rfl) rfl) (asR gapB) S w (by omega) (parts_pays w)
  rw [fields_words hs hno, List.length_map, List.map_map] at H
  refine H.mono ?_
  rintro e w' ⟨A, rfl, hA, ho, hb⟩
  exact ⟨_, _, rfl, Own.of_row ho (fun k hk => hk), Keep.of_below hb⟩

set_option maxRecDepth 100000 in
set_option maxHeartbeats 2000000 in
theorem words_any (S : ByteArray) (s : Bs) (w : World) (hs : Hid (S.data.toList = s)) (hl : S.size ≤ 140000) :
    Calls Try.prog 5 #[.string S] w (WordsR (wordsL s) w) := by
  have H1 := Lib.hid (indexFunc_any S w)
  have hsz := size_of hs.out
  rcases idx_cut low_end hs.out with ⟨h1, h2⟩ | ⟨i, h1, h2, h3⟩
  · rw [h1] at H1
    have hno : ∀ c ∈ s, endB c = false := by rw [← h2]; exact cut_all endB s
    have H2 := Lib.hid (fun W => clone_any S W hl)
    have H3 := Lib.hid (fun W => fieldsFunc_any S s W hs.out hno hl)
    clear h1 h2 hno
    go_enter Try.func5, Try.ntmps5
    go_wp2_with fail
    refine H1.out.mono ?_
    rintro e w1 ⟨rfl, k1⟩
    go_wp2_with fail
    refine (H2.out _).mono ?_
    rintro e w2 ⟨rfl, k2⟩
    go_wp2_with fail
    refine (H3.out _).mono ?_
    rintro e w3 ⟨A, c, rfl, ho, k3⟩
    go_wp2
    go_ret
    exact ⟨A, c, rfl, ho.mono (fun k hk _ => Nat.le_trans (keepN k1 k2).size hk), keepN (keepN k1 k2) k3⟩
  · rw [h1] at H1
    have hx : S.extract 0 i = str (cutQ endB s) := by rw [extract_of hs.out, h3]; simp
    have hno : ∀ c ∈ cutQ endB s, endB c = false := cut_all endB s
    have hc : (str (cutQ endB s)).data.toList = cutQ endB s := by simp
    have hcl : (str (cutQ endB s)).size ≤ 140000 := by rw [size_of hc, h3, List.length_take]; omega
    have H2 := Lib.hid (fun W => clone_any _ W hcl)
    have H3 := Lib.hid (fun W => fieldsFunc_any _ _ W hc hno hcl)
    rw [words_cut] at H3
    have hi : i < S.size := by omega
    clear h1 h2 hno h3 hc hcl
    generalize str (cutQ endB s) = T at *
    have hb : (0 : Int) ≤ (i : Int) := by omega
    go_enter Try.func5, Try.ntmps5
    go_wp2_with fail
    refine H1.out.mono ?_
    rintro e w1 ⟨rfl, k1⟩
    go_wp2_with fail
    refine (H2.out _).mono ?_
    rintro e w2 ⟨rfl, k2⟩
    go_wp2_with fail
    refine (H3.out _).mono ?_
    rintro e w3 ⟨A, c, rfl, ho, k3⟩
    go_wp2
    go_ret
    exact ⟨A, c, rfl, ho.mono (fun k hk _ => Nat.le_trans (keepN k1 k2).size hk), keepN (keepN k1 k2) k3⟩

end Go.Proofs.Ytifobiajjhknbaa.M

namespace Go.Proofs.Ytifobiajjhknbaa.M
open Go.RowKit W

theorem bldAt_keep {T e : TypeId} {B b : Nat} {p : Value} {bs : List Value} {w w' : World} (h : Lib.BuilderAtF T e B b p bs w) (hk : Keep NoB w w') : Lib.BuilderAtF T e B b p bs w' := by
  obtain ⟨h1, v, h2, ⟨h3, h4⟩, h5⟩ := h
  have hb := hk.block b (Array.getElem?_eq_some_iff.1 h2).1 id
  refine ⟨h1, v, hb.trans h2, ⟨h3, ?_⟩, h5⟩
  rcases h4 with h4 | ⟨g, cap, cur, fz, e1, e2, e3, e4⟩
  · exact .inl h4
  · exact .inr ⟨g, cap, cur, fz, e1, e2, (hk.block g (Array.getElem?_eq_some_iff.1 e3).1 id).trans e3, e4⟩
theorem bld_keep {T e : TypeId} {B b : Nat} {bs : List Value} {w w' : World} (h : Lib.IsBuilderF T e B b bs w) (hk : Keep NoB w w') : Lib.IsBuilderF T e B b bs w' :=
  h.elim (fun h => .inl (bldAt_keep h hk)) (fun h => .inr (bldAt_keep h hk))
theorem str_cells (l : Bs) : Lib.strCells (str l) = Lib.byteCells l := by rw [Lib.strCells_eq]
/-- The builder of this call: its block, and all that was there when it was made. -/
abbrev Bld (b : Nat) (s : Bs) (w : World) : Prop := Lib.IsBuilderF 33 5 b b (Lib.byteCells s) w
theorem bld_new (w : World) : Bld w.heap.size [] (w.alloc (.cells #[.pointer none, .slice none 0 0] 33)) := Lib.IsBuilderF.of (Lib.fresh_isBuilder 33 5 w)
/-- More is written. -/
theorem write_any (b : Nat) (s t : Bs) (S : ByteArray) (w : World) (h : Bld b s w) (hS : S = str t) (hl : s.length + t.length ≤ 140737488355328) (hb : b ≤ w.heap.size) :
    Calls Try.prog 15 #[.pointer (some ⟨b, 0, none⟩), .string S] w fun e w' => (∃ u v, e = .returned (.tuple #[u, v])) ∧ Bld b (s ++ t) w' ∧ Below b w w' ∧ Lib.OthersKept 5 (some b) w w' := by
  subst hS
  have hsz : (str t).size = t.length := size_of (by simp)
  refine (Try.Builder_WriteString_k b b (Lib.byteCells s) (str t) w h (by rw [Lib.byteCells_length, hsz]; exact hl) hb).mono ?_
  rintro e w' ⟨rfl, h1, h2, h3⟩
  rw [str_cells, ← Lib.byteCells_append] at h1
  exact ⟨⟨_, _, rfl⟩, .inr h1, h2, h3⟩
theorem string_any (b : Nat) (s : Bs) (w : World) (h : Bld b s w) (hb : b ≤ w.heap.size) :
    Calls Try.prog 18 #[.pointer (some ⟨b, 0, none⟩)] w fun e w' => e = .returned (.string (str s)) ∧ Bld b s w' ∧ Below b w w' ∧ Lib.OthersKept 5 (some b) w w' :=
  (Try.Builder_String_any_k b b s w h hb).mono (by rintro e w' ⟨rfl, h1, h2, h3⟩; exact ⟨rfl, h1, h2, h3⟩)
end Go.Proofs.Ytifobiajjhknbaa.M
