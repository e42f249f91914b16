/-
  The plain mathematics of a text that is gone through rune by rune, where only bytes below 128 are looked for: what the library's IndexFunc and FieldsFunc answer, in bytes. No program, no conditions.
  A range over a function whose body owns blocks that change (p: which ones), maps among them, and that may be left ahead of its end. No program. The iterator changes only blocks that it made itself; the body only what is its own, or new.
  The program's lines, as they are ranged over: each line of a text with its number, one after another; or until the body has had enough. Conditions: the text lies in the box that the iterator reads; the body changes only what is its own.
  What the document's words and joined answer: a line's words; words, parted by one blank. Conditions: the text is not too long; the words lie in memory.
  What Words of layer asm answers: a line's words, in new memory. Condition: the line is not too long.
  What joined and Normal of layer asm answer: words parted by one blank; a text's normal one. Conditions: the words lie in memory; the text is not too long.
  The library's calls that AsmPlain makes for a line with a label: a number's text, the words of an instruction's text, words put together. No conditions but theirs.
  The plain mathematics of layer asm's reader: what it notes of lines, step by step, and that this says what the lines say. No program, no conditions.
  The plain mathematics of the reader's lines: which try reads a line; what was read of those so far. No program, no conditions.
  The plain mathematics of what the reader notes: where it says that it stands, it stands; numbers are no greater than lines were. No program, no conditions.
-/
import Derived.Laws.RangeAny
import Derived.Laws.RangeString
import Derived.Lib.DecodeN
import Derived.Lib.OthersKept
import Derived.Shelf.GgClosure.StringsIndexFunc
import Derived.Shelf.Strings.FieldsFuncAny
import Derived.Test.YtifobiajjhknbaaGreatDoorQ5
import Derived.Test.YtifobiajjhknbaaGreatDoorQ4
import Derived.Test.YtifobiajjhknbaaGreatDoorShelf
import Derived.Test.YtifobiajjhknbaaGreatDoorQ8
import Derived.Test.YtifobiajjhknbaaGreatDoorQ6
namespace Go.Proofs.YtifobiajjhknbaaGreatDoor.M
open Go.RowKit Go.Lib

theorem decN_high (n b0 b1 b2 b3 : Nat) (h0 : 128 ≤ b0) (hn : 1 ≤ n) :
    128 ≤ (decodeN n b0 b1 b2 b3).1 ∧ 1 ≤ (decodeN n b0 b1 b2 b3).2 ∧ (decodeN n b0 b1 b2 b3).2 ≤ n ∧ (decodeN n b0 b1 b2 b3).2 ≤ 4 ∧ (2 ≤ (decodeN n b0 b1 b2 b3).2 → 128 ≤ b1) ∧ (3 ≤ (decodeN n b0 b1 b2 b3).2 → 128 ≤ b2) ∧ (4 ≤ (decodeN n b0 b1 b2 b3).2 → 128 ≤ b3) := by
  unfold decodeN
  repeat' split
  all_goals (simp only; omega)
theorem get_byte {S : ByteArray} {s : Bs} (hs : S.data.toList = s) {k : Nat} (hk : k < s.length) : S.get! k = s[k] := by
  subst hs
  have h : k < S.size := by simpa using hk
  simp [ByteArray.get!, getElem!_pos, h]
/-- What is looked for: a byte below 128 of some kind; as a question about runes. -/
def asR (q : UInt8 → Bool) (r : Nat) : Bool := decide (r < 128) && q r.toUInt8
def lowQ (q : UInt8 → Bool) : Prop := ∀ c : UInt8, 128 ≤ c.toNat → q c = false
theorem toU8 (c : UInt8) : c.toNat.toUInt8 = c := by simp
theorem step_at {q : UInt8 → Bool} (hq : lowQ q) {S : ByteArray} {s : Bs} (hs : S.data.toList = s) {k : Nat} (hk : k < s.length) :
    ∃ r w, Utf8.decode S k = (r, w) ∧ 1 ≤ w ∧ k + w ≤ s.length ∧ ((asR q r = true ∧ w = 1 ∧ q s[k] = true ∧ r = s[k].toNat) ∨ (asR q r = false ∧ ∀ c ∈ (s.drop k).take w, q c = false)) := by
  have hsz : S.size = s.length := W.size_of hs
  have g0 := get_byte hs hk
  by_cases h : s[k].toNat < 128
  · refine ⟨s[k].toNat, 1, ?_, Nat.le_refl _, by omega, ?_⟩
    · rw [decode_at, g0]
      unfold decodeN
      rw [if_pos h]
    · have e : asR q s[k].toNat = q s[k] := by unfold asR; rw [toU8, decide_eq_true h]; rfl
      cases hqk : q s[k] with
      | true => exact .inl ⟨by rw [e, hqk], rfl, rfl, rfl⟩
      | false =>
        refine .inr ⟨by rw [e, hqk], fun c hc => ?_⟩
        rw [List.drop_eq_getElem_cons hk] at hc
        rw [List.take_succ_cons, List.take_zero, List.mem_singleton] at hc
        rw [hc]; exact hqk
  · obtain ⟨h1, h2, h3, h4, h5, h6, h7⟩ := decN_high (S.size - k) (S.get! k).toNat (S.get! (k + 1)).toNat (S.get! (k + 2)).toNat (S.get! (k + 3)).toNat (by rw [g0]; omega) (by omega)
    rw [← decode_at] at h1 h2 h3 h4 h5 h6 h7
    obtain ⟨r, w, e⟩ : ∃ r w, Utf8.decode S k = (r, w) := ⟨_, _, rfl⟩
    rw [e] at h1 h2 h3 h4 h5 h6 h7
    dsimp only at h1 h2 h3 h4 h5 h6 h7
    refine ⟨r, w, e, h2, by omega, .inr ⟨by unfold asR; rw [decide_eq_false (by omega)]; rfl, fun c hc => ?_⟩⟩
    obtain ⟨j, hj, rfl⟩ := List.mem_iff_getElem.1 hc
    simp at hj
    rw [List.getElem_take, List.getElem_drop]
    apply hq
    have hj2 : j = 0 ∨ j = 1 ∨ j = 2 ∨ j = 3 := by omega
    rcases hj2 with rfl | rfl | rfl | rfl
    · exact by simpa using (by omega : 128 ≤ s[k].toNat)
    · have := h5 (by omega); rwa [get_byte hs (by omega)] at this
    · have := h6 (by omega); rwa [get_byte hs (by omega)] at this
    · have := h7 (by omega); rwa [get_byte hs (by omega)] at this

/-! ### Up to the first one -/

def cutQ (q : UInt8 → Bool) (s : Bs) : Bs := s.takeWhile fun c => !q c
theorem idx_from {q : UInt8 → Bool} (hq : lowQ q) {S : ByteArray} {s : Bs} (hs : S.data.toList = s) : ∀ (f k : Nat), k ≤ s.length → s.length - k ≤ f →
    (idxFuncFrom (asR q) true S f k = -1 ∧ cutQ q (s.drop k) = s.drop k) ∨ (∃ i : Nat, idxFuncFrom (asR q) true S f k = (i : Int) ∧ k ≤ i ∧ i < s.length ∧ cutQ q (s.drop k) = (s.drop k).take (i - k))
  | 0, k, h1, h2 => by
    have : k = s.length := by omega
    subst this
    exact .inl ⟨rfl, by rw [List.drop_length]; rfl⟩
  | f + 1, k, h1, h2 => by
    have hsz : S.size = s.length := W.size_of hs
    by_cases hk : k < s.length
    · obtain ⟨r, w, e, hw1, hw2, hcase⟩ := step_at hq hs hk
      unfold idxFuncFrom
      rw [if_pos (by omega), e]
      dsimp only
      rcases hcase with ⟨hp, _, hqk, _⟩ | ⟨hp, hall⟩
      · rw [if_pos hp]
        refine .inr ⟨k, rfl, Nat.le_refl _, hk, ?_⟩
        rw [Nat.sub_self, List.take_zero, List.drop_eq_getElem_cons hk]
        unfold cutQ
        rw [List.takeWhile_cons_of_neg (by rw [hqk]; decide)]
      · rw [if_neg (by rw [hp]; decide)]
        have hsp : s.drop k = (s.drop k).take w ++ s.drop (k + w) := by
          rw [← List.drop_drop]; exact (List.take_append_drop w _).symm
        have hcut : cutQ q (s.drop k) = (s.drop k).take w ++ cutQ q (s.drop (k + w)) := by
          conv => lhs; rw [hsp]
          unfold cutQ
          rw [List.takeWhile_append_of_pos (fun c hc => by rw [hall c hc]; rfl)]
        rcases idx_from hq hs f (k + w) hw2 (by omega) with ⟨h3, h4⟩ | ⟨i, h3, h4, h5, h6⟩
        · exact .inl ⟨h3, by rw [hcut, h4]; exact hsp.symm⟩
        · refine .inr ⟨i, h3, by omega, h5, ?_⟩
          rw [hcut, h6, show i - k = w + (i - (k + w)) by omega, List.take_add, List.drop_drop]
    · have : k = s.length := by omega
      subst this
      rw [idxFuncFrom_end _ _ _ _ _ (by omega)]
      exact .inl ⟨rfl, by rw [List.drop_length]; rfl⟩
theorem idx_cut {q : UInt8 → Bool} (hq : lowQ q) {S : ByteArray} {s : Bs} (hs : S.data.toList = s) :
    (idxFunc (asR q) true S = -1 ∧ cutQ q s = s) ∨ (∃ i : Nat, idxFunc (asR q) true S = (i : Int) ∧ i < s.length ∧ cutQ q s = s.take i) := by
  have hsz : S.size = s.length := W.size_of hs
  unfold idxFunc
  rcases idx_from hq hs S.size 0 (Nat.zero_le _) (by omega) with ⟨h1, h2⟩ | ⟨i, h1, _, h3, h4⟩
  · exact .inl ⟨h1, by simpa using h2⟩
  · exact .inr ⟨i, h1, h3, by simpa using h4⟩

/-! ### Fields -/

theorem low_end : lowQ endB := by
  intro c h
  unfold endB
  rw [decide_eq_false_iff_not]
  rintro (rfl | rfl) <;> exact absurd h (by decide)
theorem low_gap : lowQ gapB := by
  intro c h
  unfold gapB
  rw [decide_eq_false_iff_not]
  rintro (rfl | rfl) <;> exact absurd h (by decide)
theorem wgo_cut : ∀ (s cur : Bs), wgo cur (cutQ endB s) = wgo cur s
  | [], cur => rfl
  | c :: r, cur => by
    unfold cutQ
    cases he : endB c with
    | true => rw [List.takeWhile_cons_of_neg (by rw [he]; decide), wgo_end he]; rfl
    | false =>
      rw [List.takeWhile_cons_of_pos (by rw [he]; decide)]
      cases hg : gapB c with
      | true => rw [wgo_gap he hg, wgo_gap he hg]; rw [show r.takeWhile (fun c => !endB c) = cutQ endB r from rfl, wgo_cut r []]
      | false => rw [wgo_byte he hg, wgo_byte he hg]; exact wgo_cut r _
theorem words_cut (s : Bs) : wordsL (cutQ endB s) = wordsL s := wgo_cut s []
theorem cut_all (q : UInt8 → Bool) (s : Bs) : ∀ c ∈ cutQ q s, q c = false := by
  induction s with
  | nil => intro c hc; cases hc
  | cons x r ih =>
    intro c hc
    unfold cutQ at hc
    cases hq : q x with
    | true => rw [List.takeWhile_cons_of_neg (by rw [hq]; decide)] at hc; cases hc
    | false =>
      rw [List.takeWhile_cons_of_pos (by rw [hq]; decide)] at hc
      rcases List.mem_cons.1 hc with rfl | hc
      · exact hq
      · exact ih c hc

/-- What is in hand: from where a word began. -/
def curOf (s : Bs) (pos : Nat) : Option Nat → Bs
  | some a => (s.drop a).take (pos - a)
  | none => []
def okSt (pos : Nat) : Option Nat → Prop
  | some a => a < pos
  | none => True
def outOf (S : ByteArray) (acc : List (Nat × Nat)) : List ByteArray := acc.map fun x => S.extract x.1 x.2
theorem spans_from {S : ByteArray} {s : Bs} (hs : S.data.toList = s) (hno : ∀ c ∈ s, endB c = false) : ∀ (f pos : Nat) (st : Option Nat) (acc : List (Nat × Nat)), pos ≤ s.length → s.length - pos ≤ f → okSt pos st →
    outOf S (closeSpans S (spansFromP (asR gapB) S f pos st acc)) = outOf S acc ++ (wgo (curOf s pos st) (s.drop pos)).map W.str := by
  have hsz : S.size = s.length := W.size_of hs
  have hdone : ∀ (pos : Nat) (st : Option Nat) (acc : List (Nat × Nat)), pos = s.length → okSt pos st → outOf S (closeSpans S (acc, st)) = outOf S acc ++ (wgo (curOf s pos st) (s.drop pos)).map W.str := by
    intro pos st acc hp hok
    subst hp
    rw [List.drop_length, wgo]
    cases st with
    | none =>
      show outOf S acc = outOf S acc ++ (fl []).map W.str
      rw [fl_nil]; simp
    | some a =>
      have ha : a < s.length := hok
      have hne : curOf s s.length (some a) ≠ [] := by
        intro e
        have := congrArg List.length e
        simp [curOf] at this
        omega
      rw [fl_some hne]
      unfold closeSpans outOf
      dsimp only
      rw [List.map_append]
      congr 1
      show [S.extract a S.size] = [W.str (curOf s s.length (some a))]
      rw [extract_of hs, hsz]
      rfl
  intro f
  induction f with
  | zero => intro pos st acc h1 h2 h3; exact hdone pos st acc (by omega) h3
  | succ f ih =>
    intro pos st acc h1 h2 h3
    by_cases hk : pos < s.length
    · obtain ⟨r, w, e, hw1, hw2, hcase⟩ := step_at low_gap hs hk
      have hen : endB s[pos] = false := hno _ (List.getElem_mem _)
      unfold spansFromP
      rw [if_pos (by omega), e]
      dsimp only
      rcases hcase with ⟨hp, hw, hqk, _⟩ | ⟨hp, hall⟩
      · subst hw
        rw [if_pos hp]
        cases st with
        | none =>
          dsimp only
          rw [ih (pos + 1) none acc hw2 (by omega) trivial]
          congr 1
          rw [List.drop_eq_getElem_cons hk, wgo_gap hen hqk]
          show (wgo [] _).map W.str = (fl [] ++ wgo [] _).map W.str
          rw [fl_nil, List.nil_append]
        | some a =>
          dsimp only
          have ha : a < pos := h3
          rw [ih (pos + 1) none (acc ++ [(a, pos)]) hw2 (by omega) trivial]
          have hne : curOf s pos (some a) ≠ [] := by
            intro e
            have := congrArg List.length e
            simp [curOf] at this
            omega
          conv => rhs; rw [List.drop_eq_getElem_cons hk, wgo_gap hen hqk, fl_some hne]
          unfold outOf
          rw [List.map_append, List.append_assoc]
          congr 1
          show [S.extract a pos] ++ (wgo [] _).map W.str = ([curOf s pos (some a)] ++ wgo [] _).map W.str
          rw [extract_of hs, List.map_append]
          rfl
      · rw [if_neg (by rw [hp]; decide)]
        have hsp : s.drop pos = (s.drop pos).take w ++ s.drop (pos + w) := by
          rw [← List.drop_drop]; exact (List.take_append_drop w _).symm
        have hW : ((s.drop pos).take w).all inW = true := by
          rw [List.all_eq_true]
          intro c hc
          rw [inW_iff]
          exact ⟨hno c (List.mem_of_mem_drop (List.mem_of_mem_take hc)), hall c hc⟩
        cases st with
        | none =>
          dsimp only
          rw [ih (pos + w) (some pos) acc hw2 (by omega) (by show pos < pos + w; omega)]
          congr 2
          conv => rhs; rw [hsp, wgo_word hW]
          show wgo ((s.drop pos).take (pos + w - pos)) _ = wgo ([] ++ _) _
          rw [List.nil_append, show pos + w - pos = w by omega]
        | some a =>
          dsimp only
          have ha : a < pos := h3
          rw [ih (pos + w) (some a) acc hw2 (by omega) (by show a < pos + w; omega)]
          congr 2
          conv => rhs; rw [hsp, wgo_word hW]
          congr 1
          show (s.drop a).take (pos + w - a) = (s.drop a).take (pos - a) ++ (s.drop pos).take w
          have e2 : s.drop pos = (s.drop a).drop (pos - a) := by rw [List.drop_drop]; congr 1; omega
          rw [e2, show pos + w - a = (pos - a) + w by omega, List.take_add]
    · rw [spansFromP_end _ _ _ _ _ _ (by omega)]
      exact hdone pos st acc (by omega) h3
/-- The library's fields of a text in which no line ends are its words. -/
theorem fields_words {S : ByteArray} {s : Bs} (hs : S.data.toList = s) (hno : ∀ c ∈ s, endB c = false) : goFieldsP (asR gapB) S = (wordsL s).map W.str := by
  have h := spans_from hs hno S.size 0 none [] (Nat.zero_le _) (by rw [W.size_of hs]; omega) trivial
  have h2 : outOf S [] = [] := rfl
  rw [h2, List.nil_append, List.drop_zero] at h
  exact h

end Go.Proofs.YtifobiajjhknbaaGreatDoor.M

namespace Go.Proofs.YtifobiajjhknbaaGreatDoor
open Go.RowKit Go.Shelf

abbrev BSet := Nat → Prop
/-- What an iterator does: it changes only what is as new as that, and not p's, and makes no cells. -/
structure IStep (B : Nat) (p : BSet) (W W' : World) : Prop where
  keep : Keep (fun k => B ≤ k ∧ ¬ p k) W W'
  cells : ∀ (k : Nat) (o : Obj), W'.heap[k]? = some o → o.isCells = true → W.heap[k]? = some o
/-- What holds is not touched by that. -/
def KeepsOut {β : Type} (B : Nat) (I : β → BSet → World → Prop) : Prop := ∀ s p W W', I s p W → IStep B p W W' → I s p W'
theorem IStep.alloc {B : Nat} {p : BSet} {W : World} (o : Obj) (ho : o.isCells = false) : IStep B p W (W.alloc o) := by
  refine ⟨(Keep.refl _ _).alloc _, fun k o' hk hc => ?_⟩
  have hl := (Array.getElem?_eq_some_iff.1 hk).1
  rw [World.size_alloc] at hl
  by_cases e : k = W.heap.size
  · subst e
    rw [World.alloc_heap_new] at hk
    cases hk
    rw [ho] at hc; cases hc
  · rw [Below.heap_alloc _ _ _ (by omega)] at hk
    exact hk
theorem IStep.trans {B : Nat} {p : BSet} {W W1 W2 : World} (h : IStep B p W W1) (h' : IStep B p W1 W2) : IStep B p W W2 :=
  ⟨h.keep.trans h'.keep (fun _ h _ => h), fun k o hk hc => h.cells k o (h'.cells k o hk hc) hc⟩
theorem IStep.putObj {B l : Nat} {p : BSet} {W : World} (o : Obj) (ho : o.isCells = false) (hB : B ≤ l) (hp : ¬ p l) : IStep B p W (W.putObj l o) := by
  refine ⟨(Keep.refl _ W).grown (grownBy_putObj' W l o) (fun g e hl => by cases e; exact ⟨hB, hp⟩), fun k o' hk hc => ?_⟩
  by_cases e : k = l
  · subst e
    have hl := (Array.getElem?_eq_some_iff.1 hk).1
    rw [World.putObj_heap_same (by simpa [World.putObj] using hl)] at hk
    cases hk
    rw [ho] at hc; cases hc
  · rwa [World.putObj_heap_other e] at hk
theorem IStep.mono {B B' : Nat} {p p' : BSet} {W W' : World} (h : IStep B p W W') (hB : B' ≤ B) (hp : ∀ k, p' k → p k) : IStep B' p' W W' :=
  ⟨h.keep.mono (fun k h2 _ => ⟨Nat.le_trans hB h2.1, fun h3 => h2.2 (hp k h3)⟩), h.cells⟩
/-- Only what is p's is changed; p takes in only what is new. -/
structure Rnd (p p' : BSet) (W W' : World) : Prop where
  own : ∀ k, k < W.heap.size → p' k → p k
  keep : Keep p W W'
theorem Rnd.refl (p : BSet) (W : World) : Rnd p p W W := ⟨fun _ _ h => h, Keep.refl _ _⟩
theorem Rnd.trans {p p1 p2 : BSet} {W W1 W2 : World} (h : Rnd p p1 W W1) (h' : Rnd p1 p2 W1 W2) : Rnd p p2 W W2 :=
  ⟨fun k hk h2 => h.own k hk (h'.own k (Nat.lt_of_lt_of_le hk h.keep.size) h2), h.keep.trans h'.keep (fun k h1 hk => h.own k hk h1)⟩
theorem Rnd.of_keep {p : BSet} {W W' : World} (h : Keep p W W') : Rnd p p W W' := ⟨fun _ _ h => h, h⟩
theorem Keep.noB {O : BSet} {W W' : World} (h : Keep NoB W W') : Keep O W W' := h.mono (fun _ hf => hf.elim)
theorem Rnd.not {p p' : BSet} {W W' : World} (h : Rnd p p' W W') {k : Nat} (hk : k < W.heap.size) (hn : ¬ p k) : ¬ p' k := fun h2 => hn (h.own k hk h2)
theorem Rnd.same {p p' : BSet} {W W' : World} (h : Rnd p p' W W') {k : Nat} (hk : k < W.heap.size) (hn : ¬ p k) : W'.heap[k]? = W.heap[k]? := h.keep.block k hk hn

section
variable {P : Program} {n : Nat}
/-- What is asked of the iterator. -/
def StopsM {α : Type} (P : Program) (m k : Nat) (gf : Nat) (lb : Array Value) (encs : α → Array Value) (bx : Nat) (o : Obj) (En : List α → α → Prop) (S Sp : List α → Prop) : Prop :=
  ∀ (L : Nat) (J Jx : List α → BSet → World → Prop) (p : BSet) (W : World), KeepsOut W.heap.size J → KeepsOut W.heap.size Jx →
    (∀ pre x p W1, J pre p W1 → En pre x → YieldAt Fence.wide m P L (encs x) W1 fun e W' => ∃ p', Rnd p p' W1 W' ∧ ((e = .returned (.bool true) ∧ J (pre ++ [x]) p' W') ∨ (e = .returned (.bool false) ∧ Jx (pre ++ [x]) p' W'))) →
    J [] p W → (∀ k, p k → k < W.heap.size) → W.heap[bx]? = some o → ¬ p bx →
    CallsIn Fence.wide k P gf (#[.func (.yield L) #[] #[]] ++ lb) W fun e W' => (∃ v, e = .returned v) ∧ ∃ p', ((∃ xs, S xs ∧ J xs p' W') ∨ (∃ pre, Sp pre ∧ Jx pre p' W'))

/-- How a round of the body may end. -/
def minePost {α : Type} (I : List α → BSet → World → Prop) (Ix : Code → List α → BSet → World → Prop) (xs : List α) (p : BSet) (W : World) : Exit → Act → World → Prop
  | .normal, _, W' => ∃ p', Rnd p p' W W' ∧ I xs p' W'
  | .ret, _, W' => ∃ p', Rnd p p' W W' ∧ Ix .ret xs p' W'
  | .exit id, _, W' => ∃ p', Rnd p p' W W' ∧ Ix (.exit id) xs p' W'
  | .goto t, _, W' => ∃ p', Rnd p p' W W' ∧ Ix (.goto t) xs p' W'
  | .panic _, _, _ => False
  | .outgrown, _, _ => False

theorem wpIn_rangeFunc_mine {α : Type} {g : Operand} {ps : Array Tmp} {assign body : Code} {Q : Exit → Act → World → Prop} {a : Act} {w : World} {m : Nat}
    {gf : Nat} {lb : Array Value} (hg : a.eval g = .func (.func gf) #[] lb) (eg : ∀ args w, (callFunc gf args).run P w = .ok (.enter gf args) w)
    {encs : α → Array Value} {bx : Nat} {o : Obj} {En : List α → α → Prop} {S Sp : List α → Prop} (hit : StopsM P m (n - 1) gf lb encs bx o En S Sp) (hps : ∀ x, (encs x).size = ps.size)
    (I : List α → BSet → World → Prop) (Ix : Code → List α → BSet → World → Prop) (hI : KeepsOut w.heap.size I) (hIx : ∀ c, KeepsOut w.heap.size (Ix c)) {p0 : BSet} (h0 : I [] p0 w) (hp0 : ∀ k, p0 k → k < w.heap.size) (hbx : w.heap[bx]? = some o) (hpb : ¬ p0 bx)
    (Ax : List α → α → BSet → Act → World → Prop) (hAx : ∀ pre x a', KeepsOut w.heap.size (fun (_ : Unit) p W => Ax pre x p a' W))
    (hassign : ∀ (l : Nat) (pre : List α) (x : α) (p : BSet) (W : World), I pre p W → En pre x →
      assign.wpIn (Fence.wide.inRound l) m P (Exit.then (fun a' W' => ∃ p', Rnd p p' W W' ∧ Ax pre x p' a' W') (fun _ _ _ => False)) { tmps := (ps.zip (encs x)).foldl (fun t (p, v) => t.setIfInBounds p v) a.tmps, defers := [] } W)
    (hbody : ∀ (l : Nat) (pre : List α) (x : α) (p : BSet) (a' : Act) (W : World), En pre x → Ax pre x p a' W → body.wpIn (Fence.wide.inRound l) m P (minePost I Ix (pre ++ [x]) p W) a' W)
    (hdone : ∀ (D : Nat) (xs : List α) (p : BSet) (W : World), w.heap.size ≤ D → ¬ p D → S xs → I xs p W → W.heap[D]? = some (.deferred (some [])) → Q .normal { a with defers := { target := .collected D, args := #[] } :: a.defers } W)
    (hstop : ∀ (D : Nat) (c : Code) (pre : List α) (p : BSet) (W : World), w.heap.size ≤ D → ¬ p D → Sp pre → Ix c pre p W → W.heap[D]? = some (.deferred (some [])) → c.wpIn Fence.wide n P Q { a with defers := { target := .collected D, args := #[] } :: a.defers } W) :
    (Code.rangeFunc g ps assign body).wpIn Fence.wide n P Q a w := by
  have hbl : bx < w.heap.size := (Array.getElem?_eq_some_iff.1 hbx).1
  refine wpIn_rangeFunc fun fn _ => ?_
  obtain ⟨rec, hrec⟩ : ∃ rec : LoopState → Option Code → Loop, rec = fun st pe => { state := st, pending := pe, fn, tmps := a.tmps, params := ps, assign, body, defers := w.heap.size } := ⟨_, rfl⟩
  obtain ⟨W1, hW1⟩ : ∃ W1, (w.alloc (.deferred (some []))).alloc (.loop (rec .ready none)) = W1 := ⟨_, rfl⟩
  have hL1 : W1.heap[w.heap.size + 1]? = some (.loop (rec .ready none)) := by
    rw [← hW1]; have := World.alloc_heap_new (w.alloc (.deferred (some []))) (.loop (rec .ready none)); rwa [World.size_alloc] at this
  have hD1 : W1.heap[w.heap.size]? = some (.deferred (some [])) := by
    rw [← hW1]; exact (Below.heap_alloc _ _ _ (by simp)).trans (World.alloc_heap_new w _)
  have hs1 : W1.heap.size = w.heap.size + 2 := by rw [← hW1]; simp
  have hB1 : W1.heap[bx]? = some o := by
    rw [← hW1]; exact (Below.heap_alloc _ _ _ (by simp; omega)).trans ((Below.heap_alloc _ _ _ hbl).trans hbx)
  have hI1 : I [] p0 W1 := hI _ _ _ _ h0 (by rw [← hW1]; exact (IStep.alloc _ rfl).trans (IStep.alloc _ rfl))
  have hput : ∀ {β : Type} {I' : β → BSet → World → Prop} (_ : KeepsOut w.heap.size I') {s : β} {p : BSet} {W : World} (l' : Loop), I' s p W → ¬ p (w.heap.size + 1) → I' s p (W.putObj (w.heap.size + 1) (.loop l')) := by
    intro β I' h s p W l' hi hn
    exact h _ _ _ _ hi (IStep.putObj _ rfl (by omega) hn)
  refine ⟨w.heap.size + 1, [{ target := .collected w.heap.size, args := #[] }], W1, { target := .fn (.func gf) lb, args := #[.func (.yield (w.heap.size + 1)) #[] #[]] }, W1, gf,
    #[.func (.yield (w.heap.size + 1)) #[] #[]] ++ lb, W1, ?_, ?_, fun _ _ => trivial, ?_, (fun h => by cases h), ?_⟩
  · rw [← hW1, hrec]; exact run_enterLoop_outer _ _ _ _ _
  · simp only [resolve, hg]
    simp [go_sem]
  · simp [invoke, go_sem, eg]
  refine (hit (w.heap.size + 1)
    (fun pre pj W => ∃ p, (pj = fun k => p k ∨ k = w.heap.size + 1) ∧ (¬ p (w.heap.size + 1) ∧ ¬ p w.heap.size) ∧ I pre p W ∧ W.heap[w.heap.size + 1]? = some (.loop (rec .ready none)) ∧ W.heap[w.heap.size]? = some (.deferred (some [])))
    (fun pre pj W => ∃ p, (pj = fun k => p k ∨ k = w.heap.size + 1) ∧ (¬ p (w.heap.size + 1) ∧ ¬ p w.heap.size) ∧ ∃ c, Ix c pre p W ∧ W.heap[w.heap.size + 1]? = some (.loop (rec .done (some c))) ∧ W.heap[w.heap.size]? = some (.deferred (some [])))
    (fun k => p0 k ∨ k = w.heap.size + 1) W1 ?_ ?_ ?_ ⟨p0, rfl, ⟨fun h => by have := hp0 _ h; omega, fun h => by have := hp0 _ h; omega⟩, hI1, hL1, hD1⟩ ?_ hB1 ?_).mono ?_
  · rintro pre pj W W' ⟨p, rfl, hn, hi, hl, hd⟩ hk
    exact ⟨p, rfl, hn, hI _ _ _ _ hi (hk.mono (by omega) (fun k h2 => .inl h2)), (hk.keep.block _ (Array.getElem?_eq_some_iff.1 hl).1 (by rintro ⟨h, _⟩; omega)).trans hl, (hk.keep.block _ (Array.getElem?_eq_some_iff.1 hd).1 (by rintro ⟨h, _⟩; omega)).trans hd⟩
  · rintro pre pj W W' ⟨p, rfl, hn, c, hi, hl, hd⟩ hk
    exact ⟨p, rfl, hn, c, hIx c _ _ _ _ hi (hk.mono (by omega) (fun k h2 => .inl h2)), (hk.keep.block _ (Array.getElem?_eq_some_iff.1 hl).1 (by rintro ⟨h, _⟩; omega)).trans hl, (hk.keep.block _ (Array.getElem?_eq_some_iff.1 hd).1 (by rintro ⟨h, _⟩; omega)).trans hd⟩
  · rintro pre x pj W ⟨p, rfl, ⟨hnl, hnd⟩, hi, hl, hd⟩ hen
    have hlt : w.heap.size + 1 < W.heap.size := (Array.getElem?_eq_some_iff.1 hl).1
    have hy := run_yield (P := P) (args := encs x) hl (by rw [hrec]; exact hps x)
    rw [hrec] at hy
    refine ⟨fn, _, assign, body, hy, roundIn_of_wpIn trivial (wpIn_mono (hassign _ pre x p W hi hen) ?_)⟩
    clear hy
    intro e a₁ Wa hq
    cases e with
    | normal =>
      obtain ⟨p1, hr1, hax⟩ := hq
      have hl1 := (hr1.same hlt hnl).trans hl
      have hd1 := (hr1.same (by omega) hnd).trans hd
      have hnl1 := hr1.not hlt hnl
      have hnd1 := hr1.not (by omega) hnd
      have hlt1 : w.heap.size + 1 < Wa.heap.size := (Array.getElem?_eq_some_iff.1 hl1).1
      refine ⟨_, run_beginRound hl1 (by rw [hrec]), ?_⟩
      have hl2 : (Wa.putObj (w.heap.size + 1) (.loop { rec .ready none with state := .busy })).heap[w.heap.size + 1]? = some (.loop { rec .ready none with state := .busy }) := World.putObj_heap_same hlt1
      have hd2 : (Wa.putObj (w.heap.size + 1) (.loop { rec .ready none with state := .busy })).heap[w.heap.size]? = some (.deferred (some [])) := (World.putObj_heap_other (by omega)).trans hd1
      have hkl : Keep (fun k => p k ∨ k = w.heap.size + 1) W (Wa.putObj (w.heap.size + 1) (.loop { rec .ready none with state := .busy })) :=
        (hr1.keep.mono (fun k h _ => .inl h)).grown (grownBy_putObj' Wa (w.heap.size + 1) _) (fun g e _ => by cases e; exact .inr rfl)
      have hz2 : (Wa.putObj (w.heap.size + 1) (.loop { rec .ready none with state := .busy })).heap.size = Wa.heap.size := by simp [World.putObj]
      refine wpIn_mono (hbody _ pre x p1 a₁ _ hen (hput (hAx pre x a₁) (s := ()) _ hax hnl1)) ?_
      have fin : ∀ (jump : Option Code) (p2 : BSet) (W3 : World), Rnd p1 p2 (Wa.putObj (w.heap.size + 1) (.loop { rec .ready none with state := .busy })) W3 →
          (Instr.endRound (w.heap.size + 1) jump).run P W3 = .ok (.bool jump.isNone) (W3.putObj (w.heap.size + 1) (.loop (rec (if jump.isNone then .ready else .done) jump))) ∧
          (W3.putObj (w.heap.size + 1) (.loop (rec (if jump.isNone then .ready else .done) jump))).heap[w.heap.size + 1]? = some (.loop (rec (if jump.isNone then .ready else .done) jump)) ∧
          (W3.putObj (w.heap.size + 1) (.loop (rec (if jump.isNone then .ready else .done) jump))).heap[w.heap.size]? = some (.deferred (some [])) ∧
          (¬ p2 (w.heap.size + 1) ∧ ¬ p2 w.heap.size) ∧
          Rnd (fun k => p k ∨ k = w.heap.size + 1) (fun k => p2 k ∨ k = w.heap.size + 1) W (W3.putObj (w.heap.size + 1) (.loop (rec (if jump.isNone then .ready else .done) jump))) := fun jump p2 W3 hr2 => by
        have hl3 := (hr2.same (by rw [hz2]; exact hlt1) hnl1).trans hl2
        have hd3 := (hr2.same (by rw [hz2]; omega) hnd1).trans hd2
        have := run_endRound (P := P) jump hl3
        rw [hrec] at this ⊢
        refine ⟨this, World.putObj_heap_same (Array.getElem?_eq_some_iff.1 hl3).1, (World.putObj_heap_other (by omega)).trans hd3, ⟨hr2.not (by rw [hz2]; exact hlt1) hnl1, hr2.not (by rw [hz2]; omega) hnd1⟩, ⟨fun k hk h => ?_, ?_⟩⟩
        · rcases h with h | h
          · exact .inl (hr1.own k hk (hr2.own k (by rw [hz2]; exact Nat.lt_of_lt_of_le hk hr1.keep.size) h))
          · exact .inr h
        · rw [hrec] at hkl hr2
          exact (hkl.trans hr2.keep (fun k h hk => .inl (hr1.own k hk h))).grown (grownBy_putObj' W3 (w.heap.size + 1) _) (fun g e _ => by cases e; exact .inr rfl)
      rintro e a3 W3 hp
      cases e with
      | normal =>
        obtain ⟨p2, hr2, hi3⟩ := hp
        obtain ⟨hr, hl4, hd4, hn4, hR⟩ := fin none p2 W3 hr2
        exact ⟨_, _, hr, ⟨_, hR, .inl ⟨rfl, p2, rfl, hn4, hput hI _ hi3 hn4.1, hl4, hd4⟩⟩⟩
      | ret =>
        obtain ⟨p2, hr2, hi3⟩ := hp
        obtain ⟨hr, hl4, hd4, hn4, hR⟩ := fin (some .ret) p2 W3 hr2
        exact ⟨_, _, hr, ⟨_, hR, .inr ⟨rfl, p2, rfl, hn4, .ret, hput (hIx _) _ hi3 hn4.1, hl4, hd4⟩⟩⟩
      | exit id =>
        obtain ⟨p2, hr2, hi3⟩ := hp
        obtain ⟨hr, hl4, hd4, hn4, hR⟩ := fin (some (.exit id)) p2 W3 hr2
        exact ⟨_, _, hr, ⟨_, hR, .inr ⟨rfl, p2, rfl, hn4, .exit id, hput (hIx _) _ hi3 hn4.1, hl4, hd4⟩⟩⟩
      | goto t =>
        obtain ⟨p2, hr2, hi3⟩ := hp
        obtain ⟨hr, hl4, hd4, hn4, hR⟩ := fin (some (.goto t)) p2 W3 hr2
        exact ⟨_, _, hr, ⟨_, hR, .inr ⟨rfl, p2, rfl, hn4, .goto t, hput (hIx _) _ hi3 hn4.1, hl4, hd4⟩⟩⟩
      | panic ch => exact hp.elim
      | outgrown => exact hp.elim
    | exit id => exact hq
    | goto t => exact hq
    | ret => exact hq
    | panic c => exact hq
    | outgrown => exact hq
  · rintro k (h | h)
    · have := hp0 k h; omega
    · omega
  · rintro (h | h)
    · exact hpb h
    · omega
  · rintro e W2 ⟨⟨v, rfl⟩, pj, (⟨xs, hS, p, rfl, hn, hi, hl, hd⟩ | ⟨pre, hSp, p, rfl, hn, c, hi, hl, hd⟩)⟩
    · exact ⟨none, _, by have := run_endLoop (P := P) hl (by rw [hrec]; simp); rw [hrec] at this; exact this, hdone _ xs p _ (Nat.le_refl _) hn.2 hS (hput hI _ hi hn.1) ((World.putObj_heap_other (by omega)).trans hd)⟩
    · exact ⟨some c, _, by have := run_endLoop (P := P) hl (by rw [hrec]; simp); rw [hrec] at this; exact this, hstop _ c pre p _ (Nat.le_refl _) hn.2 hSp (hput (hIx c) _ hi hn.1) ((World.putObj_heap_other (by omega)).trans hd)⟩
end
end Go.Proofs.YtifobiajjhknbaaGreatDoor

namespace Go.Proofs.YtifobiajjhknbaaGreatDoor.M
open Go.RowKit Go.Shelf Go.Lib W

/-- Lines with their numbers. -/
def numS (n : Nat) : List Bs → List (Nat × Bs)
  | [] => []
  | s :: r => (n, s) :: numS (n + 1) r
theorem sgo_word {w : Bs} (h : ∀ c ∈ w, c ≠ 10) (cur r : Bs) : sgo cur (w ++ r) = sgo (cur ++ w) r := by
  induction w generalizing cur with
  | nil => simp
  | cons c w ih =>
    rw [List.cons_append, sgo, if_neg (h c (by simp)), ih (fun d hd => h d (List.mem_cons_of_mem _ hd)), List.append_assoc]
    rfl
def isLF (c : UInt8) : Bool := decide (c = 10)
theorem low_lf : lowQ isLF := by
  intro c h
  unfold isLF
  rw [decide_eq_false_iff_not]
  rintro rfl
  exact absurd h (by decide)
theorem asR_lf (r : Nat) : asR isLF r = ((r : Int) == 10) := by
  unfold asR isLF
  rw [Bool.eq_iff_iff, Bool.and_eq_true, decide_eq_true_iff, decide_eq_true_iff, beq_iff_eq]
  constructor
  · rintro ⟨h, h1⟩
    have := congrArg UInt8.toNat h1; simp at this; omega
  · intro h
    obtain rfl : r = 10 := by omega
    exact ⟨by omega, rfl⟩
/-- What is left, when a line is in hand from f on, and the text was gone through up to k. -/
def LeftI (s : Bs) (pre : List (Nat × Bs)) (f k : Nat) : Prop := numS 1 (segs s) = pre ++ numS (pre.length + 1) (sgo ((s.drop f).take (k - f)) (s.drop k))
theorem left_start (s : Bs) : LeftI s [] 0 0 := by unfold LeftI segs; simp
theorem left_byte {s : Bs} {pre : List (Nat × Bs)} {f k w : Nat} (h : LeftI s pre f k) (hf : f ≤ k) (hno : ∀ c ∈ (s.drop k).take w, isLF c = false) : LeftI s pre f (k + w) := by
  unfold LeftI at h ⊢
  rw [h]
  have hsp : s.drop k = (s.drop k).take w ++ s.drop (k + w) := by
    rw [← List.drop_drop]; exact (List.take_append_drop w _).symm
  congr 2
  conv => lhs; rw [hsp]
  rw [sgo_word (fun c hc e => by have := hno c hc; unfold isLF at this; rw [e] at this; exact absurd this (by decide))]
  congr 1
  rw [show k + w - f = (k - f) + w by omega, List.take_add, List.drop_drop, show f + (k - f) = k by omega]
theorem left_line {s : Bs} {pre : List (Nat × Bs)} {f k : Nat} (h : LeftI s pre f k) (hk : k < s.length) (he : isLF s[k] = true) :
    numS 1 (segs s) = pre ++ (pre.length + 1, (s.drop f).take (k - f)) :: numS (pre.length + 1 + 1) (sgo [] (s.drop (k + 1))) := by
  unfold LeftI at h
  rw [h, List.drop_eq_getElem_cons hk, sgo, if_pos (of_decide_eq_true he)]
  rfl
theorem left_next {s : Bs} {pre : List (Nat × Bs)} {x : Bs} {k : Nat} (h : numS 1 (segs s) = pre ++ (pre.length + 1, x) :: numS (pre.length + 1 + 1) (sgo [] (s.drop (k + 1)))) : LeftI s (pre ++ [(pre.length + 1, x)]) (k + 1) (k + 1) := by
  unfold LeftI
  rw [h, Nat.sub_self, List.take_zero, List.length_append, List.append_assoc]
  rfl
theorem left_last {s : Bs} {pre : List (Nat × Bs)} {f k : Nat} (h : LeftI s pre f k) (hk : s.length ≤ k) (hf : f < s.length) : numS 1 (segs s) = pre ++ [(pre.length + 1, s.drop f)] := by
  unfold LeftI at h
  have e : (s.drop f).take (k - f) = s.drop f := List.take_of_length_le (by rw [List.length_drop]; omega)
  rw [h, List.drop_eq_nil_of_le hk, e, sgo, fl_some (fun e => by have := congrArg List.length e; simp at this; omega)]
  rfl
theorem left_none {s : Bs} {pre : List (Nat × Bs)} {f k : Nat} (h : LeftI s pre f k) (hk : s.length ≤ k) (hf : s.length ≤ f) : numS 1 (segs s) = pre := by
  unfold LeftI at h
  rw [h, List.drop_eq_nil_of_le hk, List.drop_eq_nil_of_le hf, List.take_nil, sgo, fl_nil]
  simp [numS]
theorem segs_count (s : Bs) : (segs s).length ≤ s.length := by
  have : ∀ (s cur : Bs), (sgo cur s).length ≤ s.length + (if cur = [] then 0 else 1) := by
    intro s
    induction s with
    | nil => intro cur; rw [sgo]; unfold fl; split <;> simp
    | cons c r ih =>
      intro cur
      by_cases hc : c = 10
      · subst hc
        rw [sgo, if_pos rfl, List.length_cons, List.length_cons]
        have := ih []
        simp at this
        omega
      · rw [sgo, if_neg hc]
        have := ih (cur ++ [c])
        rw [if_neg (by simp)] at this
        rw [List.length_cons]
        omega
  have h := this s []
  simp at h
  exact h
theorem numS_length : ∀ (n : Nat) (l : List Bs), (numS n l).length = l.length
  | _, [] => rfl
  | n, x :: r => by rw [numS, List.length_cons, List.length_cons, numS_length]
theorem pre_count {s : Bs} {pre post : List (Nat × Bs)} (h : numS 1 (segs s) = pre ++ post) : pre.length + post.length ≤ s.length := by
  have := congrArg List.length h
  rw [numS_length, List.length_append] at this
  have := segs_count s
  omega

abbrev lnV (x : Nat × Bs) : Array Value := #[.int .i64 (x.1 : Int), .string (str x.2)]
/-- What is known of a line that comes: it is the next one. -/
def EnL (s : Bs) (pre : List (Nat × Bs)) (x : Nat × Bs) : Prop := x.1 = pre.length + 1 ∧ ∃ post, numS 1 (segs s) = pre ++ x :: post
def ItI (J : List (Nat × Bs) → BSet → World → Prop) (S : ByteArray) (bx it : Nat) (pre : List (Nat × Bs)) (k : Nat) (W : World) : Prop :=
  ∃ p, J pre p W ∧ ¬ p it ∧ ¬ p bx ∧ W.heap[it]? = some (.stringIter S k) ∧ Blk W bx 9 #[.string S]

theorem step_iter {B : Nat} {p : BSet} {w : World} {it : Nat} {S : ByteArray} {k : Nat} (n : Nat) (h0 : w.heap[it]? = some (.stringIter S k)) (hB : B ≤ it) (hp : ¬ p it) : IStep B p w (w.iterAt it S n) := by
  refine ⟨⟨rfl, rfl, rfl, by rw [Lib.iterAt_size]; exact Nat.le_refl _, fun j _ hn => Lib.iterAt_other _ _ _ _ _ (fun e => by subst e; exact hn ⟨hB, hp⟩)⟩, fun j o hj hc => ?_⟩
  by_cases e : j = it
  · subst e
    rw [Lib.iterAt_heap _ _ _ _ n h0] at hj
    cases hj; cases hc
  · rwa [Lib.iterAt_other _ _ _ _ _ e] at hj
theorem ne_bool {r : Nat} (h : asR isLF r = false) : ((r : Int) == 10) = false := by rw [← asR_lf]; exact h
theorem sl_rest {S : ByteArray} {s : Bs} {f : Nat} (hs : S.data.toList = s) : S.extract f S.size = str (s.drop f) := by
  rw [extract_of hs, size_of hs]
  congr 1
  exact List.take_of_length_le (by rw [List.length_drop]; exact Nat.le_refl _)

set_option maxRecDepth 100000 in
set_option maxHeartbeats 4000000 in
theorem lines_stops (m k bx : Nat) (hk : 1 ≤ k) (hmk : m = k - 1) (S : ByteArray) (s : Bs) (hs : Hid (S.data.toList = s)) (hl : S.size ≤ 140000) :
    StopsM Tryz.prog m k 75 #[.pointer (some ⟨bx, 0, none⟩)] lnV bx (.cells #[.string S] 9 (0, 0)) (EnL s) (fun xs => xs = numS 1 (segs s)) (fun pre => ∃ post, numS 1 (segs s) = pre ++ post) := by
  subst hmk
  intro L J Jx p0 W hJ hJx hY h0 hp0 hbx hpb
  have hsz := size_of hs.out
  have HEX := Lib.hid (extract_of hs.out)
  have HY := Lib.hid hY
  have HJ := Lib.hid hJ
  have c1 : W.cell? ⟨bx, 0, none⟩ = some (.string S) := (show Blk W bx 9 #[.string S] from hbx).cell 0
  have hI0 : ItI J S bx W.heap.size [] 0 (W.iter S 0) := ⟨p0, hJ _ _ _ _ h0 (IStep.alloc _ rfl), fun h => Nat.lt_irrefl _ (hp0 _ h), hpb, World.iter_heap W S 0, (show Blk W bx 9 #[.string S] from hbx).alloc _⟩
  clear hY hJ hJx h0 hp0 hbx hpb
  refine callsIn_of_wp Tryz.func75 rfl trivial ?_ rfl
  simp only [Tryz.ntmps75, List.size_toArray, List.length_cons, List.length_nil, Nat.reduceAdd, Nat.reduceSub, Array.replicate_succ, Array.replicate_zero, List.push_toArray, List.append_toArray, List.nil_append, List.cons_append]
  gi_wp2
  gi_loopw [3, 4, 5, 6] (fun vn vf _ _ wr => ∃ (pre : List (Nat × Bs)) (f k n : Nat), vn = .int .i64 (n : Int) ∧ n = pre.length + 1 ∧ vf = .int .i64 (f : Int) ∧ f ≤ k ∧ k ≤ s.length ∧ Hid (LeftI s pre f k) ∧ ItI J S bx W.heap.size pre k wr)
    (fun _ _ _ _ wr => S.size - wr.iterPos W.heap.size)
  case atStart => exact ⟨[], 0, 0, 1, rfl, rfl, rfl, Nat.le_refl _, Nat.zero_le _, left_start s, hI0⟩
  case round =>
    obtain ⟨pre, f, k, n, rfl, hn1, rfl, hfk, hks, hL, p, hJp, hpi, hpb, hit, hB⟩ := hrel
    by_cases hps : k < s.length
    · obtain ⟨r, w, hd, hw1, hw2, hcase⟩ := step_at low_lf hs.out hps
      have hnx : ∀ ty, (Instr.next (.pointer (some ⟨W.heap.size, 0, none⟩)) true ty).run Tryz.prog wr = _ := fun ty => Lib.run_next_any_at wr W.heap.size S k ty hit (by omega)
      rw [hd] at hnx
      dsimp only at hnx
      have hit2 := Lib.iterAt_heap wr W.heap.size S k (k + w) hit
      have hps1 : wr.iterPos W.heap.size = k := by unfold World.iterPos; rw [hit]
      rcases hcase with ⟨hp, rfl, hq, hr⟩ | ⟨hp, hall⟩
      · have hten : s[k] = 10 := of_decide_eq_true hq
        obtain rfl : r = 10 := by rw [hr, hten]; rfl
        have hn := left_line hL.out hps hq
        have hJ2 := HJ.out pre p _ _ hJp (step_iter (k + 1) hit (Nat.le_refl _) hpi)
        have hB2 : Blk (wr.iterAt W.heap.size S (k + 1)) bx 9 #[.string S] := (Lib.iterAt_other _ _ _ _ _ (fun e => by subst e; exact absurd (hB.symm.trans hit) (by simp))).trans hB
        have c2 : (wr.iterAt W.heap.size S (k + 1)).cell? ⟨bx, 0, none⟩ = some (.string S) := hB2.cell 0
        rw [← hn1] at hn
        have hY2 := HY.out pre (n, (s.drop f).take (k - f)) p _ hJ2 ⟨hn1, _, hn⟩
        have hx : S.extract f k = str ((s.drop f).take (k - f)) := HEX.out f k
        have HPo : Hid (∃ post, numS 1 (segs s) = (pre ++ [(n, (s.drop f).take (k - f))]) ++ post) := ⟨_, by rw [hn, List.append_assoc]; rfl⟩
        have hcnt : pre.length ≤ 140000 := by have := pre_count hn; omega
        have hn14 : n ≤ 140001 := by omega
        have HN := Lib.hid (left_next (hn1 ▸ hn))
        rw [← hn1] at HN
        have hle : (0 : Int) ≤ (f : Int) ∧ (f : Int) ≤ (k : Int) ∧ (k : Int) ≤ (S.size : Int) := ⟨by omega, by omega, by omega⟩
        have hk14 : k ≤ 140000 := by omega
        dsimp only [lnV] at hY2
        generalize str ((s.drop f).take (k - f)) = T at hx hY2
        generalize (s.drop f).take (k - f) = x at hY2 HN HPo
        clear hp hq hr hten hn hJp hJ2 hL hd hw1 HY
        generalize wr.iterAt W.heap.size S (k + 1) = W2 at *
        have HN1 := Lib.hid hn1
        have HPost := HPo
        clear hn1
        obtain ⟨fn, tmps, assign, body, hy, hR⟩ := hY2
        gi_wp2
        refine hR.mono ?_
        rintro e W3 ⟨p', hrn, ⟨rfl, hJ3⟩ | ⟨rfl, hJx3⟩⟩
        · have hit3 := (hrn.same (Array.getElem?_eq_some_iff.1 hit2).1 hpi).trans hit2
          have hB3 : Blk W3 bx 9 #[.string S] := (hrn.same hB2.lt hpb).trans hB2
          have hpi3 := hrn.not (Array.getElem?_eq_some_iff.1 hit2).1 hpi
          have hpb3 := hrn.not hB2.lt hpb
          have hps3 : W3.iterPos W.heap.size = k + 1 := by unfold World.iterPos; rw [hit3]
          clear hit2 hB2 hrn hit hB hy hnx
          gi_wp2
          go_roundw
          case rel => exact ⟨_, k + 1, k + 1, n + 1, rfl, by rw [HN1.out]; simp, rfl, Nat.le_refl _, by omega, HN, p', hJ3, hpi3, hpb3, hit3, hB3⟩
          case measure => rw [hps1, hps3]; omega
        · gi_wp2
          refine bodyPost_ret (results_none rfl _ _ _) rfl ?_
          exact ⟨⟨_, rfl⟩, p', .inr ⟨_, HPost.out, hJx3⟩⟩
      · have HL := Lib.hid (left_byte hL.out hfk hall)
        have hne := ne_bool hp
        have hJ2 := HJ.out pre p _ _ hJp (step_iter (k + w) hit (Nat.le_refl _) hpi)
        have hB2 : Blk (wr.iterAt W.heap.size S (k + w)) bx 9 #[.string S] := (Lib.iterAt_other _ _ _ _ _ (fun e => by subst e; exact absurd (hB.symm.trans hit) (by simp))).trans hB
        have hps3 : (wr.iterAt W.heap.size S (k + w)).iterPos W.heap.size = k + w := by unfold World.iterPos; rw [hit2]
        clear hp hall hJp hL hd HY
        generalize wr.iterAt W.heap.size S (k + w) = W2 at *
        gi_wp2
        go_roundw
        case rel => exact ⟨pre, f, k + w, n, rfl, hn1, rfl, by omega, hw2, HL, p, hJ2, hpi, hpb, hit2, hB2⟩
        case measure => rw [hps1, hps3]; omega
    · have hnx : ∀ ty, (Instr.next (.pointer (some ⟨W.heap.size, 0, none⟩)) true ty).run Tryz.prog wr = _ := fun ty => Lib.run_next_end_at wr W.heap.size S k ty hit (by omega)
      have c2 : wr.cell? ⟨bx, 0, none⟩ = some (.string S) := hB.cell 0
      by_cases hf : f < s.length
      · have hn := left_last hL.out (by omega) hf
        rw [← hn1] at hn
        have hY2 := HY.out pre (n, s.drop f) p _ hJp ⟨hn1, [], hn⟩
        have hx : S.extract f S.size = str (s.drop f) := sl_rest hs.out
        have HN := Lib.hid hn
        have hcnt : pre.length ≤ 140000 := by have := pre_count hn; omega
        have hn14 : n ≤ 140001 := by omega
        have hfS : f < S.size := by omega
        have hle : (0 : Int) ≤ (f : Int) ∧ (f : Int) ≤ (S.size : Int) := ⟨by omega, by omega⟩
        dsimp only [lnV] at hY2
        generalize str (s.drop f) = T at hx hY2
        generalize s.drop f = x at hY2 HN
        clear hn hJp hL HY hn1 hsz
        obtain ⟨fn, tmps, assign, body, hy, hR⟩ := hY2
        gi_wp2
        refine hR.mono ?_
        rintro e W3 ⟨p', hrn, ⟨rfl, hJ3⟩ | ⟨rfl, hJx3⟩⟩
        · gi_wp2
          go_end0
          exact ⟨⟨_, rfl⟩, p', .inl ⟨_, rfl, by rw [HN.out]; exact hJ3⟩⟩
        · gi_wp2
          go_end0
          exact ⟨⟨_, rfl⟩, p', .inr ⟨_, ⟨[], by rw [HN.out]; simp⟩, hJx3⟩⟩
      · have HN := Lib.hid (left_none hL.out (by omega) (by omega))
        have hfS : ¬ f < S.size := by omega
        clear hL HY hsz
        gi_wp2
        go_end0
        exact ⟨⟨_, rfl⟩, p, .inl ⟨_, rfl, by rw [HN.out]; exact hJp⟩⟩

/-- What lines answers: an iterator over its text, in a box of its own. -/
theorem lines_any (S : ByteArray) (w : World) : Calls Tryz.prog 42 #[.string S] w fun e w' =>
    e = .returned (.func (.func 75) #[] #[.pointer (some ⟨w.heap.size, 0, none⟩)]) ∧ w' = w.alloc (.cells #[.string S] 9) := by
  go_enter Tryz.func42, Tryz.ntmps42
  go_wp2
  go_ret
  exact ⟨rfl, rfl⟩

end Go.Proofs.YtifobiajjhknbaaGreatDoor.M

namespace Go.Proofs.YtifobiajjhknbaaGreatDoor.M
open Go.RowKit W

/-- A list of words, of memory that is new. -/
def WordsR (l : List Bs) (w : World) (e : Ending) (w' : World) : Prop :=
  ∃ A c, e = .returned (.slice A l.length c) ∧ Own w' 9 1 (Fresh w) (.slice A l.length c) l.length (sv l) ∧ Keep NoB w w'

end Go.Proofs.YtifobiajjhknbaaGreatDoor.M

namespace Go.Proofs.YtifobiajjhknbaaGreatDoor.M
open Go.RowKit Go.Shelf Go.Lib W

theorem asR_end (r : Nat) : asR endB r = (((r : Int) == 10) || ((r : Int) == 59)) := by
  unfold asR endB
  rw [Bool.eq_iff_iff, Bool.and_eq_true, decide_eq_true_iff, decide_eq_true_iff, Bool.or_eq_true, beq_iff_eq, beq_iff_eq]
  constructor
  · rintro ⟨h, h1 | h1⟩
    · left; have := congrArg UInt8.toNat h1; simp at this; omega
    · right; have := congrArg UInt8.toNat h1; simp at this; omega
  · rintro (h | h)
    · obtain rfl : r = 10 := by omega
      exact ⟨by omega, .inl rfl⟩
    · obtain rfl : r = 59 := by omega
      exact ⟨by omega, .inr rfl⟩
theorem asR_gap (r : Nat) : asR gapB r = (((r : Int) == 32) || ((r : Int) == 9)) := by
  unfold asR gapB
  rw [Bool.eq_iff_iff, Bool.and_eq_true, decide_eq_true_iff, decide_eq_true_iff, Bool.or_eq_true, beq_iff_eq, beq_iff_eq]
  constructor
  · rintro ⟨h, h1 | h1⟩
    · left; have := congrArg UInt8.toNat h1; simp at this; omega
    · right; have := congrArg UInt8.toNat h1; simp at this; omega
  · rintro (h | h)
    · obtain rfl : r = 32 := by omega
      exact ⟨by omega, .inl rfl⟩
    · obtain rfl : r = 9 := by omega
      exact ⟨by omega, .inr rfl⟩
theorem ends_pays (w : World) : PredAt Tryz.prog 38 #[] encR (asR endB) w := fun W r _ => by
  unfold FnGives
  rw [asR_end]
  cases h1 : (r : Int) == 10 <;> cases h2 : (r : Int) == 59
  all_goals
    go_enter Tryz.func38, Tryz.ntmps38
    go_wp2
    go_ret
    exact ⟨rfl, 0, rfl⟩
theorem parts_pays (w : World) : PredAt Tryz.prog 41 #[] encR (asR gapB) w := fun W r _ => by
  unfold FnGives
  rw [asR_gap]
  cases h1 : (r : Int) == 32 <;> cases h2 : (r : Int) == 9
  all_goals
    go_enter Tryz.func41, Tryz.ntmps41
    go_wp2
    go_ret
    exact ⟨rfl, 0, rfl⟩
theorem indexFunc_any (S : ByteArray) (w : World) : Calls Tryz.prog 37 #[.string S, .func (.func 38) #[] #[]] w fun e w' => e = .returned (.int .i64 (idxFunc (asR endB) true S)) ∧ Keep NoB w w' := by
  have H := Tryz.strings_indexFunc 38 #[] (enters_of Tryz.func38 (by kernel_rfl) rfl) (asR endB) true S w (ends_pays w)
  go_enter Tryz.func37, Tryz.ntmps37
  go_wp2_with fail
  refine H.mono ?_
  rintro e w1 ⟨rfl, hb⟩
  go_wp2
  go_ret
  exact ⟨rfl, Keep.of_below hb⟩
theorem clone_any (S : ByteArray) (w : World) (hl : S.size ≤ 140000) : Calls Tryz.prog 40 #[.string S] w fun e w' => e = .returned (.string S) ∧ Keep NoB w w' := by
  have H := Tryz.stringslite_Clone S w (by omega)
  go_enter Tryz.func40, Tryz.ntmps40
  go_wp2_with fail
  refine H.mono ?_
  rintro e w1 ⟨rfl, hb⟩
  go_wp2
  go_ret
  exact ⟨rfl, Keep.of_below hb⟩
theorem fieldsFunc_any (S : ByteArray) (s : Bs) (w : World) (hs : S.data.toList = s) (hno : ∀ c ∈ s, endB c = false) (hl : S.size ≤ 140000) :
    Calls Tryz.prog 39 #[.string S, .func (.func 41) #[] #[]] w (WordsR (wordsL s) w) := by
  have H := Tryz.strings_FieldsFunc 41 #[] (enters_of Tryz.func41 (by kernel_rfl) rfl) (asR gapB) S w (by omega) (parts_pays w)
  rw [fields_words hs hno, List.length_map, List.map_map] at H
  refine H.mono ?_
  rintro e w' ⟨A, rfl, hA, ho, hb⟩
  exact ⟨_, _, rfl, Own.of_row ho (fun k hk => hk), Keep.of_below hb⟩

set_option maxRecDepth 100000 in
set_option maxHeartbeats 2000000 in
theorem words_any (S : ByteArray) (s : Bs) (w : World) (hs : Hid (S.data.toList = s)) (hl : S.size ≤ 140000) :
    Calls Tryz.prog 12 #[.string S] w (WordsR (wordsL s) w) := by
  have H1 := Lib.hid (indexFunc_any S w)
  have hsz := size_of hs.out
  rcases idx_cut low_end hs.out with ⟨h1, h2⟩ | ⟨i, h1, h2, h3⟩
  · rw [h1] at H1
    have hno : ∀ c ∈ s, endB c = false := by rw [← h2]; exact cut_all endB s
    have H2 := Lib.hid (fun W => clone_any S W hl)
    have H3 := Lib.hid (fun W => fieldsFunc_any S s W hs.out hno hl)
    clear h1 h2 hno
    go_enter Tryz.func12, Tryz.ntmps12
    go_wp2_with fail
    refine H1.out.mono ?_
    rintro e w1 ⟨rfl, k1⟩
    go_wp2_with fail
    refine (H2.out _).mono ?_
    rintro e w2 ⟨rfl, k2⟩
    go_wp2_with fail
    refine (H3.out _).mono ?_
    rintro e w3 ⟨A, c, rfl, ho, k3⟩
    go_wp2
    go_ret
    exact ⟨A, c, rfl, ho.mono (fun k hk _ => Nat.le_trans (keepN k1 k2).size hk), keepN (keepN k1 k2) k3⟩
  · rw [h1] at H1
    have hx : S.extract 0 i = str (cutQ endB s) := by rw [extract_of hs.out, h3]; simp
    have hno : ∀ c ∈ cutQ endB s, endB c = false := cut_all endB s
    have hc : (str (cutQ endB s)).data.toList = cutQ endB s := by simp
    have hcl : (str (cutQ endB s)).size ≤ 140000 := by rw [size_of hc, h3, List.length_take]; omega
    have H2 := Lib.hid (fun W => clone_any _ W hcl)
    have H3 := Lib.hid (fun W => fieldsFunc_any _ _ W hc hno hcl)
    rw [words_cut] at H3
    have hi : i < S.size := by omega
    clear h1 h2 hno h3 hc hcl
    generalize str (cutQ endB s) = T at *
    have hb : (0 : Int) ≤ (i : Int) := by omega
    go_enter Tryz.func12, Tryz.ntmps12
    go_wp2_with fail
    refine H1.out.mono ?_
    rintro e w1 ⟨rfl, k1⟩
    go_wp2_with fail
    refine (H2.out _).mono ?_
    rintro e w2 ⟨rfl, k2⟩
    go_wp2_with fail
    refine (H3.out _).mono ?_
    rintro e w3 ⟨A, c, rfl, ho, k3⟩
    go_wp2
    go_ret
    exact ⟨A, c, rfl, ho.mono (fun k hk _ => Nat.le_trans (keepN k1 k2).size hk), keepN (keepN k1 k2) k3⟩

end Go.Proofs.YtifobiajjhknbaaGreatDoor.M

namespace Go.Proofs.YtifobiajjhknbaaGreatDoor.M
open Go.RowKit Go.Shelf W
attribute [local go_sem] Oper.semAt_some

theorem npLen : ∀ l : List Bs, l.length ≤ (joinW l).length + 1
  | [] => Nat.zero_le _
  | [w] => by simp
  | w :: v :: ws => by
    have h := npLen (v :: ws)
    rw [joinW, List.length_append]
    simp only [List.length_cons] at h ⊢
    omega
theorem join_blank : ∀ ws : List Bs, Lib.join ws [32] = joinW ws
  | [] => rfl
  | [w] => Lib.join_one w [32]
  | w :: v :: ws => by
    have ih := join_blank (v :: ws)
    rw [Lib.join_cons] at ih
    rw [Lib.join_cons, joinW, ← ih]
    simp [Lib.joinTail]
theorem joined_any (A : Option Addr) (ws : List Bs) (n c : Nat) (w : World) (hr : Rd w A (sv ws)) (hn : Hid (ws.length = n)) (hc : n ≤ c) (hN : n ≤ 200000) (hl : (joinW ws).length ≤ 200000) :
    Calls Tryz.prog 43 #[.slice A n c] w fun e w' => e = .returned (.string (str (joinW ws))) ∧ Keep NoB w w' := by
  have H : Hid (Calls Tryz.prog 27 #[.slice A n c, .string ⟨#[32]⟩] w fun e w' => e = .returned (.string (str (joinW ws))) ∧ Keep NoB w w') := by
    have hn := hn.out
    subst hn
    by_cases h0 : ws = []
    · subst h0
      refine (Tryz.strings_Join_none A c ⟨#[32]⟩ w).mono ?_
      rintro e w' ⟨rfl, rfl⟩
      exact ⟨rfl, Keep.refl _ _⟩
    · have hpos : 0 < ws.length := by cases ws with | nil => exact absurd rfl h0 | cons _ _ => simp
      obtain ⟨g, off, rfl, hcs⟩ := sv_at hr hpos
      have e1 : (ws.map str).map (·.data.toList) = ws := by rw [List.map_map]; simp [Function.comp_def]
      have hg : g < w.heap.size := by
        have := hcs 0 hpos
        unfold World.cell? at this
        cases hh : w.heap[g]? with
        | none => simp [hh] at this
        | some o => exact (Array.getElem?_eq_some_iff.1 hh).1
      have hJ := Tryz.strings_Join g off c (ws.map str) ⟨#[32]⟩ w (fun j x hx => by
        rw [List.getElem?_map] at hx
        rcases Nat.lt_or_ge j ws.length with hj | hj
        · rw [List.getElem?_eq_getElem hj] at hx
          injection hx with hx
          rw [← hx]
          exact hcs j hj
        · rw [List.getElem?_eq_none hj] at hx; cases hx) hg (by simp; omega) (by simpa using hc) (by rw [e1, show (⟨#[32]⟩ : ByteArray).data.toList = [32] from rfl, join_blank]; omega)
      rw [e1, List.length_map, show (⟨#[32]⟩ : ByteArray).data.toList = [32] from rfl, join_blank] at hJ
      exact hJ.mono (by rintro e w' ⟨rfl, hb⟩; exact ⟨rfl, Keep.of_below hb⟩)
  clear hr hn
  go_enter Tryz.func43, Tryz.ntmps43
  go_wp2_with fail
  refine H.out.mono ?_
  rintro e w1 ⟨rfl, k1⟩
  go_wp2
  go_ret
  exact ⟨rfl, k1⟩
/-- A line feed is written. -/
theorem rune_any (b : Nat) (s : Bs) (w : World) (h : Bld b s w) (hl : s.length ≤ 140737488355000) (hb : b ≤ w.heap.size) :
    Calls Tryz.prog 44 #[.pointer (some ⟨b, 0, none⟩), .int .i32 10] w fun e w' => (∃ u v, e = .returned (.tuple #[u, v])) ∧ Bld b (s ++ [10]) w' ∧ Below b w w' ∧ Lib.OthersKept 5 (some b) w w' := by
  refine (Tryz.Builder_WriteRune_k b b (Lib.byteCells s) 10 (by decide) (by decide) w h (by rw [Lib.byteCells_length]; omega) hb).mono ?_
  rintro e w' ⟨rfl, h1, h2, h3⟩
  have e1 : Lib.runeCells 10 = Lib.byteCells [10] := by kernel_rfl
  rw [e1, ← Lib.byteCells_append] at h1
  exact ⟨⟨_, _, rfl⟩, .inr h1, h2, h3⟩

theorem npBelow {w W W' : World} {b : Nat} (hk : Keep NoB w W) (hb : Below b W W') (h : w.heap.size ≤ b) : Keep NoB w W' :=
  hk.trans (O' := fun k => b ≤ k) ⟨hb.os, hb.tape, hb.output, hb.size, fun k hk hn => hb.block k (by omega)⟩ (fun k hk hl => by omega)
theorem npPut {w W : World} {D : Nat} {o : Obj} (h : Keep NoB w W) (hD : w.heap.size ≤ D) : Keep NoB w (W.putObj D o) := h.grown (grownBy_putObj' W D o) (fun g e hl => by cases e; omega)
/-- Which blocks a builder may change: its own, and bytes that are newer. -/
def bldP (b : Nat) (W : World) : BSet := fun k => k = b ∨ (b ≤ k ∧ ∃ c fz, W.heap[k]? = some (.cells c 5 fz))
theorem bldP_step {B b : Nat} {W W' : World} (h : IStep B (bldP b W) W W') : bldP b W' = bldP b W := by
  funext k
  apply propext
  unfold bldP
  constructor
  · rintro (rfl | ⟨h1, c, fz, h2⟩)
    · exact .inl rfl
    · exact .inr ⟨h1, c, fz, h.cells k _ h2 rfl⟩
  · rintro (rfl | ⟨h1, c, fz, h2⟩)
    · exact .inl rfl
    · exact .inr ⟨h1, c, fz, (h.keep.block k (Array.getElem?_eq_some_iff.1 h2).1 (fun h3 => h3.2 (.inr ⟨h1, c, fz, h2⟩))).trans h2⟩
theorem bldP_rnd {b : Nat} {W W' : World} (h1 : Below b W W') (h2 : Lib.OthersKept 5 (some b) W W') : Rnd (bldP b W) (bldP b W') W W' := by
  have key : ∀ k, k < W.heap.size → ¬ bldP b W k → W'.heap[k]? = W.heap[k]? := by
    intro k hk hn
    by_cases hb : k < b
    · exact h1.block k hb
    · have hne : k ≠ b := fun e => hn (.inl e)
      obtain ⟨o, ho⟩ : ∃ o, W.heap[k]? = some o := ⟨_, Array.getElem?_eq_getElem hk⟩
      rw [ho]
      exact h2 k o ho (by simpa using hne) (fun c fz e => hn (.inr ⟨by omega, c, fz, by rw [ho, e]⟩))
  refine ⟨fun k hk hp => ?_, ⟨h1.os, h1.tape, h1.output, h1.size, key⟩⟩
  apply Classical.byContradiction
  intro hn
  rcases hp with rfl | ⟨h3, c, fz, h4⟩
  · exact hn (.inl rfl)
  · rw [key k hk hn] at h4
    exact hn (.inr ⟨h3, c, fz, h4⟩)
theorem bldP_keep {b : Nat} {W W' : World} (h : Keep NoB W W') : Rnd (bldP b W) (bldP b W') W W' := by
  refine ⟨fun k hk hp => ?_, h.noB⟩
  rcases hp with rfl | ⟨h3, c, fz, h4⟩
  · exact .inl rfl
  · rw [h.block k hk id] at h4
    exact .inr ⟨h3, c, fz, h4⟩
theorem bld_istep {B b : Nat} {s : Bs} {W W' : World} (h : Bld b s W) (hs : IStep B (bldP b W) W W') : Bld b s W' := by
  have key : ∀ {p : Value}, Lib.BuilderAtF 52 5 b b p (Lib.byteCells s) W → Lib.BuilderAtF 52 5 b b p (Lib.byteCells s) W' := by
    rintro p ⟨h1, v, h2, ⟨h3, h4⟩, h5⟩
    have hb := hs.keep.block b (Array.getElem?_eq_some_iff.1 h2).1 (fun h => h.2 (.inl rfl))
    refine ⟨h1, v, hb.trans h2, ⟨h3, ?_⟩, h5⟩
    rcases h4 with h4 | ⟨g, cap, cur, fz, e1, e2, e3, e4⟩
    · exact .inl h4
    · exact .inr ⟨g, cap, cur, fz, e1, e2, (hs.keep.block g (Array.getElem?_eq_some_iff.1 e3).1 (fun h => h.2 (.inr ⟨e2, _, _, e3⟩))).trans e3, e4⟩
  exact h.elim (fun h => .inl (key h)) (fun h => .inr (key h))

/-- The normal text of lines so far. -/
def normT (pre : List (Nat × Bs)) : Bs := pre.flatMap fun x => if wordsL x.2 = [] then [] else joinW (wordsL x.2) ++ [10]
theorem normT_snoc (pre : List (Nat × Bs)) (x : Nat × Bs) : normT (pre ++ [x]) = normT pre ++ (if wordsL x.2 = [] then [] else joinW (wordsL x.2) ++ [10]) := by unfold normT; simp
theorem normT_ones : ∀ (n : Nat) (l : List Bs), normT (numS n l) = flat ((ones n l).map Prod.snd)
  | _, [] => rfl
  | n, s :: r => by
    have ih := normT_ones (n + 1) r
    rw [numS, ones, List.map_append, flat_append, ← ih]
    unfold normT
    rw [List.flatMap_cons]
    congr 1
    by_cases h : wordsL s = []
    · rw [one_none h, if_pos h]; rfl
    · rw [one_some h, if_neg h]; unfold flat; simp
theorem normT_all (s : Bs) : normT (numS 1 (segs s)) = normL s := by rw [normT_ones]; unfold normL; rw [lines_segs]
theorem normT_pre {s : Bs} {pre post : List (Nat × Bs)} (h : numS 1 (segs s) = pre ++ post) : (normT pre).length ≤ s.length + 1 := by
  have h1 := normT_all s
  rw [h] at h1
  have h2 := congrArg List.length h1
  unfold normT at h2 ⊢
  rw [List.flatMap_append, List.length_append] at h2
  have := norm_len s
  omega
theorem line_len {s : Bs} {pre post : List (Nat × Bs)} {x : Nat × Bs} (h : numS 1 (segs s) = pre ++ x :: post) : x.2.length ≤ s.length := by
  have key : ∀ (s cur : Bs), ∀ y ∈ sgo cur s, y.length ≤ cur.length + s.length := by
    intro s
    induction s with
    | nil => intro cur y hy; rw [sgo] at hy; unfold fl at hy; split at hy; cases hy; rw [List.mem_singleton] at hy; subst hy; simp
    | cons c r ih =>
      intro cur y hy
      by_cases hc : c = 10
      · subst hc
        rw [sgo, if_pos rfl, List.mem_cons] at hy
        rcases hy with rfl | hy
        · simp
        · have := ih [] y hy; simp at this ⊢; omega
      · rw [sgo, if_neg hc] at hy
        have := ih (cur ++ [c]) y hy
        simp at this ⊢; omega
  have hx : x ∈ numS 1 (segs s) := by rw [h]; simp
  have hm : ∀ (n : Nat) (l : List Bs), ∀ y ∈ numS n l, y.2 ∈ l := by
    intro n l
    induction l generalizing n with
    | nil => intro y hy; cases hy
    | cons a r ih =>
      intro y hy
      rw [numS, List.mem_cons] at hy
      rcases hy with rfl | hy
      · simp
      · exact List.mem_cons_of_mem _ (ih _ y hy)
  have := key s [] x.2 (hm 1 _ x hx)
  simpa using this
def NormI (w : World) (b : Nat) (pre : List (Nat × Bs)) (p : BSet) (W : World) : Prop := p = bldP b W ∧ Bld b (normT pre) W ∧ Keep NoB w W
theorem normI_out (w : World) (b B : Nat) (h : w.heap.size ≤ B) : KeepsOut B (NormI w b) := by
  rintro pre p W W' ⟨rfl, h1, h2⟩ hs
  exact ⟨(bldP_step hs).symm, bld_istep h1 hs, h2.trans hs.keep (fun k h3 hk => by omega)⟩
theorem bld_lt {b : Nat} {s : Bs} {W : World} (h : Bld b s W) : b < W.heap.size := by
  rcases h with ⟨_, v, h2, _⟩ | ⟨_, v, h2, _⟩ <;> exact (Array.getElem?_eq_some_iff.1 h2).1

set_option maxRecDepth 100000 in
set_option maxHeartbeats 4000000 in
theorem normal_any (S : ByteArray) (s : Bs) (w : World) (hs : Hid (S.data.toList = s)) (hl : S.size ≤ 140000) :
    Calls Tryz.prog 13 #[.string S] w fun e w' => e = .returned (.string (str (normL s))) ∧ Keep NoB w w' := by
  have hb0 := bld_new w
  have hk0 := (Keep.refl NoB w).alloc (.cells #[.pointer none, .slice none 0 0] 52)
  have HLi := Lib.hid (fun W => lines_any S W)
  have HSt := Lib.hid (fun W (h : Bld w.heap.size (normL s) W) => string_any w.heap.size (normL s) W h (Nat.le_of_lt (bld_lt h)))
  have hsz := size_of hs.out
  refine (callsIn_wide (n := 4)).1 ?_
  refine callsIn_of_wp_marks Tryz.func13 rfl trivial ?_ rfl
  simp only [Tryz.ntmps13, List.size_toArray, List.length_cons, List.length_nil, Nat.reduceAdd, Nat.reduceSub, Array.replicate_succ, Array.replicate_zero, List.push_toArray, List.append_toArray, List.nil_append, List.cons_append]
  have hbn := Blk.new (w.alloc (.cells #[.pointer none, .slice none 0 0] 52)) 9 #[.string S]
  simp only [World.size_alloc] at hbn
  have hi0 : NormI w w.heap.size [] (bldP w.heap.size _) _ := ⟨rfl, bld_keep hb0 ((Keep.refl NoB _).alloc (.cells #[.string S] 9)), hk0.alloc (.cells #[.string S] 9)⟩
  have hp0 : ∀ k, bldP w.heap.size ((w.alloc (.cells #[.pointer none, .slice none 0 0] 52)).alloc (.cells #[.string S] 9)) k → k < ((w.alloc (.cells #[.pointer none, .slice none 0 0] 52)).alloc (.cells #[.string S] 9)).heap.size := by
    rintro k (rfl | ⟨_, c, fz, h⟩)
    · simp; omega
    · exact (Array.getElem?_eq_some_iff.1 h).1
  have hpb : ¬ bldP w.heap.size ((w.alloc (.cells #[.pointer none, .slice none 0 0] 52)).alloc (.cells #[.string S] 9)) (w.heap.size + 1) := by
    rintro (h | ⟨_, c, fz, h⟩)
    · omega
    · rw [show _ = _ from hbn] at h; cases h
  clear hb0 hk0
  gi_wp2_with (refine ⟨trivial, ?_⟩; gi_at_call 42; refine (callsIn_wide.2 (HLi.out _)).mono ?_; rintro e w1 ⟨rfl, rfl⟩)
  clear HLi
  generalize hW0 : (w.alloc (.cells #[.pointer none, .slice none 0 0] 52)).alloc (.cells #[.string S] 9) = W0 at *
  have hz0 : W0.heap.size = w.heap.size + 2 := by rw [← hW0]; simp
  clear hW0
  refine wpIn_rangeFunc_mine (m := 2) (gf := 75) (lb := #[.pointer (some ⟨w.heap.size + 1, 0, none⟩)]) rfl (enters_of Tryz.func75 rfl rfl)
    (lines_stops 2 3 (w.heap.size + 1) (by decide) rfl S s hs hl) (fun _ => rfl) (NormI w w.heap.size) (fun _ _ _ _ => False) (normI_out w w.heap.size _ (by omega)) (fun c => by rintro _ _ _ _ h _; exact h) hi0 hp0 hbn hpb
    (fun pre x p a' W => NormI w w.heap.size pre p W ∧ a' = { tmps := #[.string S, undef, .string ⟨#[]⟩, .pointer (some ⟨w.heap.size, 0, none⟩), undef, .string (str x.2), undef, .string S, .func (.func 75) #[] #[.pointer (some ⟨w.heap.size + 1, 0, none⟩)], .int .i64 (x.1 : Int), .string (str x.2), undef, undef, undef, undef, undef, undef, undef, undef, undef, undef], defers := [] }) ?hax ?assign ?body ?done ?stop
  case hax =>
    rintro pre x a' s p X Y ⟨g1, g2⟩ hst
    exact ⟨normI_out w w.heap.size _ (by omega) _ _ _ _ g1 hst, g2⟩
  case assign =>
    rintro l pre x p W hi hen
    gi_wp2
    exact ⟨p, Rnd.refl _ _, hi, trivial⟩
  case body =>
    rintro l pre ⟨n, x⟩ p a' W ⟨_, post, hpost⟩ ⟨⟨rfl, g2, g3⟩, rfl⟩
    have hxl := line_len hpost
    have hnp := normT_pre hpost
    have hsn := normT_snoc pre (n, x)
    dsimp only at hxl hsn ⊢
    have hjl := join_le x
    have hwl : (wordsL x).length ≤ 150000 := by
      have h1 := npLen (wordsL x)
      omega
    have HW := Lib.hid (words_any (str x) x W (Lib.hid (by simp)) (by rw [size_of (S := str x) (s := x) (by simp)]; omega))
    generalize str x = X at HW ⊢
    obtain ⟨ws, hws⟩ : ∃ ws, wordsL x = ws := ⟨_, rfl⟩
    rw [hws] at HW hjl hwl hsn
    obtain ⟨N, hN⟩ : ∃ N, ws.length = N := ⟨_, rfl⟩
    have hwb := bld_lt g2
    by_cases h0 : N = 0
    · have he : ws = [] := List.length_eq_zero_iff.1 (by omega)
      rw [if_pos he, List.append_nil] at hsn
      unfold WordsR at HW
      rw [hN] at HW
      clear hws hN
      gi_wp2_with (refine ⟨trivial, ?_⟩; gi_at_call 12; refine (CallsIn.inRound l (callsIn_wide.2 HW.out)).mono ?_; rintro e w5 ⟨A, c, rfl, ho, k5⟩)
      exact ⟨_, bldP_keep k5, rfl, by rw [hsn]; exact bld_keep g2 k5, keepN g3 k5⟩
    · have he : ws ≠ [] := fun e => h0 (by rw [← hN, e]; rfl)
      rw [if_neg he] at hsn
      unfold WordsR at HW
      rw [hN] at HW
      have HJ := Lib.hid (fun A c (W5 : World) (hr : Rd W5 A (sv ws)) (hc : N ≤ c) => joined_any A ws N c W5 hr (Lib.hid hN) hc (by omega) (by omega))
      have HS := Lib.hid (fun W6 (h : Bld w.heap.size (normT pre) W6) => write_any w.heap.size (normT pre) (joinW ws) (str (joinW ws)) W6 h rfl (by omega) (Nat.le_of_lt (bld_lt h)))
      have HR := Lib.hid (fun W7 (h : Bld w.heap.size (normT pre ++ joinW ws) W7) => rune_any w.heap.size (normT pre ++ joinW ws) W7 h (by rw [List.length_append]; omega) (Nat.le_of_lt (bld_lt h)))
      have hnn : (N : Int) ≠ 0 := by omega
      rw [← List.append_assoc] at hsn
      generalize str (joinW ws) = T at HJ HS
      generalize normT pre ++ joinW ws = t2 at HS HR hsn
      clear hws hN hjl
      gi_wp2_with (refine ⟨trivial, ?_⟩; gi_at_call 12; refine (CallsIn.inRound l (callsIn_wide.2 HW.out)).mono ?_; rintro e w5 ⟨A, c, rfl, ho, k5⟩)
      obtain ⟨A', c', e', hcc, _, hr5, _⟩ := ho.form
      injection e' with e1 e2 e3
      clear e2
      subst e1 e3
      gi_wp2_with (refine ⟨trivial, ?_⟩; gi_at_call 43; refine (CallsIn.inRound l (callsIn_wide.2 (HJ.out A c _ hr5 hcc))).mono ?_; rintro e w6 ⟨rfl, k6⟩)
      gi_wp2_with (refine ⟨trivial, ?_⟩; gi_at_call 19; refine (CallsIn.inRound l (callsIn_wide.2 (HS.out _ (bld_keep g2 (keepN k5 k6))))).mono ?_; rintro e w7 ⟨⟨u, v, rfl⟩, p1, p2, p3⟩)
      gi_wp2_with (refine ⟨trivial, ?_⟩; gi_at_call 44; refine (CallsIn.inRound l (callsIn_wide.2 (HR.out _ p1))).mono ?_; rintro e w8 ⟨⟨u2, v2, rfl⟩, q1, q2, q3⟩)
      exact ⟨_, ((bldP_keep (keepN k5 k6)).trans (bldP_rnd p2 p3)).trans (bldP_rnd q2 q3), rfl, by rw [hsn]; exact q1, npBelow (npBelow (keepN g3 (keepN k5 k6)) p2 (Nat.le_refl _)) q2 (Nat.le_refl _)⟩
  case done =>
    rintro D xs p W hD hpD rfl ⟨rfl, g2, g3⟩ hK
    rw [normT_all] at g2
    have hne : D ≠ w.heap.size := fun e => hpD (.inl e)
    gi_wp2_with (refine ⟨trivial, ?_⟩; gi_at_call 29; refine (callsIn_wide.2 (HSt.out _ g2)).mono ?_; rintro e w9 ⟨rfl, p1, p2, p3⟩)
    have hK9 := p3 D _ hK (by simpa using hne) (fun c fz e => by cases e)
    refine ⟨by simp, .inl ⟨_, _, rfl, run_takeDeferred hK9, ?_⟩⟩
    exact ⟨_, results_tmp rfl _ _ _, rfl, npPut (npBelow g3 p2 (Nat.le_refl _)) (by omega)⟩
  case stop =>
    rintro D c pre p W _ _ _ h _
    exact h.elim

end Go.Proofs.YtifobiajjhknbaaGreatDoor.M

namespace Go.Proofs.YtifobiajjhknbaaGreatDoor.M
open Go.RowKit W I

theorem itoa_any (n : Int) (w : World) (h0 : -9223372036854775808 ≤ n) (h1 : n ≤ 9223372036854775807) (h : W.Laid w) :
    Calls Tryz.prog 23 #[.int .i64 n] w fun e w' => e = .returned (.string (str (Lib.itoa n))) ∧ Keep NoB w w' := by
  refine (Tryz.strconv_Itoa n h0 h1 w h.pow).mono ?_
  rintro e w' ⟨rfl, k, os, rfl⟩
  exact ⟨rfl, Keep.of_below (Go.Lib.below_grow _ w (Nat.le_refl _) k os)⟩
theorem fields_any (ws : List Bs) (w : World) (hv : ∀ x ∈ ws, visW x) (hl : (joinW ws).length ≤ 1000) (ht : Lib.TabIs Tryz.prog w "strings.asciiSpace" .u8 Lib.asciiSpaceTab) :
    Calls Tryz.prog 24 #[.string (str (joinW ws))] w fun e w' => e = .returned (.slice (some ⟨w.heap.size, 0, none⟩) ws.length ws.length) ∧ w' = w.alloc (.cells (sv ws).toArray 9) := by
  have hs : (str (joinW ws)).data.toList = joinW ws := by simp
  refine (Tryz.strings_Fields (str (joinW ws)) w (by rw [size_of hs]; omega) (fun j b hb => by rw [hs] at hb; exact joinW_ascii hv b (List.mem_of_getElem? hb)) ht).mono ?_
  rw [hs, fields_joinW ws hv]
  rintro e w' ⟨rfl, rfl⟩
  exact ⟨rfl, rfl⟩
theorem joinS_any (A : Option Addr) (ws : List Bs) (n c : Nat) (w : World) (hr : Rd w A (sv ws)) (hn : ws.length = n) (hpos : 0 < n) (hc : n ≤ c) (hl : (joinW ws).length ≤ 200000) :
    Calls Tryz.prog 27 #[.slice A n c, .string ⟨#[32]⟩] w fun e w' => e = .returned (.string (str (joinW ws))) ∧ Keep NoB w w' := by
  subst hn
  have hnl := npLen ws
  obtain ⟨g, off, rfl, hcs⟩ := sv_at hr hpos
  have e1 : (ws.map str).map (·.data.toList) = ws := by rw [List.map_map]; simp [Function.comp_def]
  have hg : g < w.heap.size := World.block_lt_of_cell? _ _ (hcs 0 hpos)
  have hJ := Tryz.strings_Join g off c (ws.map str) ⟨#[32]⟩ w (fun j x hx => by
    rw [List.getElem?_map] at hx
    rcases Nat.lt_or_ge j ws.length with hj | hj
    · rw [List.getElem?_eq_getElem hj] at hx
      injection hx with hx
      rw [← hx]
      exact hcs j hj
    · rw [List.getElem?_eq_none hj] at hx; cases hx) hg (by simp; omega) (by simpa using hc) (by rw [e1, show (⟨#[32]⟩ : ByteArray).data.toList = [32] from rfl, join_blank]; omega)
  rw [e1, List.length_map, show (⟨#[32]⟩ : ByteArray).data.toList = [32] from rfl, join_blank] at hJ
  exact hJ.mono (by rintro e w' ⟨rfl, hb⟩; exact ⟨rfl, Keep.of_below hb⟩)
/-- The line of an instruction that goes somewhere. -/
theorem jmp_words {x : C.I3} (h : C.gB x = true) : wordsX x = [(O.rowAt x.1).name, Lib.itoa x.2.1] ∧ itL x = [(O.rowAt x.1).name, 76 :: Lib.itoa x.2.1] := by
  obtain ⟨h1, h2⟩ := C.gB_ka h
  refine ⟨?_, by unfold itL; rw [if_pos h]; rfl⟩
  have h3 : (O.rowAt x.1).kb = 0 := by
    have := O.rowAt_all (p := fun r => decide (r.ka = 10 → r.kb = 0)) (by decide) (by decide) x.1
    exact of_decide_eq_true this h2
  unfold wordsX wordP O.word
  rw [h2, h3]
  rfl

end Go.Proofs.YtifobiajjhknbaaGreatDoor.M

namespace Go.Proofs.YtifobiajjhknbaaGreatDoor.M
open Go.RowKit

/-- A name that was noted: what is asked of it: 0 nothing (a label twice), 1 a label's place, 2 a function's number. -/
structure Mn where
  ln : Nat
  fn : Nat
  pl : Nat
  s : Bs
  k : Nat
abbrev Pl := Bs → Option Nat
/-- What a store of one makes of it. -/
def setP (f : Pl) (x : Bs) (v : Nat) : Pl := fun y => if y = x then some v else f y
/-- What was read so far, as the reader keeps it. -/
structure PS where
  im : I.Im
  last : Nat
  nums : Pl
  labs : List (List Bs × Pl)
  ms : List Mn
/-- A function's labels, none yet. -/
def lb0 : List Bs × Pl := ([], fun _ => none)
def ps0 : PS := ⟨I.nilI, 0, fun _ => none, [], []⟩
def lastFn (p : PS) : F.Fu := p.im.fn.getLast?.getD ⟨[], [], [], [], []⟩
def lastLb (p : PS) : List Bs × Pl := p.labs.getLast?.getD lb0

def pShape (p : PS) (ws : List Bs) : Option PS := match ws with
  | [a, b] => if p.last = 0 ∧ a = shapeW then (S.rdS b).map fun x => PS.mk ⟨p.im.sh ++ [x], p.im.fn⟩ 0 p.nums p.labs p.ms else none
  | _ => none
def numsP (p : PS) (b : Bs) : Pl := if (p.nums b).isSome then p.nums else setP p.nums b p.im.fn.length
def pFunc (p : PS) (ws : List Bs) : Option PS := match ws with
  | [a, b, c] => if a = funcW ∧ F.okN b = true then (S.rdG c).map fun (g : List Int × List Int) => PS.mk ⟨p.im.sh, p.im.fn ++ [⟨b, g.1, g.2, [], []⟩]⟩ 1 (numsP p b) (p.labs ++ [lb0]) p.ms else none
  | _ => none
def pLocal (p : PS) (ws : List Bs) : Option PS := match ws with
  | [a, b] => if p.last = 1 ∧ a = localW then (W.untxt b).map fun t => PS.mk ⟨p.im.sh, upd (fun f => { f with lc := t }) p.im.fn⟩ 2 p.nums p.labs p.ms else none
  | _ => none
/-- A label is noted. -/
def pDef (p : PS) (ln : Nat) (s : Bs) : PS :=
  if ((lastLb p).2 s).isSome then ⟨p.im, p.last, p.nums, p.labs, p.ms ++ [⟨ln, 0, 0, s, 0⟩]⟩
  else ⟨p.im, p.last, p.nums, upd (fun l => (l.1 ++ [s], setP l.2 s (lastFn p).bd.length)) p.labs, p.ms⟩
def PS.to (p : PS) (k : Nat) : PS := ⟨p.im, k, p.nums, p.labs, p.ms⟩
def pLabel (p : PS) (ln : Nat) (ws : List Bs) : Option PS := match ws with
  | [a] => if 1 ≤ p.last ∧ a.getLast? = some 58 ∧ F.okN a.dropLast = true then some ((pDef p ln a.dropLast).to 3) else none
  | _ => none
def addX (p : PS) (x : C.I3) (ms : List Mn) : PS := ⟨⟨p.im.sh, upd (fun f => { f with bd := f.bd ++ [x] }) p.im.fn⟩, 4, p.nums, p.labs, ms⟩
/-- The op and the kind of an instruction that bears a name; the name. -/
def pNamed (ws : List Bs) : Option (Nat × Bs) := match ws with
  | [a, b] => if F.okN b = true then (match ofA a with | some op => if kindA (op : Int) ≠ 0 then some (op, b) else none | none => none) else none
  | _ => none
def pInstr (p : PS) (ln : Nat) (ws : List Bs) : Option PS := if 1 ≤ p.last then (match rdA (joinW ws) with
  | some x => some (addX p x p.ms)
  | none => match pNamed ws with
    | some (op, b) => some (addX p ((op : Int), 0, 0) (p.ms ++ [⟨ln, p.im.fn.length - 1, (lastFn p).bd.length, b, kindA (op : Int)⟩]))
    | none => none) else none
def pStep (p : PS) (l : Ln) : Option PS := (pShape p l.2).or ((pFunc p l.2).or ((pLocal p l.2).or ((pLabel p l.1 l.2).or (pInstr p l.1 l.2))))
def pRun (p : PS) : List Ln → PS ⊕ Nat
  | [] => .inl p
  | l :: r => match pStep p l with
    | none => .inr l.1
    | some p' => pRun p' r
/-- The numbers that a noted name is looked up in. -/
def amongP (p : PS) (m : Mn) : Option Nat := if m.k = 0 then none else if m.k = 1 then (p.labs[m.fn]?).bind (fun l => l.2 m.s) else p.nums m.s
def wrongM (m : Mn) : Int := if m.k = 2 then 92 else 91
def putM (m : Mn) (v : Nat) (fn : List F.Fu) : List F.Fu := fn.modify m.fn fun f => { f with bd := f.bd.modify m.pl (putB (v : Int)) }
def pSettle (p : PS) (fn : List F.Fu) : List Mn → List F.Fu ⊕ (Nat × Int)
  | [] => .inl fn
  | m :: r => match amongP p m with
    | none => .inr (m.ln, wrongM m)
    | some v => pSettle p (putM m v fn) r

/-! ### It says what the lines say -/

/-- Labels of a function, each once. -/
def firsts (fn : Nat) : List Nm → List Nm → List Bs
  | _, [] => []
  | pre, x :: r => if x.lb = true ∧ x.fn = fn ∧ again pre x = false then x.s :: firsts fn (pre ++ [x]) r else firsts fn (pre ++ [x]) r
/-- What is noted of names. -/
def notes (fn : List F.Fu) : List Nm → List Nm → List Mn
  | _, [] => []
  | pre, x :: r => (if x.lb = true then (if again pre x = true then [⟨x.ln, 0, 0, x.s, 0⟩] else []) else [⟨x.ln, x.fn, x.pl, x.s, kindA (opAt fn x)⟩]) ++ notes fn (pre ++ [x]) r
theorem firsts_append (fn : Nat) : ∀ (r : List Nm) (pre : List Nm) (x : Nm), firsts fn pre (r ++ [x]) = firsts fn pre r ++ (if x.lb = true ∧ x.fn = fn ∧ again (pre ++ r) x = false then [x.s] else [])
  | [], pre, x => by rw [List.nil_append, firsts, firsts, List.append_nil, firsts]; split <;> rfl
  | y :: r, pre, x => by
    rw [List.cons_append, firsts, firsts, firsts_append fn r (pre ++ [y]) x, List.append_assoc, List.singleton_append]
    split <;> simp
theorem notes_append (fn : List F.Fu) : ∀ (r : List Nm) (pre : List Nm) (x : Nm), notes fn pre (r ++ [x]) = notes fn pre r ++ (if x.lb = true then (if again (pre ++ r) x = true then [⟨x.ln, 0, 0, x.s, 0⟩] else []) else [⟨x.ln, x.fn, x.pl, x.s, kindA (opAt fn x)⟩])
  | [], pre, x => by rw [List.nil_append, notes, notes, notes, List.append_nil, List.append_nil, List.nil_append]
  | y :: r, pre, x => by
    rw [List.cons_append, notes, notes, notes_append fn r (pre ++ [y]) x, List.append_assoc pre, List.singleton_append, List.append_assoc]
theorem notes_same {fn fn' : List F.Fu} : ∀ (r pre : List Nm), (∀ x ∈ r, x.lb = false → opAt fn' x = opAt fn x) → notes fn' pre r = notes fn pre r
  | [], pre, h => rfl
  | x :: r, pre, h => by
    rw [notes, notes, notes_same r (pre ++ [x]) (fun y hy => h y (List.mem_cons_of_mem _ hy))]
    congr 1
    split
    · rfl
    · rename_i hx
      rw [h x (by simp) (by simpa using hx)]
theorem again_place {ns : List Nm} {x : Nm} : again ns x = (placeOf ns x.fn x.s).isSome := by
  unfold again placeOf
  rw [Option.isSome_map]
  induction ns with
  | nil => rfl
  | cons y r ih => rw [List.any_cons, List.find?_cons]; split <;> simp_all
theorem placeOf_append (ns : List Nm) (x : Nm) (fn : Nat) (s : Bs) : placeOf (ns ++ [x]) fn s = if (placeOf ns fn s).isSome then placeOf ns fn s else if x.lb = true ∧ x.fn = fn ∧ x.s = s then some x.pl else none := by
  unfold placeOf
  rw [List.find?_append]
  cases h : ns.find? fun y => y.lb && (decide (y.fn = fn) && decide (y.s = s)) with
  | some y => rfl
  | none =>
    simp only [Option.map_none, Option.none_or, Option.isSome_none, List.find?_singleton]
    split
    · rename_i hc
      rw [Bool.and_eq_true, Bool.and_eq_true, decide_eq_true_iff, decide_eq_true_iff] at hc
      simp [hc]
    · rename_i hc
      rw [Bool.and_eq_true, Bool.and_eq_true, decide_eq_true_iff, decide_eq_true_iff] at hc
      simp [hc]

end Go.Proofs.YtifobiajjhknbaaGreatDoor.M

namespace Go.Proofs.YtifobiajjhknbaaGreatDoor.M
open Go.RowKit

/-- The tries of a line, in their order. -/
def tryP (k : Nat) (p : PS) (l : Ln) : Option PS := match k with
  | 0 => pShape p l.2
  | 1 => pFunc p l.2
  | 2 => pLocal p l.2
  | 3 => pLabel p l.1 l.2
  | _ => pInstr p l.1 l.2
theorem step_none {p : PS} {l : Ln} (h : ∀ i, i < 5 → tryP i p l = none) : pStep p l = none := by
  have h0 : pShape p l.2 = none := h 0 (by omega)
  have h1 : pFunc p l.2 = none := h 1 (by omega)
  have h2 : pLocal p l.2 = none := h 2 (by omega)
  have h3 : pLabel p l.1 l.2 = none := h 3 (by omega)
  have h4 : pInstr p l.1 l.2 = none := h 4 (by omega)
  unfold pStep
  rw [h0, h1, h2, h3, h4]; rfl
theorem step_at_try {p p' : PS} {l : Ln} {k : Nat} (hk : k < 5) (h : ∀ i, i < k → tryP i p l = none) (hp : tryP k p l = some p') : pStep p l = some p' := by
  unfold pStep
  match k, hk with
  | 0, _ =>
    have hp : pShape p l.2 = some p' := hp
    rw [hp]; rfl
  | 1, _ =>
    have h0 : pShape p l.2 = none := h 0 (by omega)
    have hp : pFunc p l.2 = some p' := hp
    rw [h0, hp]; rfl
  | 2, _ =>
    have h0 : pShape p l.2 = none := h 0 (by omega)
    have h1 : pFunc p l.2 = none := h 1 (by omega)
    have hp : pLocal p l.2 = some p' := hp
    rw [h0, h1, hp]; rfl
  | 3, _ =>
    have h0 : pShape p l.2 = none := h 0 (by omega)
    have h1 : pFunc p l.2 = none := h 1 (by omega)
    have h2 : pLocal p l.2 = none := h 2 (by omega)
    have hp : pLabel p l.1 l.2 = some p' := hp
    rw [h0, h1, h2, hp]; rfl
  | 4, _ =>
    have h0 : pShape p l.2 = none := h 0 (by omega)
    have h1 : pFunc p l.2 = none := h 1 (by omega)
    have h2 : pLocal p l.2 = none := h 2 (by omega)
    have h3 : pLabel p l.1 l.2 = none := h 3 (by omega)
    have hp : pInstr p l.1 l.2 = some p' := hp
    rw [h0, h1, h2, h3, hp]; rfl
theorem pShape_last {p p' : PS} {ws : List Bs} (h : pShape p ws = some p') : p'.last = 0 := by
  unfold pShape at h
  split at h
  · split at h
    · obtain ⟨x, _, rfl⟩ := Option.map_eq_some_iff.1 h; rfl
    · cases h
  · cases h
theorem pFunc_last {p p' : PS} {ws : List Bs} (h : pFunc p ws = some p') : p'.last = 1 ∧ p'.im.fn ≠ [] := by
  unfold pFunc at h
  split at h
  · split at h
    · obtain ⟨x, _, rfl⟩ := Option.map_eq_some_iff.1 h; exact ⟨rfl, by simp⟩
    · cases h
  · cases h
theorem upd_ne {α : Type} {g : α → α} {l : List α} (h : l ≠ []) : upd g l ≠ [] := by
  match l with
  | [x] => simp [upd]
  | x :: y :: r => simp [upd]
theorem pLocal_last {p p' : PS} {ws : List Bs} (h : pLocal p ws = some p') : p'.last = 2 ∧ ((1 ≤ p.last → p.im.fn ≠ []) → p'.im.fn ≠ []) := by
  unfold pLocal at h
  split at h
  · split at h
    · rename_i hc
      obtain ⟨x, _, rfl⟩ := Option.map_eq_some_iff.1 h; exact ⟨rfl, fun hg => upd_ne (hg (by omega))⟩
    · cases h
  · cases h
theorem pLabel_last {p p' : PS} {n : Nat} {ws : List Bs} (h : pLabel p n ws = some p') : p'.last = 3 ∧ ((1 ≤ p.last → p.im.fn ≠ []) → p'.im.fn ≠ []) := by
  unfold pLabel at h
  split at h
  · split at h
    · rename_i hc
      injection h with h
      subst h
      refine ⟨rfl, fun hg => ?_⟩
      have := hg hc.1
      unfold pDef
      split <;> exact this
    · cases h
  · cases h
theorem pInstr_last {p p' : PS} {n : Nat} {ws : List Bs} (h : pInstr p n ws = some p') : p'.last = 4 ∧ ((1 ≤ p.last → p.im.fn ≠ []) → p'.im.fn ≠ []) := by
  unfold pInstr at h
  split at h
  · rename_i hc
    split at h
    · injection h with h
      subst h
      exact ⟨rfl, fun hg => upd_ne (hg hc)⟩
    · split at h
      · injection h with h
        subst h
        exact ⟨rfl, fun hg => upd_ne (hg hc)⟩
      · cases h
  · cases h
theorem try_last {k : Nat} {p p' : PS} {l : Ln} (hk : k < 5) (h : tryP k p l = some p') (hg : 1 ≤ p.last → p.im.fn ≠ []) : p'.to k = p' ∧ (1 ≤ p'.last → p'.im.fn ≠ []) := by
  unfold tryP at h
  have key : ∀ k', p'.last = k' → p'.to k' = p' := fun k' h => by subst h; rfl
  match k, hk with
  | 0, _ => have h1 := pShape_last h; exact ⟨key _ h1, fun h2 => by omega⟩
  | 1, _ => have h1 := pFunc_last h; exact ⟨key _ h1.1, fun _ => h1.2⟩
  | 2, _ => have h1 := pLocal_last h; exact ⟨key _ h1.1, fun _ => h1.2 hg⟩
  | 3, _ => have h1 := pLabel_last h; exact ⟨key _ h1.1, fun _ => h1.2 hg⟩
  | 4, _ => have h1 := pInstr_last h; exact ⟨key _ h1.1, fun _ => h1.2 hg⟩
theorem pRun_append (b : List Ln) : ∀ (a : List Ln) (p : PS), pRun p (a ++ b) = match pRun p a with | .inl q => pRun q b | .inr n => .inr n
  | [], p => rfl
  | l :: a, p => by
    rw [List.cons_append, pRun, pRun]
    cases pStep p l with
    | none => rfl
    | some p' => exact pRun_append b a p'
/-- The lines that have words. -/
def lnsOf (pre : List (Nat × Bs)) : List Ln := pre.flatMap fun x => one x.1 x.2
theorem lnsOf_append (a b : List (Nat × Bs)) : lnsOf (a ++ b) = lnsOf a ++ lnsOf b := by unfold lnsOf; simp
theorem lnsOf_snoc (pre : List (Nat × Bs)) (x : Nat × Bs) : lnsOf (pre ++ [x]) = lnsOf pre ++ one x.1 x.2 := by unfold lnsOf; simp
theorem lnsOf_ones : ∀ (n : Nat) (l : List Bs), lnsOf (numS n l) = ones n l
  | _, [] => rfl
  | n, s :: r => by
    have ih := lnsOf_ones (n + 1) r
    rw [numS, ones, ← ih]; rfl
theorem lnsOf_all (s : Bs) : lnsOf (numS 1 (segs s)) = linesL s := by rw [lnsOf_ones, ← lines_segs]
theorem run_stop {s : Bs} {pre post : List (Nat × Bs)} {n : Nat} (h : numS 1 (segs s) = pre ++ post) (hr : pRun ps0 (lnsOf pre) = .inr n) : pRun ps0 (linesL s) = .inr n := by
  rw [← lnsOf_all, h, lnsOf_append, pRun_append, hr]
theorem run_skip {pre : List (Nat × Bs)} {x : Nat × Bs} {q : PS} (h : pRun ps0 (lnsOf pre) = .inl q) (hx : wordsL x.2 = []) : pRun ps0 (lnsOf (pre ++ [x])) = .inl q := by
  rw [lnsOf_snoc, one_none hx, List.append_nil, h]
theorem run_next {pre : List (Nat × Bs)} {x : Nat × Bs} {q q' : PS} (h : pRun ps0 (lnsOf pre) = .inl q) (hx : wordsL x.2 ≠ []) (hq : pStep q (x.1, wordsL x.2) = some q') : pRun ps0 (lnsOf (pre ++ [x])) = .inl q' := by
  rw [lnsOf_snoc, one_some hx, pRun_append, h]
  dsimp only
  rw [pRun, hq]; rfl
theorem run_bad {pre : List (Nat × Bs)} {x : Nat × Bs} {q : PS} (h : pRun ps0 (lnsOf pre) = .inl q) (hx : wordsL x.2 ≠ []) (hq : pStep q (x.1, wordsL x.2) = none) : pRun ps0 (lnsOf (pre ++ [x])) = .inr x.1 := by
  rw [lnsOf_snoc, one_some hx, pRun_append, h]
  dsimp only
  rw [pRun, hq]

end Go.Proofs.YtifobiajjhknbaaGreatDoor.M

namespace Go.Proofs.YtifobiajjhknbaaGreatDoor.M
open Go.RowKit

theorem last_split {α : Type} {l : List α} (h : l ≠ []) : ∃ i x, l = i ++ [x] := ⟨l.dropLast, l.getLast h, (List.dropLast_concat_getLast h).symm⟩
theorem upd_length {α : Type} (g : α → α) : ∀ l : List α, (upd g l).length = l.length
  | [] => rfl
  | [_] => rfl
  | x :: y :: r => by rw [upd, List.length_cons, upd_length g (y :: r), List.length_cons, List.length_cons, List.length_cons]
theorem upd_mem {α : Type} {g : α → α} {l : List α} {y : α} (h : y ∈ upd g l) : y ∈ l ∨ ∃ x ∈ l, y = g x := by
  by_cases h0 : l = []
  · subst h0; cases h
  · obtain ⟨i, x, rfl⟩ := last_split h0
    rw [upd_append] at h
    rcases List.mem_append.1 h with h | h
    · exact .inl (List.mem_append_left _ h)
    · exact .inr ⟨x, by simp, List.mem_singleton.1 h⟩
theorem upd_get {α : Type} {g : α → α} {l : List α} {i : Nat} {x : α} (h : l[i]? = some x) : (upd g l)[i]? = some x ∨ (upd g l)[i]? = some (g x) := by
  have h0 : l ≠ [] := by rintro rfl; cases h
  obtain ⟨j, y, rfl⟩ := last_split h0
  rw [upd_append]
  rcases Nat.lt_or_ge i j.length with hi | hi
  · rw [List.getElem?_append_left hi] at h ⊢; exact .inl h
  · rw [List.getElem?_append_right hi] at h ⊢
    cases hk : i - j.length with
    | zero => rw [hk] at h; right; cases h; rfl
    | succ k => rw [hk] at h; cases h

theorem pNamed_len {ws : List Bs} {op : Nat} {b : Bs} (h : pNamed ws = some (op, b)) : b.length ≤ 32 := by
  unfold pNamed at h
  split at h
  · split at h
    · rename_i hk
      split at h
      · split at h
        · injection h with h
          injection h with _ h
          subst h
          exact ((_root_.Go.Proofs.YtifobiajjhknbaaGreatDoor.F.okN_iff _).1 hk).1
        · cases h
      · cases h
    · cases h
  · cases h
/-- What the reader notes, of so many lines. -/
structure GP (p : PS) (L : Nat) : Prop where
  ok : 1 ≤ p.last → p.im.fn ≠ []
  bd : ∀ f ∈ p.im.fn, f.bd.length ≤ L
  fn : p.im.fn.length ≤ L
  lf : p.labs.length = p.im.fn.length
  nu : ∀ s v, p.nums s = some v → v ≤ L
  la : ∀ l ∈ p.labs, ∀ s v, l.2 s = some v → v ≤ L
  ms : ∀ m ∈ p.ms, m.k ≠ 0 → ∃ f, p.im.fn[m.fn]? = some f ∧ m.pl < f.bd.length
  sz : ∀ m ∈ p.ms, m.s.length ≤ 32
theorem GP.start : GP ps0 0 where
  ok h := absurd h (by decide)
  bd f hf := (List.not_mem_nil hf).elim
  fn := Nat.le_refl _
  lf := rfl
  nu s v h := by cases h
  la l hl := (List.not_mem_nil hl).elim
  ms m hm := (List.not_mem_nil hm).elim
  sz m hm := (List.not_mem_nil hm).elim
theorem GP.more {p : PS} {L : Nat} (h : GP p L) : GP p (L + 1) :=
  { h with bd := fun f hf => Nat.le_succ_of_le (h.bd f hf), fn := Nat.le_succ_of_le h.fn, nu := fun s v hv => Nat.le_succ_of_le (h.nu s v hv), la := fun l hl s v hv => Nat.le_succ_of_le (h.la l hl s v hv) }
theorem GP.shape {p p' : PS} {L : Nat} {ws : List Bs} (h : GP p L) (hs : pShape p ws = some p') : GP p' (L + 1) := by
  unfold pShape at hs
  split at hs
  · split at hs
    · obtain ⟨x, _, rfl⟩ := Option.map_eq_some_iff.1 hs
      exact { h.more with ok := fun (h2 : 1 ≤ 0) => by omega }
    · cases hs
  · cases hs
theorem GP.func {p p' : PS} {L : Nat} {ws : List Bs} (h : GP p L) (hs : pFunc p ws = some p') : GP p' (L + 1) := by
  unfold pFunc at hs
  split at hs
  · split at hs
    · obtain ⟨x, _, rfl⟩ := Option.map_eq_some_iff.1 hs
      refine ⟨fun _ => by simp, fun f hf => ?_, by have := h.fn; simp; omega, by have := h.lf; simp; omega, fun s v hv => ?_, fun l hl s v hv => ?_, fun m hm hk => ?_, h.sz⟩
      · rcases List.mem_append.1 hf with hf | hf
        · have := h.bd f hf; omega
        · rw [List.mem_singleton.1 hf]; exact Nat.zero_le _
      · have hf := h.fn
        have hn := h.nu s v
        dsimp only [numsP] at hv
        split at hv
        · have := hn hv; omega
        · unfold setP at hv
          split at hv
          · cases hv; omega
          · have := hn hv; omega
      · rcases List.mem_append.1 hl with hl | hl
        · have := h.la l hl s v hv; omega
        · rw [List.mem_singleton.1 hl] at hv; cases hv
      · obtain ⟨f, h1, h2⟩ := h.ms m hm hk
        exact ⟨f, by
          rw [List.getElem?_append_left (List.getElem?_eq_some_iff.1 h1).1]; exact h1, h2⟩
    · cases hs
  · cases hs
theorem GP.updF {p : PS} {L : Nat} {g : F.Fu → F.Fu} {k : Nat} {nums : Pl} {ms : List Mn} (h : GP p L) (h0 : p.im.fn ≠ []) (hg : ∀ f, f.bd.length ≤ (g f).bd.length ∧ (g f).bd.length ≤ f.bd.length + 1)
    (hn : ∀ s v, nums s = some v → v ≤ L + 1) (hz : ∀ m ∈ ms, m.s.length ≤ 32) (hm : ∀ m ∈ ms, m ∈ p.ms ∨ (m.k ≠ 0 → ∃ f, (M.upd g p.im.fn)[m.fn]? = some f ∧ m.pl < f.bd.length)) : GP ⟨⟨p.im.sh, M.upd g p.im.fn⟩, k, nums, p.labs, ms⟩ (L + 1) := by
  refine ⟨fun _ => upd_ne h0, fun f hf => ?_, by have := h.fn; rw [upd_length]; omega, by rw [upd_length]; exact h.lf, hn, fun l hl s v hv => by have := h.la l hl s v hv; omega, fun m hm2 hk => ?_, hz⟩
  · rcases upd_mem hf with hf | ⟨x, hx, rfl⟩
    · have := h.bd f hf; omega
    · have := h.bd x hx; have := (hg x).2; omega
  · rcases hm m hm2 with h3 | h3
    · obtain ⟨f, h1, h2⟩ := h.ms m h3 hk
      rcases upd_get (g := g) h1 with h4 | h4
      · exact ⟨f, h4, h2⟩
      · exact ⟨g f, h4, Nat.lt_of_lt_of_le h2 (hg f).1⟩
    · exact h3 hk
theorem GP.local_ {p p' : PS} {L : Nat} {ws : List Bs} (h : GP p L) (hs : pLocal p ws = some p') : GP p' (L + 1) := by
  unfold pLocal at hs
  split at hs
  · split at hs
    · rename_i hc
      obtain ⟨x, _, rfl⟩ := Option.map_eq_some_iff.1 hs
      exact h.updF (h.ok (by omega)) (fun f => ⟨Nat.le_refl _, Nat.le_succ _⟩) (fun s v hv => by have := h.nu s v hv; omega) h.sz (fun m hm => .inl hm)
    · cases hs
  · cases hs
theorem GP.last {p : PS} {L : Nat} (h : GP p L) (h0 : p.im.fn ≠ []) : (lastFn p).bd.length ≤ L ∧ (∃ i x, p.im.fn = i ++ [x] ∧ lastFn p = x) := by
  obtain ⟨i, x, e⟩ := last_split h0
  have e2 : lastFn p = x := by unfold lastFn; rw [e]; simp
  exact ⟨by rw [e2]; exact h.bd x (by rw [e]; simp), i, x, e, e2⟩
theorem GP.label {p p' : PS} {L n : Nat} {ws : List Bs} (h : GP p L) (hs : pLabel p n ws = some p') : GP p' (L + 1) := by
  unfold pLabel at hs
  split at hs
  · split at hs
    · rename_i hc
      injection hs with hs
      subst hs
      have h0 := h.ok hc.1
      obtain ⟨hl, _⟩ := h.last h0
      have hla : ∀ a : Bs, ∀ l ∈ upd (fun l : List Bs × Pl => (l.1 ++ [a], setP l.2 a (lastFn p).bd.length)) p.labs, ∀ s v, l.2 s = some v → v ≤ L + 1 := fun a l hl2 s v hv => by
        rcases upd_mem hl2 with hl3 | ⟨x, hx, rfl⟩
        · have := h.la l hl3 s v hv; omega
        · dsimp only [setP] at hv
          split at hv
          · cases hv; omega
          · have := h.la x hx s v hv; omega
      unfold pDef
      split
      · exact { h.more with ok := fun _ => h0, ms := fun m hm hk => (List.mem_append.1 hm).elim (fun hm => h.ms m hm hk) (fun hm => absurd (by rw [List.mem_singleton.1 hm]) hk), sz := fun m hm => (List.mem_append.1 hm).elim (h.sz m) (fun hm => by rw [List.mem_singleton.1 hm]; exact ((_root_.Go.Proofs.YtifobiajjhknbaaGreatDoor.F.okN_iff _).1 hc.2.2).1) }
      · exact { h.more with ok := fun _ => h0, lf := (upd_length _ _).trans h.lf, la := hla _ }
    · cases hs
  · cases hs
theorem GP.instr {p p' : PS} {L n : Nat} {ws : List Bs} (h : GP p L) (hs : pInstr p n ws = some p') : GP p' (L + 1) := by
  unfold pInstr at hs
  split at hs
  · rename_i hc
    have h0 := h.ok hc
    have hn := fun s v hv => Nat.le_succ_of_le (h.nu s v hv)
    split at hs
    · injection hs with hs
      subst hs
      exact h.updF h0 (fun f => ⟨by simp, by simp⟩) hn h.sz (fun m hm => .inl hm)
    · split at hs
      · rename_i op b hpn
        injection hs with hs
        subst hs
        refine h.updF h0 (fun f => ⟨by simp, by simp⟩) hn (fun m hm => (List.mem_append.1 hm).elim (h.sz m) (fun hm => by rw [List.mem_singleton.1 hm]; exact pNamed_len hpn)) (fun m hm => ?_)
        rcases List.mem_append.1 hm with hm | hm
        · exact .inl hm
        · refine .inr fun _ => ?_
          rw [List.mem_singleton.1 hm]
          obtain ⟨_, i, x, e, e2⟩ := h.last h0
          rw [e2, e, upd_append]
          exact ⟨{ x with bd := x.bd ++ [((op : Int), 0, 0)] }, by simp, by simp⟩
      · cases hs
  · cases hs
theorem step_try {p p' : PS} {l : Ln} (h : pStep p l = some p') : ∃ k, k < 5 ∧ tryP k p l = some p' := by
  apply Classical.byContradiction
  intro hn
  have hall : ∀ k, k < 5 → ∀ x, tryP k p l = some x → x ≠ p' := fun k hk x hx e => hn ⟨k, hk, e ▸ hx⟩
  unfold pStep at h
  rcases Option.or_eq_some_iff.1 h with h | ⟨_, h⟩
  · exact hall 0 (by omega) _ h rfl
  rcases Option.or_eq_some_iff.1 h with h | ⟨_, h⟩
  · exact hall 1 (by omega) _ h rfl
  rcases Option.or_eq_some_iff.1 h with h | ⟨_, h⟩
  · exact hall 2 (by omega) _ h rfl
  rcases Option.or_eq_some_iff.1 h with h | ⟨_, h⟩
  · exact hall 3 (by omega) _ h rfl
  · exact hall 4 (by omega) _ h rfl
theorem GP.step {p p' : PS} {L : Nat} {l : Ln} (h : GP p L) (hs : pStep p l = some p') : GP p' (L + 1) := by
  obtain ⟨k, hk, ht⟩ := step_try hs
  match k, hk with
  | 0, _ => exact h.shape ht
  | 1, _ => exact h.func ht
  | 2, _ => exact h.local_ ht
  | 3, _ => exact h.label ht
  | 4, _ => exact h.instr ht
theorem GP.run : ∀ (ls : List Ln) {p q : PS} {L : Nat}, GP p L → pRun p ls = .inl q → GP q (L + ls.length)
  | [], p, q, L, h, hr => by cases hr; exact h
  | l :: r, p, q, L, h, hr => by
    rw [pRun] at hr
    cases hs : pStep p l with
    | none => rw [hs] at hr; cases hr
    | some p' =>
      rw [hs] at hr
      have := GP.run r (h.step hs) hr
      rw [List.length_cons, show L + (r.length + 1) = L + 1 + r.length by omega]
      exact this

end Go.Proofs.YtifobiajjhknbaaGreatDoor.M
