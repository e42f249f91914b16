/-
  The plain mathematics of reading an instruction from text: what is guessed of a text, and that it is the instruction whose text it is, if there is one. No program, no conditions.
  The plain mathematics of layer asm's words and lines: what stands in a text, its normal one, a text with notes put in. No program, no conditions.
  The plain mathematics of layer asm: what the lines of a text say, what is wrong with them, and the labels. No program, no conditions.
  The plain mathematics of layer asm's reader: what it notes of lines, step by step, and that this says what the lines say. No program, no conditions.
  What a normal text does not contain: as the library's index tells it. No program, no conditions.
  The lines of a text, one after another: each up to its line feed. No program, no conditions.
  Strings as cells, and lists of them in memory. No program but its types.
  The plain mathematics of a text that is gone through rune by rune, where only bytes below 128 are looked for: what the library's IndexFunc and FieldsFunc answer, in bytes. No program, no conditions.
  A range over a function whose body owns blocks that change (p: which ones), maps among them, and that may be left ahead of its end. No program. The iterator changes only blocks that it made itself; the body only what is its own, or new.
-/
import Derived.Laws.RangeAny
import Derived.Laws.RangeString
import Derived.Lib.DecodeN
import Derived.Lib.IndexBytes
import Derived.Lib.IndexLaws
import Derived.Lib.IndexMore
import Derived.Shelf.GgClosure.StringsIndexFunc
import Derived.Shelf.Strings.FieldsFuncAny
import Derived.Test.YtifobiajjhknbaaGreatDoorQ4
namespace Go.Proofs.YtifobiajjhknbaaGreatDoor.O

theorem byte_at {r : List UInt8} : ∀ {s : List UInt8}, (∀ c ∈ s, c ≠ 32) → Lib.indexByte (s ++ 32 :: r) 32 = (s.length : Int)
  | [], _ => by simp [Lib.indexByte]
  | b :: s, h => by
    have ih := byte_at (r := r) (s := s) (fun c hc => h c (by simp [hc]))
    have hb : (b == 32) = false := by rw [beq_eq_false_iff_ne]; exact h b (by simp)
    have hn : (((s.length : Nat) : Int) == -1) = false := by rw [beq_eq_false_iff_ne]; omega
    rw [List.cons_append, Lib.indexByte, hb, ih, hn]
    simp
theorem byte_none : ∀ {s : List UInt8}, (∀ c ∈ s, c ≠ 32) → Lib.indexByte s 32 = -1
  | [], _ => rfl
  | b :: s, h => by
    have ih := byte_none (s := s) (fun c hc => h c (by simp [hc]))
    have hb : (b == 32) = false := by rw [beq_eq_false_iff_ne]; exact h b (by simp)
    rw [Lib.indexByte, hb, ih]
    simp
theorem cut_at {s r : List UInt8} (h : ∀ c ∈ s, c ≠ 32) : Lib.cut (s ++ 32 :: r) [32] = (s, r, true) := by
  have e : Lib.index (s ++ 32 :: r) [32] = (s.length : Int) := by rw [Lib.index_one, byte_at h]
  have e2 : s ++ 32 :: r = (s ++ [32]) ++ r := by simp
  unfold Lib.cut
  rw [e, if_pos (by omega), Int.toNat_natCast, List.take_left]
  have e3 : (s ++ 32 :: r).drop (s.length + [(32 : UInt8)].length) = r := by
    rw [e2]
    have : s.length + [(32 : UInt8)].length = (s ++ [32]).length := by simp
    rw [this, List.drop_left]
  rw [e3]
theorem cut_none {s : List UInt8} (h : ∀ c ∈ s, c ≠ 32) : Lib.cut s [32] = (s, [], false) := by
  unfold Lib.cut
  rw [Lib.index_one, byte_none h]
  rfl
/-- A word, and what stands behind it. -/
theorem cut_word {s r : List UInt8} (h : ∀ c ∈ s, c ≠ 32) (hr : r = [] ∨ ∃ r', r = 32 :: r') : (Lib.cut (s ++ r) [32]).1 = s ∧ (Lib.cut (s ++ r) [32]).2.1 = r.drop 1 := by
  rcases hr with rfl | ⟨r', rfl⟩
  · rw [List.append_nil, cut_none h]; exact ⟨rfl, rfl⟩
  · rw [cut_at h]; exact ⟨rfl, rfl⟩
theorem cut_len (s : List UInt8) : (Lib.cut s [32]).1.length ≤ s.length ∧ (Lib.cut s [32]).2.1.length ≤ s.length := by
  unfold Lib.cut
  split
  · simp; omega
  · simp

/-! ### Names -/

theorem str_inj {s t : List UInt8} (h : str s = str t) : s = t := by
  have := congrArg (fun x : ByteArray => x.data.toList) h
  simpa using this
theorem find_spec (S : ByteArray) : ∀ n k, (findFrom S n k = -1 ∧ ∀ j, k ≤ j → j < k + n → nm j ≠ S) ∨ (∃ j : Nat, k ≤ j ∧ j < k + n ∧ findFrom S n k = (j : Int) ∧ nm j = S)
  | 0, k => .inl ⟨rfl, fun j h1 h2 => by omega⟩
  | n + 1, k => by
    by_cases h : nm k = S
    · exact .inr ⟨k, Nat.le_refl _, by omega, by rw [findFrom, if_pos h], h⟩
    · rw [findFrom, if_neg h]
      rcases find_spec S n (k + 1) with ⟨h1, h2⟩ | ⟨j, h1, h2, h3, h4⟩
      · refine .inl ⟨h1, fun j h3 h4 => ?_⟩
        by_cases e : j = k
        · rw [e]; exact h
        · exact h2 j (by omega) (by omega)
      · exact .inr ⟨j, by omega, by omega, h3, h4⟩
theorem findI_spec (S : ByteArray) : (findI S = -1 ∧ ∀ op : Int, isOp op = true → str (rowAt op).name ≠ S) ∨ (isOp (findI S) = true ∧ str (rowAt (findI S)).name = S) := by
  rcases find_spec S 30 0 with ⟨h1, h2⟩ | ⟨j, _, h2, h3, h4⟩
  · refine .inl ⟨h1, fun op ho e => ?_⟩
    have hb := isOp_yes ho
    refine h2 op.toNat (Nat.zero_le _) (by omega) ?_
    unfold nm
    rw [show ((op.toNat : Nat) : Int) = op by omega]
    exact e
  · refine .inr ?_
    have e : findI S = (j : Int) := h3
    rw [e]
    exact ⟨decide_eq_true (by omega), h4⟩
theorem findI_of {op : Int} (h : isOp op = true) : findI (str (rowAt op).name) = op := by
  rcases findI_spec (str (rowAt op).name) with ⟨_, h2⟩ | ⟨h1, h2⟩
  · exact absurd rfl (h2 op h)
  · exact name_inj h1 h (str_inj h2)
theorem name_ne (op : Int) (h : isOp op = true) : (rowAt op).name ≠ [] := by
  obtain ⟨hk, e⟩ := rowAt_yes h
  rw [e]
  have := List.all_eq_true.1 (show rowsL.all (fun r => decide (r.name ≠ [])) = true by decide) _ (List.getElem_mem hk)
  exact of_decide_eq_true this

/-! ### Operands -/

/-- The number that a text is guessed to be. -/
def ltrI (s : List UInt8) : Int := if W.tE s = 0 ∧ W.tN s = 1 then (W.tL s).getD 0 0 else 0
def gK (k : Int) (s : List UInt8) : Int := if digK k = true then W.pI s else if k = 8 then A.ofI A.binNs s else if k = 9 then A.ofI A.unNs s else if k = 2 ∨ k = 3 then ltrI s else 0
theorem gK_word {k n : Int} (hk : 0 ≤ k ∧ k ≤ 10) (h0 : k ≠ 0) (hn : inK k n = true) : gK k (word k n) = n := by
  have hb := in_bounds hn
  have hd := of_decide_eq_true hn
  cases h : digK k
  · have hc : k = 2 ∨ k = 3 ∨ k = 8 ∨ k = 9 := by have := of_decide_eq_false h; omega
    rcases hc with rfl | rfl | rfl | rfl
    · have e1 : lo 2 = 1 := rfl
      have e2 : hi 2 = 4 := rfl
      have hn : n = 1 ∨ n = 2 ∨ n = 3 ∨ n = 4 := by omega
      rcases hn with rfl | rfl | rfl | rfl <;> decide +kernel
    · have e1 : lo 3 = 1 := rfl
      have e2 : hi 3 = 3 := rfl
      have hn : n = 1 ∨ n = 2 ∨ n = 3 := by omega
      rcases hn with rfl | rfl | rfl <;> decide +kernel
    · have e1 : lo 8 = 0 := rfl
      have e2 : hi 8 = 13 := rfl
      have : ∀ j : Fin 14, gK 8 (word 8 (j.1 : Int)) = (j.1 : Int) := by decide +kernel
      have := this ⟨n.toNat, by omega⟩
      rw [show ((n.toNat : Nat) : Int) = n by omega] at this
      exact this
    · have e1 : lo 9 = 0 := rfl
      have e2 : hi 9 = 8 := rfl
      have : ∀ j : Fin 9, gK 9 (word 9 (j.1 : Int)) = (j.1 : Int) := by decide +kernel
      have := this ⟨n.toNat, by omega⟩
      rw [show ((n.toNat : Nat) : Int) = n by omega] at this
      exact this
  · unfold gK
    rw [if_pos h, word_dig h]
    unfold W.pI
    rw [W.atoi_itoa _ hb.1.1 hb.1.2]
theorem ofI_bounds (l : List (List UInt8)) (s : List UInt8) (hl : l.length ≤ 1000) : 0 ≤ A.ofI l s ∧ A.ofI l s ≤ 1000 := by
  unfold A.ofI
  split
  · rename_i h
    have := List.idxOf_lt_length_of_mem h
    omega
  · omega
theorem unlet_bounds (c : UInt8) : 0 ≤ W.unlet c ∧ W.unlet c ≤ 4 := by
  unfold W.unlet
  repeat' split
  all_goals omega
theorem ltrI_bounds (s : List UInt8) : 0 ≤ ltrI s ∧ ltrI s ≤ 4 := by
  unfold ltrI
  split
  · unfold W.tL W.untxt
    split
    · rcases s with _ | ⟨c, r⟩
      · simp
      · exact unlet_bounds c
    · simp
  · omega
theorem gK_bounds (k : Int) (s : List UInt8) : I64 (gK k s) := by
  unfold gK I64
  split
  · exact W.pI_bounds s
  · split
    · have := ofI_bounds A.binNs s (by decide); omega
    · split
      · have := ofI_bounds A.unNs s (by decide); omega
      · split
        · have := ltrI_bounds s; omega
        · omega

/-- The operands that are guessed of what stands behind the name. -/
def gA (op : Int) (t : List UInt8) : Int := if (rowAt op).ka = 0 then 0 else gK (rowAt op).ka (Lib.cut t [32]).1
def gB (op : Int) (t : List UInt8) : Int := if (rowAt op).kb = 0 then 0 else gK (rowAt op).kb (Lib.cut t [32]).2.1
theorem gA_bounds (op : Int) (t : List UInt8) : I64 (gA op t) := by
  unfold gA
  split
  · unfold I64; omega
  · exact gK_bounds _ _
theorem gB_bounds (op : Int) (t : List UInt8) : I64 (gB op t) := by
  unfold gB
  split
  · unfold I64; omega
  · exact gK_bounds _ _

theorem text_cut {op a b : Int} :
    (Lib.cut (textI op a b) [32]).1 = (rowAt op).name ∧ (Lib.cut (textI op a b) [32]).2.1 = (partL (rowAt op).ka a ++ partL (rowAt op).kb b).drop 1 := by
  unfold textI
  refine cut_word (name_no op) ?_
  rcases part_sp (rowAt op).ka a with e | ⟨r, e⟩
  · rw [e]; exact part_sp (rowAt op).kb b
  · rw [e]; exact .inr ⟨_, rfl⟩
/-- What is guessed of an instruction's text is that instruction. -/
theorem guess_hit {op a b : Int} (h : okI op a b = true) : gA op (Lib.cut (textI op a b) [32]).2.1 = a ∧ gB op (Lib.cut (textI op a b) [32]).2.1 = b := by
  obtain ⟨ho, hA, hB⟩ := ok_op h
  have hk := kinds_ok op
  have hn := kinds_none op
  rw [text_cut.2]
  unfold gA gB
  by_cases h0 : (rowAt op).ka = 0
  · have h1 := hn h0
    rw [if_pos h0, if_pos h1]
    rw [h0] at hA
    rw [h1] at hB
    exact ⟨((in_bounds hA).2.2 rfl).symm, ((in_bounds hB).2.2 rfl).symm⟩
  · rw [if_neg h0]
    have e1 : partL (rowAt op).ka a = 32 :: word (rowAt op).ka a := by unfold partL; rw [if_neg h0]
    rw [e1, List.cons_append, List.drop_succ_cons, List.drop_zero]
    have hc := cut_word (word_no (rowAt op).ka a) (part_sp (rowAt op).kb b)
    rw [hc.1, hc.2]
    refine ⟨gK_word ⟨hk.1, hk.2.1⟩ h0 hA, ?_⟩
    by_cases h1 : (rowAt op).kb = 0
    · rw [if_pos h1]
      rw [h1] at hB
      exact ((in_bounds hB).2.2 rfl).symm
    · rw [if_neg h1]
      have e2 : partL (rowAt op).kb b = 32 :: word (rowAt op).kb b := by unfold partL; rw [if_neg h1]
      rw [e2, List.drop_succ_cons, List.drop_zero]
      exact gK_word ⟨hk.2.2.1, hk.2.2.2⟩ h1 hB

/-- What reading a text answers: the instruction that has it; that there is none. -/
def ReadV (s : List UInt8) (v : Value) : Prop :=
  (∃ op a b, okI op a b = true ∧ textI op a b = s ∧ v = .tuple #[instV op a b, .int .i64 0]) ∨ ((∀ op a b, okI op a b = true → textI op a b ≠ s) ∧ v = .tuple #[instV 0 0 0, .int .i64 40])
/-- No name: no instruction. -/
theorem read_nameless {s : List UInt8} (h : findI (str (Lib.cut s [32]).1) < 0) : ReadV s (.tuple #[instV 0 0 0, .int .i64 40]) := by
  refine .inr ⟨fun op a b hok e => ?_, rfl⟩
  subst e
  rw [text_cut.1, findI_of (ok_op hok).1] at h
  have := isOp_yes (ok_op hok).1
  omega
/-- What is guessed has the text: it is the one. -/
theorem read_yes {s : List UInt8} {op a b : Int} (hop : isOp op = true) (hn : str (rowAt op).name = str (Lib.cut s [32]).1) (h : showI op a b = s) : ReadV s (.tuple #[instV op a b, .int .i64 0]) := by
  cases hok : okI op a b
  · unfold showI at h
    rw [if_neg (by rw [hok]; decide)] at h
    subst h
    exact absurd (str_inj hn) (name_ne op hop)
  · unfold showI at h
    rw [if_pos hok] at h
    exact .inl ⟨op, a, b, hok, h, rfl⟩
/-- What is guessed has another text: none has this one. -/
theorem read_no {s : List UInt8} (op a b : Int) (hop : op = findI (str (Lib.cut s [32]).1)) (h : ∀ x y, okI op x y = true → textI op x y = s → a = x ∧ b = y) (hs : showI op a b ≠ s) :
    ReadV s (.tuple #[instV 0 0 0, .int .i64 40]) := by
  refine .inr ⟨fun op' x y hok e => ?_, rfl⟩
  have he := e
  subst e
  rw [text_cut.1, findI_of (ok_op hok).1] at hop
  subst hop
  obtain ⟨rfl, rfl⟩ := h x y hok rfl
  unfold showI at hs
  rw [if_pos hok] at hs
  exact hs rfl
theorem read_miss {s : List UInt8} {op : Int} (hop : findI (str (Lib.cut s [32]).1) = op) (hs : showI op (gA op (Lib.cut s [32]).2.1) (gB op (Lib.cut s [32]).2.1) ≠ s) : ReadV s (.tuple #[instV 0 0 0, .int .i64 40]) := by
  refine read_no op _ _ hop.symm (fun x y hok e => ?_) hs
  subst e
  exact guess_hit hok

end Go.Proofs.YtifobiajjhknbaaGreatDoor.O

namespace Go.Proofs.YtifobiajjhknbaaGreatDoor.M

abbrev Bs := List UInt8
abbrev Ln := Nat × List Bs

/-- Does the byte part words; does it end a line's words? -/
def gapB (c : UInt8) : Bool := decide (c = 32 ∨ c = 9)
def endB (c : UInt8) : Bool := decide (c = 10 ∨ c = 59)
/-- A word that ends here, if there is one. -/
def fl (cur : Bs) : List Bs := if cur = [] then [] else [cur]
/-- The words of what is left, when so much of a word was met. -/
def wgo (cur : Bs) : Bs → List Bs
  | [] => fl cur
  | c :: r => if endB c = true then fl cur else if gapB c = true then fl cur ++ wgo [] r else wgo (cur ++ [c]) r
def wordsL (s : Bs) : List Bs := wgo [] s
/-- A line, if it has words. -/
def one (n : Nat) (cur : Bs) : List Ln := if wordsL cur = [] then [] else [(n, wordsL cur)]
/-- The lines of what is left, when so much of a line was met. -/
def lgo (n : Nat) (cur : Bs) : Bs → List Ln
  | [] => one n cur
  | c :: r => if c = 10 then one n cur ++ lgo (n + 1) [] r else lgo n (cur ++ [c]) r
def linesL (s : Bs) : List Ln := lgo 1 [] s
/-- Words, parted by one blank. -/
def joinW : List Bs → Bs
  | [] => []
  | [w] => w
  | w :: v :: ws => w ++ 32 :: joinW (v :: ws)
/-- A text's normal one. -/
def flat (l : List (List Bs)) : Bs := l.flatMap fun w => joinW w ++ [10]
def normL (s : Bs) : Bs := flat ((linesL s).map Prod.snd)

theorem fl_nil : fl [] = [] := if_pos rfl
theorem fl_some {w : Bs} (h : w ≠ []) : fl w = [w] := if_neg h
theorem wgo_end {cur : Bs} {c : UInt8} (h : endB c = true) (r : Bs) : wgo cur (c :: r) = fl cur := by rw [wgo, if_pos h]
theorem wgo_gap {cur : Bs} {c : UInt8} (h : endB c = false) (hg : gapB c = true) (r : Bs) : wgo cur (c :: r) = fl cur ++ wgo [] r := by rw [wgo, if_neg (by rw [h]; decide), if_pos hg]
theorem wgo_byte {cur : Bs} {c : UInt8} (h : endB c = false) (hg : gapB c = false) (r : Bs) : wgo cur (c :: r) = wgo (cur ++ [c]) r := by rw [wgo, if_neg (by rw [h]; decide), if_neg (by rw [hg]; decide)]
theorem one_none {n : Nat} {s : Bs} (h : wordsL s = []) : one n s = [] := if_pos h
theorem one_some {n : Nat} {s : Bs} (h : wordsL s ≠ []) : one n s = [(n, wordsL s)] := if_neg h
theorem lgo_lf (n : Nat) (cur r : Bs) : lgo n cur (10 :: r) = one n cur ++ lgo (n + 1) [] r := by rw [lgo, if_pos rfl]
theorem lgo_byte {c : UInt8} (h : c ≠ 10) (n : Nat) (cur r : Bs) : lgo n cur (c :: r) = lgo n (cur ++ [c]) r := by rw [lgo, if_neg h]

/-- A byte of a word; a word. -/
def inW (c : UInt8) : Bool := !endB c && !gapB c
def cleanB (w : Bs) : Bool := !w.isEmpty && w.all inW
theorem inW_iff (c : UInt8) : inW c = true ↔ endB c = false ∧ gapB c = false := by unfold inW; rw [Bool.and_eq_true, Bool.not_eq_true', Bool.not_eq_true']
theorem inW_iff2 (c : UInt8) : inW c = true ↔ c ≠ 10 ∧ c ≠ 59 ∧ c ≠ 32 ∧ c ≠ 9 := by
  rw [inW_iff]; unfold endB gapB; rw [decide_eq_false_iff_not, decide_eq_false_iff_not]
  constructor
  · rintro ⟨h1, h2⟩; exact ⟨fun h => h1 (.inl h), fun h => h1 (.inr h), fun h => h2 (.inl h), fun h => h2 (.inr h)⟩
  · rintro ⟨h1, h2, h3, h4⟩; exact ⟨fun h => h.elim h1 h2, fun h => h.elim h3 h4⟩
theorem clean_iff (w : Bs) : cleanB w = true ↔ w ≠ [] ∧ w.all inW = true := by
  unfold cleanB; cases w <;> simp

theorem wgo_word {w : Bs} (h : w.all inW = true) (cur r : Bs) : wgo cur (w ++ r) = wgo (cur ++ w) r := by
  induction w generalizing cur with
  | nil => simp
  | cons c w ih =>
    rw [List.all_cons, Bool.and_eq_true, inW_iff] at h
    rw [List.cons_append, wgo_byte h.1.1 h.1.2, ih h.2, List.append_assoc]
    rfl
/-- What is met is a word, or none yet: all words are words. -/
theorem wgo_clean (s : Bs) : ∀ cur : Bs, cur.all inW = true → ∀ w ∈ wgo cur s, cleanB w = true := by
  have hfl : ∀ cur : Bs, cur.all inW = true → ∀ w ∈ fl cur, cleanB w = true := by
    intro cur h w hw
    by_cases e : cur = []
    · subst e; rw [fl_nil] at hw; cases hw
    · rw [fl_some e, List.mem_singleton] at hw
      subst hw
      exact (clean_iff _).2 ⟨e, h⟩
  induction s with
  | nil => intro cur h w hw; exact hfl cur h w hw
  | cons c s ih =>
    intro cur h w hw
    cases he : endB c with
    | true => rw [wgo_end he] at hw; exact hfl cur h w hw
    | false =>
      cases hg : gapB c with
      | true =>
        rw [wgo_gap he hg, List.mem_append] at hw
        rcases hw with hw | hw
        · exact hfl cur h w hw
        · exact ih [] rfl w hw
      | false =>
        rw [wgo_byte he hg] at hw
        exact ih _ (by rw [List.all_append, h]; simp [(inW_iff c).2 ⟨he, hg⟩]) w hw
theorem words_clean (s : Bs) : ∀ w ∈ wordsL s, cleanB w = true := wgo_clean s [] rfl
def cleanW (l : List Bs) : Bool := !l.isEmpty && l.all cleanB
theorem cleanW_iff (l : List Bs) : cleanW l = true ↔ l ≠ [] ∧ ∀ w ∈ l, cleanB w = true := by
  unfold cleanW; cases l <;> simp
/-- Words that are joined are met again. -/
theorem wgo_join : ∀ (l : List Bs) (t : Bs), (∀ w ∈ l, cleanB w = true) → (t = [] ∨ ∃ c r, t = c :: r ∧ endB c = true) → wgo [] (joinW l ++ t) = l
  | [], t, _, ht => by
    rcases ht with rfl | ⟨c, r, rfl, hc⟩
    · rfl
    · exact wgo_end hc r
  | [w], t, h, ht => by
    obtain ⟨h1, h2⟩ := (clean_iff w).1 (h w (by simp))
    rw [joinW, wgo_word h2, List.nil_append]
    rcases ht with rfl | ⟨c, r, rfl, hc⟩
    · exact fl_some h1
    · rw [wgo_end hc r]; exact fl_some h1
  | w :: v :: ws, t, h, ht => by
    obtain ⟨h1, h2⟩ := (clean_iff w).1 (h w (by simp))
    have ih := wgo_join (v :: ws) t (fun x hx => h x (by simp only [List.mem_cons] at hx ⊢; exact .inr hx)) ht
    rw [joinW, List.append_assoc, wgo_word h2, List.nil_append, List.cons_append, wgo_gap (by decide) (by decide), ih, fl_some h1]
    rfl
theorem words_join {l : List Bs} (h : ∀ w ∈ l, cleanB w = true) : wordsL (joinW l) = l := by
  have := wgo_join l [] h (.inl rfl)
  rwa [List.append_nil] at this

/-! ### Lines -/

def noLF (s : Bs) : Bool := s.all fun c => decide (c ≠ 10)
theorem lgo_line {s : Bs} (h : noLF s = true) (n : Nat) (cur r : Bs) : lgo n cur (s ++ r) = lgo n (cur ++ s) r := by
  induction s generalizing cur with
  | nil => simp
  | cons c s ih =>
    unfold noLF at h
    rw [List.all_cons, Bool.and_eq_true, decide_eq_true_iff] at h
    rw [List.cons_append, lgo_byte h.1, ih h.2, List.append_assoc]
    rfl
theorem lgo_full {s : Bs} (h : noLF s = true) (n : Nat) (r : Bs) : lgo n [] (s ++ 10 :: r) = one n s ++ lgo (n + 1) [] r := by rw [lgo_line h, lgo_lf, List.nil_append]
theorem lgo_clean : ∀ (s : Bs) (n : Nat) (cur : Bs), ∀ l ∈ lgo n cur s, cleanW l.2 = true := by
  have hone : ∀ (n : Nat) (cur : Bs), ∀ l ∈ one n cur, cleanW l.2 = true := by
    intro n cur l hl
    by_cases e : wordsL cur = []
    · rw [one_none e] at hl; cases hl
    · rw [one_some e, List.mem_singleton] at hl
      subst hl
      exact (cleanW_iff _).2 ⟨e, words_clean cur⟩
  intro s
  induction s with
  | nil => intro n cur l hl; exact hone n cur l hl
  | cons c s ih =>
    intro n cur l hl
    by_cases hc : c = 10
    · subst hc
      rw [lgo_lf, List.mem_append] at hl
      rcases hl with hl | hl
      · exact hone n cur l hl
      · exact ih _ _ l hl
    · rw [lgo_byte hc] at hl
      exact ih _ _ l hl
theorem lines_clean (s : Bs) : ∀ l ∈ linesL s, cleanW l.2 = true := lgo_clean s 1 []
/-- Lines with numbers from one on. -/
def num (n : Nat) : List (List Bs) → List Ln
  | [] => []
  | w :: r => (n, w) :: num (n + 1) r
theorem num_snd : ∀ (n : Nat) (l : List (List Bs)), (num n l).map Prod.snd = l
  | _, [] => rfl
  | n, w :: r => by rw [num, List.map_cons, num_snd (n + 1) r]
theorem join_in {l : List Bs} (h : ∀ w ∈ l, cleanB w = true) : ∀ c ∈ joinW l, c = 32 ∨ inW c = true := by
  induction l with
  | nil => intro c hc; cases hc
  | cons w l ih =>
    have hw := ((clean_iff w).1 (h w (by simp))).2
    have hw2 : ∀ c ∈ w, inW c = true := fun c hc => List.all_eq_true.1 hw c hc
    cases l with
    | nil => intro c hc; exact .inr (hw2 c hc)
    | cons v ws =>
      intro c hc
      rw [joinW, List.mem_append, List.mem_cons] at hc
      rcases hc with hc | hc | hc
      · exact .inr (hw2 c hc)
      · exact .inl hc
      · exact ih (fun x hx => h x (List.mem_cons_of_mem _ hx)) c hc
theorem join_noLF {l : List Bs} (h : ∀ w ∈ l, cleanB w = true) : noLF (joinW l) = true := by
  unfold noLF
  rw [List.all_eq_true]
  intro c hc
  rw [decide_eq_true_iff]
  rcases join_in h c hc with rfl | h1
  · decide
  · exact ((inW_iff2 c).1 h1).1
theorem flat_cons (w : List Bs) (l : List (List Bs)) : flat (w :: l) = joinW w ++ 10 :: flat l := by unfold flat; rw [List.flatMap_cons, List.append_assoc]; rfl
theorem flat_append (a b : List (List Bs)) : flat (a ++ b) = flat a ++ flat b := by unfold flat; rw [List.flatMap_append]
theorem lgo_flat : ∀ (l : List (List Bs)) (n : Nat), (∀ w ∈ l, cleanW w = true) → lgo n [] (flat l) = num n l
  | [], n, _ => rfl
  | w :: l, n, h => by
    have hw := (cleanW_iff w).1 (h w (by simp))
    have ih := lgo_flat l (n + 1) (fun x hx => h x (by simp [hx]))
    rw [flat_cons, lgo_full (join_noLF hw.2), ih, one_some (by rw [words_join hw.2]; exact hw.1), words_join hw.2]
    rfl
theorem lines_flat {l : List (List Bs)} (h : ∀ w ∈ l, cleanW w = true) : linesL (flat l) = num 1 l := lgo_flat l 1 h
theorem norm_clean (s : Bs) : ∀ w ∈ (linesL s).map Prod.snd, cleanW w = true := by
  intro w hw
  obtain ⟨l, hl, rfl⟩ := List.mem_map.1 hw
  exact lines_clean s l hl
theorem lines_norm (s : Bs) : linesL (normL s) = num 1 ((linesL s).map Prod.snd) := lines_flat (norm_clean s)
theorem norm_norm (s : Bs) : normL (normL s) = normL s := by
  unfold normL
  rw [show linesL (flat ((linesL s).map Prod.snd)) = num 1 ((linesL s).map Prod.snd) from lines_norm s, num_snd]

/-- Words are no longer than what they stand in. -/
theorem join_len : ∀ l : List Bs, (joinW l).length + 1 = (l.map fun w => w.length + 1).sum ∨ l = []
  | [] => .inr rfl
  | [w] => .inl (by simp [joinW])
  | w :: v :: ws => .inl (by
    have := (join_len (v :: ws)).resolve_right (by simp)
    rw [joinW, List.length_append, List.length_cons, List.map_cons, List.sum_cons]
    omega)
def wsum (l : List Bs) : Nat := (l.map fun w => w.length + 1).sum
theorem wsum_append (a b : List Bs) : wsum (a ++ b) = wsum a + wsum b := by unfold wsum; rw [List.map_append, List.sum_append_nat]
theorem wsum_fl (cur : Bs) : wsum (fl cur) ≤ cur.length + 1 ∧ (cur = [] → wsum (fl cur) = 0) := by
  by_cases h : cur = []
  · subst h; rw [fl_nil]; simp [wsum]
  · rw [fl_some h]; simp [wsum, h]
theorem wsum_go : ∀ (s cur : Bs), wsum (wgo cur s) ≤ cur.length + s.length + 1
  | [], cur => by have := (wsum_fl cur).1; rw [wgo]; simp; exact this
  | c :: s, cur => by
    have h0 := (wsum_fl cur).1
    cases he : endB c with
    | true => rw [wgo_end he]; simp; omega
    | false =>
      cases hg : gapB c with
      | true =>
        have ih := wsum_go s []
        rw [wgo_gap he hg, wsum_append]
        simp at ih ⊢; omega
      | false =>
        have ih := wsum_go s (cur ++ [c])
        rw [wgo_byte he hg]
        simp at ih ⊢; omega
theorem join_le (s : Bs) : (joinW (wordsL s)).length ≤ s.length := by
  have h := wsum_go s []
  rcases join_len (wordsL s) with e | e
  · have e2 : wsum (wordsL s) = (joinW (wordsL s)).length + 1 := e.symm
    unfold wordsL at e2 ⊢
    simp at h; omega
  · rw [e]; exact Nat.zero_le _
theorem one_len (n : Nat) (s : Bs) : (flat ((one n s).map Prod.snd)).length ≤ s.length + 1 := by
  by_cases h : wordsL s = []
  · rw [one_none h]; simp [flat]
  · rw [one_some h]
    have := join_le s
    simp [flat]; exact this
theorem lgo_len : ∀ (s : Bs) (n : Nat) (cur : Bs), (flat ((lgo n cur s).map Prod.snd)).length ≤ cur.length + s.length + 1
  | [], n, cur => one_len n cur
  | c :: s, n, cur => by
    by_cases hc : c = 10
    · subst hc
      have ih := lgo_len s (n + 1) []
      have h1 := one_len n cur
      rw [lgo_lf, List.map_append, flat_append, List.length_append]
      simp at ih h1 ⊢; omega
    · have ih := lgo_len s n (cur ++ [c])
      rw [lgo_byte hc]
      simp at ih ⊢; omega
theorem norm_len (s : Bs) : (normL s).length ≤ s.length + 1 := by have := lgo_len s 1 []; rw [List.length_nil, Nat.zero_add] at this; exact this

/-! ### What stands in a normal text -/

theorem flat_in {l : List (List Bs)} (h : ∀ w ∈ l, cleanW w = true) : ∀ c ∈ flat l, c = 10 ∨ c = 32 ∨ inW c = true := by
  intro c hc
  unfold flat at hc
  obtain ⟨w, hw, hc⟩ := List.mem_flatMap.1 hc
  rcases List.mem_append.1 hc with hc | hc
  · exact .inr (join_in ((cleanW_iff w).1 (h w hw)).2 c hc)
  · exact .inl (by simpa using hc)
theorem norm_in (s : Bs) : ∀ c ∈ normL s, c ≠ 59 ∧ c ≠ 9 := by
  intro c hc
  rcases flat_in (norm_clean s) c hc with rfl | rfl | h
  · decide
  · decide
  · have := (inW_iff2 c).1 h; exact ⟨this.2.1, this.2.2.2⟩
/-- No two blanks side by side. -/
def noTwo : Bs → Bool
  | [] => true
  | [_] => true
  | a :: b :: r => !(decide (a = 32) && decide (b = 32)) && noTwo (b :: r)
theorem noTwo_mid : ∀ (a : Bs) (b : Bs), noTwo (a ++ 32 :: 32 :: b) = false
  | [], b => by simp [noTwo]
  | [x], b => by simp [noTwo]
  | x :: y :: a, b => by
    have := noTwo_mid (y :: a) b
    rw [List.cons_append, List.cons_append, noTwo]
    rw [List.cons_append] at this
    rw [this]; simp
theorem noTwo_word {w : Bs} (h : w.all inW = true) {r : Bs} (hr : noTwo r = true) : noTwo (w ++ r) = true := by
  induction w with
  | nil => exact hr
  | cons c w ih =>
    rw [List.all_cons, Bool.and_eq_true] at h
    have i := ih h.2
    have hc := (inW_iff2 c).1 h.1
    cases e : w ++ r with
    | nil => rw [List.cons_append, e]; rfl
    | cons y t =>
      rw [List.cons_append, e, noTwo]
      rw [e] at i
      rw [i]; simp [hc.2.2.1]
theorem noTwo_cons {c : UInt8} {r : Bs} (h : c ≠ 32 ∨ ∃ y t, r = y :: t ∧ y ≠ 32) (hr : noTwo r = true) : noTwo (c :: r) = true := by
  cases r with
  | nil => rfl
  | cons y t =>
    rw [noTwo, hr]
    rcases h with h | ⟨y', t', e, h⟩
    · simp [h]
    · injection e with e1 e2; subst e1; simp [h]
theorem noTwo_join : ∀ (l : List Bs) (r : Bs), cleanW l = true → noTwo r = true → noTwo (joinW l ++ r) = true ∧ ∃ y t, joinW l ++ r = y :: t ∧ y ≠ 32
  | [], r, h, _ => by have := ((cleanW_iff _).1 h).1; exact absurd rfl this
  | [w], r, h, hr => by
    have h2 := (clean_iff w).1 (((cleanW_iff _).1 h).2 w (by simp))
    refine ⟨noTwo_word h2.2 hr, ?_⟩
    cases w with
    | nil => exact absurd rfl h2.1
    | cons y t =>
      rw [List.all_cons, Bool.and_eq_true] at h2
      exact ⟨y, t ++ r, rfl, ((inW_iff2 y).1 h2.2.1).2.2.1⟩
  | w :: v :: ws, r, h, hr => by
    have hh := ((cleanW_iff _).1 h).2
    have h2 := (clean_iff w).1 (hh w (by simp))
    obtain ⟨i1, i2⟩ := noTwo_join (v :: ws) r ((cleanW_iff _).2 ⟨by simp, fun x hx => hh x (List.mem_cons_of_mem _ hx)⟩) hr
    rw [joinW, List.append_assoc, List.cons_append]
    refine ⟨noTwo_word h2.2 (noTwo_cons (.inr i2) i1), ?_⟩
    cases w with
    | nil => exact absurd rfl h2.1
    | cons y t =>
      rw [List.all_cons, Bool.and_eq_true] at h2
      exact ⟨y, _, rfl, ((inW_iff2 y).1 h2.2.1).2.2.1⟩
theorem noTwo_flat : ∀ (l : List (List Bs)), (∀ w ∈ l, cleanW w = true) → noTwo (flat l) = true
  | [], _ => rfl
  | w :: l, h => by
    have ih := noTwo_flat l (fun x hx => h x (by simp [hx]))
    rw [flat_cons]
    exact (noTwo_join w _ (h w (by simp)) (noTwo_cons (.inl (by decide)) ih)).1
theorem norm_two (s : Bs) : noTwo (normL s) = true := noTwo_flat _ (norm_clean s)

/-! ### Notes put in -/

/-- The lines of a text, each without its line feed. -/
def sgo (cur : Bs) : Bs → List Bs
  | [] => fl cur
  | c :: r => if c = 10 then cur :: sgo [] r else sgo (cur ++ [c]) r
def segs (s : Bs) : List Bs := sgo [] s
/-- A line with notes ahead of it and behind. -/
def noted (note l : Bs) : Bs := (59 :: note ++ [10, 10, 32, 9]) ++ (l ++ ([32, 59] ++ (note ++ [10])))
def noteL (note s : Bs) : Bs := (segs s).flatMap (noted note)
def ones (n : Nat) : List Bs → List Ln
  | [] => []
  | s :: r => one n s ++ ones (n + 1) r
theorem lgo_segs : ∀ (s : Bs) (n : Nat) (cur : Bs), lgo n cur s = ones n (sgo cur s)
  | [], n, cur => by
    rw [lgo, sgo]
    by_cases h : cur = []
    · subst h; rw [fl_nil]; rfl
    · rw [fl_some h, ones, ones, List.append_nil]
  | c :: r, n, cur => by
    by_cases hc : c = 10
    · subst hc
      rw [lgo_lf, sgo, if_pos rfl, ones, lgo_segs r (n + 1) []]
    · rw [lgo_byte hc, sgo, if_neg hc, lgo_segs r n _]
theorem sgo_noLF : ∀ (s cur : Bs), noLF cur = true → ∀ l ∈ sgo cur s, noLF l = true
  | [], cur, h, l, hl => by
    rw [sgo] at hl
    by_cases e : cur = []
    · subst e; rw [fl_nil] at hl; cases hl
    · rw [fl_some e, List.mem_singleton] at hl; subst hl; exact h
  | c :: r, cur, h, l, hl => by
    by_cases hc : c = 10
    · subst hc
      rw [sgo, if_pos rfl, List.mem_cons] at hl
      rcases hl with rfl | hl
      · exact h
      · exact sgo_noLF r [] rfl l hl
    · rw [sgo, if_neg hc] at hl
      refine sgo_noLF r (cur ++ [c]) ?_ l hl
      unfold noLF at h ⊢
      rw [List.all_append, h]; simp [hc]
theorem segs_noLF (s : Bs) : ∀ l ∈ segs s, noLF l = true := sgo_noLF s [] rfl
theorem wgo_note : ∀ (l cur note : Bs), wgo cur (l ++ ([32, 59] ++ note)) = wgo cur l
  | [], cur, note => by
    rw [List.nil_append, List.cons_append, wgo_gap (by decide) (by decide), List.cons_append, wgo_end (by decide), fl_nil, List.append_nil, wgo]
  | c :: l, cur, note => by
    cases he : endB c with
    | true => rw [List.cons_append, wgo_end he, wgo_end he]
    | false =>
      cases hg : gapB c with
      | true => rw [List.cons_append, wgo_gap he hg, wgo_gap he hg, wgo_note l [] note]
      | false => rw [List.cons_append, wgo_byte he hg, wgo_byte he hg, wgo_note l _ note]
theorem words_noted (l note : Bs) : wordsL ([32, 9] ++ (l ++ ([32, 59] ++ note))) = wordsL l := by
  unfold wordsL
  rw [List.cons_append, wgo_gap (by decide) (by decide), List.cons_append, wgo_gap (by decide) (by decide), fl_nil, List.nil_append, List.nil_append, List.nil_append]
  exact wgo_note l [] note
theorem lgo_noted {note l : Bs} (hn : noLF note = true) (hl : noLF l = true) (n : Nat) (r : Bs) : lgo n [] (noted note l ++ r) = one (n + 2) l ++ lgo (n + 3) [] r := by
  have e : noted note l ++ r = (59 :: note) ++ 10 :: ([] ++ 10 :: (([32, 9] ++ (l ++ ([32, 59] ++ note))) ++ 10 :: r)) := by unfold noted; simp
  have h1 : noLF (59 :: note) = true := by unfold noLF at hn ⊢; rw [List.all_cons, hn]; rfl
  have h2 : noLF ([32, 9] ++ (l ++ ([32, 59] ++ note))) = true := by unfold noLF at hn hl ⊢; rw [List.all_append, List.all_append, List.all_append, hn, hl]; rfl
  rw [e, lgo_full h1, lgo_full rfl, lgo_full h2, one_none (s := 59 :: note) (wgo_end (by decide) _), one_none (s := []) rfl, List.nil_append, List.nil_append]
  have e2 : one (n + 1 + 1) ([32, 9] ++ (l ++ ([32, 59] ++ note))) = one (n + 2) l := by unfold one; rw [words_noted]
  rw [e2]
/-- A line's number behind notes. -/
def tri (l : Ln) : Ln := (3 * l.1, l.2)
theorem one_tri (n : Nat) (s : Bs) : (one n s).map tri = one (3 * n) s := by
  by_cases h : wordsL s = []
  · rw [one_none h, one_none h]; rfl
  · rw [one_some h, one_some h]; rfl
theorem lgo_notes {note : Bs} (hn : noLF note = true) : ∀ (ls : List Bs) (n : Nat), (∀ l ∈ ls, noLF l = true) → lgo (3 * n + 1) [] (ls.flatMap (noted note)) = (ones (n + 1) ls).map tri
  | [], n, _ => rfl
  | l :: ls, n, h => by
    have ih := lgo_notes hn ls (n + 1) (fun x hx => h x (by simp [hx]))
    rw [List.flatMap_cons, lgo_noted hn (h l (by simp)), ones, List.map_append, one_tri, show 3 * n + 1 + 2 = 3 * (n + 1) by omega, show 3 * n + 1 + 3 = 3 * (n + 1) + 1 by omega, ih]
theorem lines_notes {note : Bs} (hn : noLF note = true) (s : Bs) : linesL (noteL note s) = (linesL s).map tri := by
  unfold linesL noteL
  rw [lgo_segs s 1 []]
  exact lgo_notes hn (segs s) 0 (segs_noLF s)
theorem norm_notes {note : Bs} (hn : noLF note = true) (s : Bs) : normL (noteL note s) = normL s := by
  unfold normL
  rw [lines_notes hn, List.map_map]
  rfl

end Go.Proofs.YtifobiajjhknbaaGreatDoor.M

namespace Go.Proofs.YtifobiajjhknbaaGreatDoor.M
open Go.RowKit

/-- A name that stands in a text: its line, its function, its place there, what it is, and whether it is a label. -/
structure Nm where
  ln : Nat
  fn : Nat
  pl : Nat
  s : Bs
  lb : Bool
/-- What was read so far. -/
structure St where
  im : I.Im
  ns : List Nm
def st0 : St := ⟨I.nilI, []⟩

/-- The op of a name. -/
def ofA (s : Bs) : Option Nat := O.rowsL.findIdx? fun r => decide (r.name = s)
/-- The instruction of a text. -/
def rdA (s : Bs) : Option C.I3 := match ofA (Lib.cut s [32]).1 with
  | none => none
  | some op =>
    if C.ok1 ((op : Int), O.gA (op : Int) (Lib.cut s [32]).2.1, O.gB (op : Int) (Lib.cut s [32]).2.1) = true ∧ O.textI (op : Int) (O.gA (op : Int) (Lib.cut s [32]).2.1) (O.gB (op : Int) (Lib.cut s [32]).2.1) = s
    then some ((op : Int), O.gA (op : Int) (Lib.cut s [32]).2.1, O.gB (op : Int) (Lib.cut s [32]).2.1) else none
theorem ofA_row {op : Int} (h : O.isOp op = true) : ofA (O.rowAt op).name = some op.toNat := by
  have hb := O.isOp_yes h
  have : ∀ j : Fin 30, ofA (O.rowAt (j.1 : Int)).name = some j.1 := by decide
  have h2 := this ⟨op.toNat, by omega⟩
  rw [show ((op.toNat : Nat) : Int) = op by omega] at h2
  exact h2
theorem rdA_text {x : C.I3} (h : C.ok1 x = true) : rdA (O.textI x.1 x.2.1 x.2.2) = some x := by
  have ho := (O.ok_op h).1
  have hb := O.isOp_yes ho
  obtain ⟨g1, g2⟩ := O.guess_hit h
  have e : ((x.1.toNat : Nat) : Int) = x.1 := by omega
  unfold rdA
  rw [O.text_cut.1, ofA_row ho]
  dsimp only
  rw [e, g1, g2]
  exact if_pos ⟨h, rfl⟩
theorem rdA_some {s : Bs} {x : C.I3} (h : rdA s = some x) : C.ok1 x = true ∧ O.textI x.1 x.2.1 x.2.2 = s := by
  unfold rdA at h
  split at h
  · cases h
  · split at h
    · rename_i hc
      injection h with h
      rw [← h]; exact hc
    · cases h
theorem rdA_none {s : Bs} (h : ∀ x : C.I3, C.ok1 x = true → O.textI x.1 x.2.1 x.2.2 ≠ s) : rdA s = none := by
  cases e : rdA s with
  | none => rfl
  | some x => obtain ⟨h1, h2⟩ := rdA_some e; exact absurd h2 (h x h1)
/-- What an instruction may bear the name of: 1 a label, 2 a function, 0 nothing. -/
def kindA (op : Int) : Nat := if op = 18 ∨ op = 19 then 1 else if (20 ≤ op ∧ op ≤ 23) ∨ op = 11 then 2 else 0

def shapeW : Bs := [115, 104, 97, 112, 101]
def funcW : Bs := [102, 117, 110, 99]
def localW : Bs := [108, 111, 99, 97, 108]

section
variable {α β : Type}
/-- The last one, changed. -/
def upd (g : α → α) : List α → List α
  | [] => []
  | [x] => [g x]
  | x :: y :: r => x :: upd g (y :: r)
theorem upd_append (g : α → α) : ∀ (l : List α) (x : α), upd g (l ++ [x]) = l ++ [g x]
  | [], x => rfl
  | [y], x => rfl
  | y :: z :: l, x => by
    have := upd_append g (z :: l) x
    rw [List.cons_append] at this
    rw [List.cons_append, List.cons_append, upd, this]
    rfl

theorem or_map {f : α → β} (a b : Option α) : (a.map f).or (b.map f) = (a.or b).map f := by cases a <;> rfl
end

def stShape (st : St) (l : Ln) : Option St := match l.2 with
  | [a, b] => if a = shapeW ∧ st.im.fn = [] then (S.rdS b).map fun x => ⟨⟨st.im.sh ++ [x], st.im.fn⟩, st.ns⟩ else none
  | _ => none
def stFunc (st : St) (l : Ln) : Option St := match l.2 with
  | [a, b, c] => if a = funcW ∧ F.okN b = true then (S.rdG c).map fun g => ⟨⟨st.im.sh, st.im.fn ++ [⟨b, g.1, g.2, [], []⟩]⟩, st.ns⟩ else none
  | _ => none
/-- Has the function labels? -/
def hasL (ns : List Nm) (fn : Nat) : Bool := ns.any fun x => x.lb && decide (x.fn = fn)
def stLocal (st : St) (l : Ln) : Option St := match l.2, st.im.fn.getLast? with
  | [a, b], some f => if a = localW ∧ f.lc = [] ∧ f.bd = [] ∧ hasL st.ns (st.im.fn.length - 1) = false then (W.untxt b).map fun t => ⟨⟨st.im.sh, upd (fun f => { f with lc := t }) st.im.fn⟩, st.ns⟩ else none
  | _, _ => none
def stLabel (st : St) (l : Ln) : Option St := match l.2, st.im.fn.getLast? with
  | [a], some f => if a.getLast? = some 58 ∧ F.okN a.dropLast = true then some ⟨st.im, st.ns ++ [⟨l.1, st.im.fn.length - 1, f.bd.length, a.dropLast, true⟩]⟩ else none
  | _, _ => none
def addI (st : St) (x : C.I3) (ns : List Nm) : St := ⟨⟨st.im.sh, upd (fun f => { f with bd := f.bd ++ [x] }) st.im.fn⟩, ns⟩
/-- An instruction that bears a name. -/
def stName (st : St) (l : Ln) (f : F.Fu) : Option St := match l.2 with
  | [a, b] => match ofA a with
    | some op => if kindA op ≠ 0 ∧ F.okN b = true then some (addI st ((op : Int), 0, 0) (st.ns ++ [⟨l.1, st.im.fn.length - 1, f.bd.length, b, false⟩])) else none
    | none => none
  | _ => none
def stInstr (st : St) (l : Ln) : Option St := match st.im.fn.getLast? with
  | some f => match rdA (joinW l.2) with
    | some x => some (addI st x st.ns)
    | none => stName st l f
  | none => none
/-- What a line says, behind those ahead of it. -/
def step (st : St) (l : Ln) : Option St :=
  (stShape st l).or ((stFunc st l).or ((stLocal st l).or ((stLabel st l).or (stInstr st l))))
/-- All lines, or the number of the first one that says nothing. -/
def runL (st : St) : List Ln → St ⊕ Nat
  | [] => .inl st
  | l :: r => match step st l with
    | none => .inr l.1
    | some st' => runL st' r

/-! ### Names -/

def again (pre : List Nm) (x : Nm) : Bool := pre.any fun y => y.lb && (decide (y.fn = x.fn) && decide (y.s = x.s))
def placeOf (ns : List Nm) (fn : Nat) (s : Bs) : Option Nat := (ns.find? fun y => y.lb && (decide (y.fn = fn) && decide (y.s = s))).map Nm.pl
def opAt (fn : List F.Fu) (x : Nm) : Int := ((fn[x.fn]?.bind fun f => f.bd[x.pl]?).map Prod.fst).getD 0
/-- The number that a name is, or what is wrong with it. -/
def valA (ns : List Nm) (fn : List F.Fu) (x : Nm) : Nat ⊕ Int :=
  if kindA (opAt fn x) = 1 then (match placeOf ns x.fn x.s with | some n => .inl n | none => .inr 91)
  else (match I.findI fn x.s with | some n => .inl n | none => .inr 92)
def putB (v : Int) (x : C.I3) : C.I3 := (x.1, v, x.2.2)
def putA (x : Nm) (v : Int) (fn : List F.Fu) : List F.Fu := fn.modify x.fn fun f => { f with bd := f.bd.modify x.pl (putB v) }
/-- Names are put as numbers, one after another; or the first wrong one's line, and what is wrong. -/
def resL (ns pre : List Nm) (fn : List F.Fu) : List Nm → List F.Fu ⊕ (Nat × Int)
  | [] => .inl fn
  | x :: r => if x.lb = true then (if again pre x = true then .inr (x.ln, 91) else resL ns (pre ++ [x]) fn r)
    else match valA ns fn x with
      | .inl v => resL ns (pre ++ [x]) (putA x v fn) r
      | .inr e => .inr (x.ln, e)
/-- What was read, when all lines were. -/
def endL (st : St) : I.Im × Nat × Int := match resL st.ns [] st.im.fn st.ns with
  | .inr (n, e) => (I.nilI, n, e)
  | .inl fn => if I.okI ⟨st.im.sh, fn⟩ = true then (⟨st.im.sh, fn⟩, 0, 0) else (I.nilI, 0, 93)
def sayL (ls : List Ln) : I.Im × Nat × Int := match runL st0 ls with
  | .inr n => (I.nilI, n, 90)
  | .inl st => endL st
/-- What a text says. -/
def parseL (s : Bs) : I.Im × Nat × Int := if 131072 < s.length then (I.nilI, 0, 93) else sayL (linesL s)
theorem parse_long {s : Bs} (h : 131072 < s.length) : parseL s = (I.nilI, 0, 93) := if_pos h
theorem parse_else {s : Bs} (h : ¬ 131072 < s.length) : parseL s = sayL (linesL s) := if_neg h
/-! ### What lines say does not hang on their numbers -/

def reN (g : Nat → Nat) (x : Nm) : Nm := { x with ln := g x.ln }
def reS (g : Nat → Nat) (st : St) : St := ⟨st.im, st.ns.map (reN g)⟩
def reL (g : Nat → Nat) (l : Ln) : Ln := (g l.1, l.2)
theorem hasL_re (g : Nat → Nat) (ns : List Nm) (fn : Nat) : hasL (ns.map (reN g)) fn = hasL ns fn := by
  unfold hasL
  rw [List.any_map]
  rfl
theorem stShape_re (g : Nat → Nat) (st : St) (l : Ln) : stShape (reS g st) (reL g l) = (stShape st l).map (reS g) := by
  obtain ⟨n, w⟩ := l
  unfold stShape reL reS
  dsimp only
  split
  · split
    · rw [Option.map_map]; rfl
    · rfl
  · rfl
theorem stFunc_re (g : Nat → Nat) (st : St) (l : Ln) : stFunc (reS g st) (reL g l) = (stFunc st l).map (reS g) := by
  obtain ⟨n, w⟩ := l
  unfold stFunc reL reS
  dsimp only
  split
  · split
    · rw [Option.map_map]; rfl
    · rfl
  · rfl
theorem stLocal_re (g : Nat → Nat) (st : St) (l : Ln) : stLocal (reS g st) (reL g l) = (stLocal st l).map (reS g) := by
  obtain ⟨n, w⟩ := l
  unfold stLocal reL reS
  dsimp only
  rw [hasL_re]
  split
  · split
    · rw [Option.map_map]; rfl
    · rfl
  · rfl
theorem stLabel_re (g : Nat → Nat) (st : St) (l : Ln) : stLabel (reS g st) (reL g l) = (stLabel st l).map (reS g) := by
  obtain ⟨n, w⟩ := l
  unfold stLabel reL reS
  dsimp only
  split
  · split
    · simp [reN]
    · rfl
  · rfl
theorem stName_re (g : Nat → Nat) (st : St) (l : Ln) (f : F.Fu) : stName (reS g st) (reL g l) f = (stName st l f).map (reS g) := by
  obtain ⟨n, w⟩ := l
  unfold stName reL reS addI
  dsimp only
  split
  · split
    · split
      · simp [reN]
      · rfl
    · rfl
  · rfl
theorem stInstr_re (g : Nat → Nat) (st : St) (l : Ln) : stInstr (reS g st) (reL g l) = (stInstr st l).map (reS g) := by
  unfold stInstr
  rw [show (reS g st).im.fn.getLast? = st.im.fn.getLast? from rfl, show (reL g l).2 = l.2 from rfl]
  split
  · split
    · rfl
    · exact stName_re g st l _
  · rfl
theorem step_re (g : Nat → Nat) (st : St) (l : Ln) : step (reS g st) (reL g l) = (step st l).map (reS g) := by
  unfold step
  rw [stShape_re, stFunc_re, stLocal_re, stLabel_re, stInstr_re, or_map, or_map, or_map, or_map]
theorem run_re (g : Nat → Nat) : ∀ (ls : List Ln) (st : St), runL (reS g st) (ls.map (reL g)) = (match runL st ls with | .inl s => .inl (reS g s) | .inr n => .inr (g n))
  | [], st => rfl
  | l :: r, st => by
    rw [List.map_cons, runL, runL, step_re]
    cases step st l with
    | none => rfl
    | some st' => exact run_re g r st'
theorem again_re (g : Nat → Nat) (pre : List Nm) (x : Nm) : again (pre.map (reN g)) (reN g x) = again pre x := by
  unfold again
  rw [List.any_map]
  rfl
theorem placeOf_re (g : Nat → Nat) (ns : List Nm) (fn : Nat) (s : Bs) : placeOf (ns.map (reN g)) fn s = placeOf ns fn s := by
  unfold placeOf
  rw [List.find?_map, Option.map_map]
  rfl
theorem valA_re (g : Nat → Nat) (ns : List Nm) (fn : List F.Fu) (x : Nm) : valA (ns.map (reN g)) fn (reN g x) = valA ns fn x := by
  unfold valA
  rw [placeOf_re]
  rfl
theorem resL_re (g : Nat → Nat) (ns : List Nm) : ∀ (r pre : List Nm) (fn : List F.Fu), resL (ns.map (reN g)) (pre.map (reN g)) fn (r.map (reN g)) = (match resL ns pre fn r with | .inl f => .inl f | .inr x => .inr (g x.1, x.2))
  | [], pre, fn => rfl
  | x :: r, pre, fn => by
    have e : pre.map (reN g) ++ [reN g x] = (pre ++ [x]).map (reN g) := by simp
    rw [List.map_cons, resL, resL, again_re, valA_re, e, show (reN g x).lb = x.lb from rfl]
    split
    · split
      · rfl
      · exact resL_re g ns r (pre ++ [x]) fn
    · cases valA ns fn x with
      | inl v => exact resL_re g ns r (pre ++ [x]) _
      | inr e => rfl
theorem endL_re (g : Nat → Nat) (h0 : g 0 = 0) (st : St) : endL (reS g st) = ((endL st).1, g (endL st).2.1, (endL st).2.2) := by
  unfold endL
  have h := resL_re g st.ns st.ns [] st.im.fn
  rw [List.map_nil] at h
  rw [show (reS g st).ns = st.ns.map (reN g) from rfl, show (reS g st).im = st.im from rfl, h]
  cases resL st.ns [] st.im.fn st.ns with
  | inl f =>
    dsimp only
    split
    · rw [h0]
    · rw [h0]
  | inr x => rfl
theorem sayL_re (g : Nat → Nat) (h0 : g 0 = 0) (ls : List Ln) : sayL (ls.map (reL g)) = ((sayL ls).1, g (sayL ls).2.1, (sayL ls).2.2) := by
  unfold sayL
  have h := run_re g ls st0
  rw [show reS g st0 = st0 from rfl] at h
  rw [h]
  cases runL st0 ls with
  | inl st => exact endL_re g h0 st
  | inr n => rfl
/-- Lines of the same words say the same. -/
theorem sayL_words {a b : List Ln} (h : a.map Prod.snd = b.map Prod.snd) : (sayL a).1 = (sayL b).1 ∧ (sayL a).2.2 = (sayL b).2.2 := by
  have h1 := sayL_re (fun _ => 0) rfl a
  have h2 := sayL_re (fun _ => 0) rfl b
  have e : ∀ l : List Ln, l.map (reL fun _ => 0) = (l.map Prod.snd).map fun w => (0, w) := by intro l; rw [List.map_map]; rfl
  rw [e, h, ← e, h2] at h1
  have e1 := congrArg Prod.fst h1
  have e2 := congrArg (fun x => x.2.2) h1
  exact ⟨e1.symm, e2.symm⟩
theorem parse_norm {s : Bs} (h : s.length ≤ 131071) : (parseL (normL s)).1 = (parseL s).1 ∧ (parseL (normL s)).2.2 = (parseL s).2.2 := by
  have hl := norm_len s
  rw [parse_else (s := normL s) (by omega), parse_else (s := s) (by omega)]
  exact sayL_words (by rw [lines_norm, num_snd])
theorem tri_re : tri = reL (3 * ·) := rfl
theorem parse_notes {note s : Bs} (hn : noLF note = true) (h1 : s.length ≤ 131072) (h2 : (noteL note s).length ≤ 131072) : parseL (noteL note s) = ((parseL s).1, 3 * (parseL s).2.1, (parseL s).2.2) := by
  rw [parse_else (s := noteL note s) (by omega), parse_else (s := s) (by omega), lines_notes hn, tri_re]
  exact sayL_re (3 * ·) rfl _
end Go.Proofs.YtifobiajjhknbaaGreatDoor.M

namespace Go.Proofs.YtifobiajjhknbaaGreatDoor.M
open Go.RowKit

/-- A name that was noted: what is asked of it: 0 nothing (a label twice), 1 a label's place, 2 a function's number. -/
structure Mn where
  ln : Nat
  fn : Nat
  pl : Nat
  s : Bs
  k : Nat
abbrev Pl := Bs → Option Nat
/-- What a store of one makes of it. -/
def setP (f : Pl) (x : Bs) (v : Nat) : Pl := fun y => if y = x then some v else f y
/-- What was read so far, as the reader keeps it. -/
structure PS where
  im : I.Im
  last : Nat
  nums : Pl
  labs : List (List Bs × Pl)
  ms : List Mn
/-- A function's labels, none yet. -/
def lb0 : List Bs × Pl := ([], fun _ => none)
def ps0 : PS := ⟨I.nilI, 0, fun _ => none, [], []⟩
def lastFn (p : PS) : F.Fu := p.im.fn.getLast?.getD ⟨[], [], [], [], []⟩
def lastLb (p : PS) : List Bs × Pl := p.labs.getLast?.getD lb0

def pShape (p : PS) (ws : List Bs) : Option PS := match ws with
  | [a, b] => if p.last = 0 ∧ a = shapeW then (S.rdS b).map fun x => PS.mk ⟨p.im.sh ++ [x], p.im.fn⟩ 0 p.nums p.labs p.ms else none
  | _ => none
def numsP (p : PS) (b : Bs) : Pl := if (p.nums b).isSome then p.nums else setP p.nums b p.im.fn.length
def pFunc (p : PS) (ws : List Bs) : Option PS := match ws with
  | [a, b, c] => if a = funcW ∧ F.okN b = true then (S.rdG c).map fun (g : List Int × List Int) => PS.mk ⟨p.im.sh, p.im.fn ++ [⟨b, g.1, g.2, [], []⟩]⟩ 1 (numsP p b) (p.labs ++ [lb0]) p.ms else none
  | _ => none
def pLocal (p : PS) (ws : List Bs) : Option PS := match ws with
  | [a, b] => if p.last = 1 ∧ a = localW then (W.untxt b).map fun t => PS.mk ⟨p.im.sh, upd (fun f => { f with lc := t }) p.im.fn⟩ 2 p.nums p.labs p.ms else none
  | _ => none
/-- A label is noted. -/
def pDef (p : PS) (ln : Nat) (s : Bs) : PS :=
  if ((lastLb p).2 s).isSome then ⟨p.im, p.last, p.nums, p.labs, p.ms ++ [⟨ln, 0, 0, s, 0⟩]⟩
  else ⟨p.im, p.last, p.nums, upd (fun l => (l.1 ++ [s], setP l.2 s (lastFn p).bd.length)) p.labs, p.ms⟩
def PS.to (p : PS) (k : Nat) : PS := ⟨p.im, k, p.nums, p.labs, p.ms⟩
def pLabel (p : PS) (ln : Nat) (ws : List Bs) : Option PS := match ws with
  | [a] => if 1 ≤ p.last ∧ a.getLast? = some 58 ∧ F.okN a.dropLast = true then some ((pDef p ln a.dropLast).to 3) else none
  | _ => none
def addX (p : PS) (x : C.I3) (ms : List Mn) : PS := ⟨⟨p.im.sh, upd (fun f => { f with bd := f.bd ++ [x] }) p.im.fn⟩, 4, p.nums, p.labs, ms⟩
/-- The op and the kind of an instruction that bears a name; the name. -/
def pNamed (ws : List Bs) : Option (Nat × Bs) := match ws with
  | [a, b] => if F.okN b = true then (match ofA a with | some op => if kindA (op : Int) ≠ 0 then some (op, b) else none | none => none) else none
  | _ => none
def pInstr (p : PS) (ln : Nat) (ws : List Bs) : Option PS := if 1 ≤ p.last then (match rdA (joinW ws) with
  | some x => some (addX p x p.ms)
  | none => match pNamed ws with
    | some (op, b) => some (addX p ((op : Int), 0, 0) (p.ms ++ [⟨ln, p.im.fn.length - 1, (lastFn p).bd.length, b, kindA (op : Int)⟩]))
    | none => none) else none
def pStep (p : PS) (l : Ln) : Option PS := (pShape p l.2).or ((pFunc p l.2).or ((pLocal p l.2).or ((pLabel p l.1 l.2).or (pInstr p l.1 l.2))))
def pRun (p : PS) : List Ln → PS ⊕ Nat
  | [] => .inl p
  | l :: r => match pStep p l with
    | none => .inr l.1
    | some p' => pRun p' r
/-- The numbers that a noted name is looked up in. -/
def amongP (p : PS) (m : Mn) : Option Nat := if m.k = 0 then none else if m.k = 1 then (p.labs[m.fn]?).bind (fun l => l.2 m.s) else p.nums m.s
def wrongM (m : Mn) : Int := if m.k = 2 then 92 else 91
def putM (m : Mn) (v : Nat) (fn : List F.Fu) : List F.Fu := fn.modify m.fn fun f => { f with bd := f.bd.modify m.pl (putB (v : Int)) }
def pSettle (p : PS) (fn : List F.Fu) : List Mn → List F.Fu ⊕ (Nat × Int)
  | [] => .inl fn
  | m :: r => match amongP p m with
    | none => .inr (m.ln, wrongM m)
    | some v => pSettle p (putM m v fn) r

/-! ### It says what the lines say -/

/-- Labels of a function, each once. -/
def firsts (fn : Nat) : List Nm → List Nm → List Bs
  | _, [] => []
  | pre, x :: r => if x.lb = true ∧ x.fn = fn ∧ again pre x = false then x.s :: firsts fn (pre ++ [x]) r else firsts fn (pre ++ [x]) r
/-- What is noted of names. -/
def notes (fn : List F.Fu) : List Nm → List Nm → List Mn
  | _, [] => []
  | pre, x :: r => (if x.lb = true then (if again pre x = true then [⟨x.ln, 0, 0, x.s, 0⟩] else []) else [⟨x.ln, x.fn, x.pl, x.s, kindA (opAt fn x)⟩]) ++ notes fn (pre ++ [x]) r
theorem firsts_append (fn : Nat) : ∀ (r : List Nm) (pre : List Nm) (x : Nm), firsts fn pre (r ++ [x]) = firsts fn pre r ++ (if x.lb = true ∧ x.fn = fn ∧ again (pre ++ r) x = false then [x.s] else [])
  | [], pre, x => by rw [List.nil_append, firsts, firsts, List.append_nil, firsts]; split <;> rfl
  | y :: r, pre, x => by
    rw [List.cons_append, firsts, firsts, firsts_append fn r (pre ++ [y]) x, List.append_assoc, List.singleton_append]
    split <;> simp
theorem notes_append (fn : List F.Fu) : ∀ (r : List Nm) (pre : List Nm) (x : Nm), notes fn pre (r ++ [x]) = notes fn pre r ++ (if x.lb = true then (if again (pre ++ r) x = true then [⟨x.ln, 0, 0, x.s, 0⟩] else []) else [⟨x.ln, x.fn, x.pl, x.s, kindA (opAt fn x)⟩])
  | [], pre, x => by rw [List.nil_append, notes, notes, notes, List.append_nil, List.append_nil, List.nil_append]
  | y :: r, pre, x => by
    rw [List.cons_append, notes, notes, notes_append fn r (pre ++ [y]) x, List.append_assoc pre, List.singleton_append, List.append_assoc]
theorem notes_same {fn fn' : List F.Fu} : ∀ (r pre : List Nm), (∀ x ∈ r, x.lb = false → opAt fn' x = opAt fn x) → notes fn' pre r = notes fn pre r
  | [], pre, h => rfl
  | x :: r, pre, h => by
    rw [notes, notes, notes_same r (pre ++ [x]) (fun y hy => h y (List.mem_cons_of_mem _ hy))]
    congr 1
    split
    · rfl
    · rename_i hx
      rw [h x (by simp) (by simpa using hx)]
theorem again_place {ns : List Nm} {x : Nm} : again ns x = (placeOf ns x.fn x.s).isSome := by
  unfold again placeOf
  rw [Option.isSome_map]
  induction ns with
  | nil => rfl
  | cons y r ih => rw [List.any_cons, List.find?_cons]; split <;> simp_all
theorem placeOf_append (ns : List Nm) (x : Nm) (fn : Nat) (s : Bs) : placeOf (ns ++ [x]) fn s = if (placeOf ns fn s).isSome then placeOf ns fn s else if x.lb = true ∧ x.fn = fn ∧ x.s = s then some x.pl else none := by
  unfold placeOf
  rw [List.find?_append]
  cases h : ns.find? fun y => y.lb && (decide (y.fn = fn) && decide (y.s = s)) with
  | some y => rfl
  | none =>
    simp only [Option.map_none, Option.none_or, Option.isSome_none, List.find?_singleton]
    split
    · rename_i hc
      rw [Bool.and_eq_true, Bool.and_eq_true, decide_eq_true_iff, decide_eq_true_iff] at hc
      simp [hc]
    · rename_i hc
      rw [Bool.and_eq_true, Bool.and_eq_true, decide_eq_true_iff, decide_eq_true_iff] at hc
      simp [hc]

end Go.Proofs.YtifobiajjhknbaaGreatDoor.M

namespace Go.Proofs.YtifobiajjhknbaaGreatDoor.M
open Go

theorem byte_miss {s : Bs} {c : UInt8} (h : ∀ x ∈ s, x ≠ c) : Lib.indexByte s c = -1 := by
  induction s with
  | nil => rfl
  | cons b s ih =>
    have i := ih (fun x hx => h x (by simp [hx]))
    have hb : (b == c) = false := by rw [beq_eq_false_iff_ne]; exact h b (by simp)
    rw [Lib.indexByte, hb, i]
    rfl
theorem index_miss1 {s : Bs} {c : UInt8} (h : ∀ x ∈ s, x ≠ c) : Lib.index s [c] = -1 := by rw [Lib.index_one, byte_miss h]
theorem index_miss2 {s : Bs} (h : noTwo s = true) : Lib.index s [32, 32] = -1 := by
  refine Lib.index_none fun j hj => ?_
  cases e : Lib.occAt s [32, 32] j with
  | false => rfl
  | true =>
    unfold Lib.occAt at e
    rw [List.isPrefixOf_iff_prefix] at e
    obtain ⟨t, ht⟩ := e
    have : s = s.take j ++ 32 :: 32 :: t := by
      rw [show (32 :: 32 :: t : Bs) = [32, 32] ++ t from rfl, ht, List.take_append_drop]
    rw [this, noTwo_mid] at h
    cases h
theorem norm_has (s : Bs) : Lib.index (normL s) [59] = -1 ∧ Lib.index (normL s) [9] = -1 ∧ Lib.index (normL s) [32, 32] = -1 :=
  ⟨index_miss1 fun x hx => (norm_in s x hx).1, index_miss1 fun x hx => (norm_in s x hx).2, index_miss2 (norm_two s)⟩

end Go.Proofs.YtifobiajjhknbaaGreatDoor.M

namespace Go.Proofs.YtifobiajjhknbaaGreatDoor.M
open Go

theorem lines_segs (s : Bs) : linesL s = ones 1 (segs s) := lgo_segs s 1 []
/-- Where the next line feed is. -/
theorem index_lf (s : Bs) : (∃ i : Nat, Lib.indexByte s 10 = (i : Int) ∧ i < s.length ∧ s = s.take i ++ 10 :: s.drop (i + 1) ∧ noLF (s.take i) = true) ∨ (Lib.indexByte s 10 = -1 ∧ noLF s = true) := by
  have hge := Lib.index_ge s [10]
  rw [Lib.index_one] at hge
  rcases Int.lt_or_le (Lib.indexByte s 10) 0 with h | h
  · have e : Lib.indexByte s 10 = -1 := by omega
    refine .inr ⟨e, ?_⟩
    have hn := Lib.indexByte_none e
    unfold noLF
    rw [List.all_eq_true]
    intro c hc
    rw [decide_eq_true_iff]
    rintro rfl
    obtain ⟨i, hi, hc⟩ := List.mem_iff_getElem.1 hc
    exact hn i (by rw [List.getElem?_eq_getElem hi, hc])
  · obtain ⟨i, hi⟩ : ∃ i : Nat, Lib.indexByte s 10 = (i : Int) := ⟨(Lib.indexByte s 10).toNat, by omega⟩
    obtain ⟨h1, h2⟩ := Lib.indexByte_some hi
    have hl : i < s.length := by
      rcases Nat.lt_or_ge i s.length with h | h
      · exact h
      · rw [List.getElem?_eq_none h] at h1; cases h1
    refine .inl ⟨i, hi, hl, ?_, ?_⟩
    · have e : s[i] = 10 := by rw [List.getElem?_eq_getElem hl] at h1; injection h1
      rw [← e, List.getElem_cons_drop, List.take_append_drop]
    · unfold noLF
      rw [List.all_eq_true]
      intro c hc
      rw [decide_eq_true_iff]
      rintro rfl
      obtain ⟨k, hk, hc⟩ := List.mem_iff_getElem.1 hc
      rw [List.length_take] at hk
      rw [List.getElem_take] at hc
      exact h2 k (by omega) (by rw [List.getElem?_eq_getElem (by omega), hc])
/-- A line without its line feed. -/
theorem trim_line {a : Bs} (h : noLF a = true) : Lib.trimSuffix (a ++ [10]) [10] = a ∧ Lib.trimSuffix a [10] = a := by
  unfold Lib.trimSuffix Lib.hasSuffix
  constructor
  · rw [if_pos (by rw [List.isSuffixOf_iff_suffix]; exact ⟨a, rfl⟩)]
    simp
  · rw [if_neg]
    rw [List.isSuffixOf_iff_suffix]
    rintro ⟨t, ht⟩
    rw [← ht] at h
    unfold noLF at h
    rw [List.all_append] at h
    simp at h
end Go.Proofs.YtifobiajjhknbaaGreatDoor.M

namespace Go.Proofs.YtifobiajjhknbaaGreatDoor.M
open Go.RowKit W

abbrev sv (l : List Bs) : List Value := l.map fun s => .string (str s)
theorem sv_len (l : List Bs) : (sv l).length = l.length := by simp
theorem rd_one {w : World} {T : TypeId} {v : Value} : Rd (w.alloc (.cells #[v] T)) (some ⟨w.heap.size, 0, none⟩) [v] := fun _ =>
  ⟨_, 0, rfl, fun j u hu => by rw [Nat.zero_add, (Blk.new w T #[v]).cell j, ← hu]; simp⟩
theorem sv_at {w : World} {A : Option Addr} {l : List Bs} (h : Rd w A (sv l)) (h0 : 0 < l.length) : ∃ g off, A = some ⟨g, off, none⟩ ∧ ∀ (i : Nat) (hi : i < l.length), w.cell? ⟨g, off + i, none⟩ = some (.string (str l[i])) := by
  obtain ⟨g, off, e, hc⟩ := h (by simpa using h0)
  exact ⟨g, off, e, fun i hi => hc i _ (by simp [hi])⟩
theorem extract_of {S : ByteArray} {s : Bs} (hs : S.data.toList = s) (f k : Nat) : S.extract f k = str ((s.drop f).take (k - f)) := by
  apply ByteArray.ext
  rw [ByteArray.data_extract]
  apply Array.ext'
  rw [Array.toList_extract, hs, List.extract_eq_take_drop]
theorem str_add (a b : Bs) : str a ++ str b = str (a ++ b) := by
  apply ByteArray.ext
  simp [ByteArray.data_append]
theorem str_of {S : ByteArray} {s : Bs} (h : S.data.toList = s) : S = str s := by
  subst h
  apply ByteArray.ext
  rfl

end Go.Proofs.YtifobiajjhknbaaGreatDoor.M

namespace Go.Proofs.YtifobiajjhknbaaGreatDoor.M
open Go.RowKit Go.Lib

theorem decN_high (n b0 b1 b2 b3 : Nat) (h0 : 128 ≤ b0) (hn : 1 ≤ n) :
    128 ≤ (decodeN n b0 b1 b2 b3).1 ∧ 1 ≤ (decodeN n b0 b1 b2 b3).2 ∧ (decodeN n b0 b1 b2 b3).2 ≤ n ∧ (decodeN n b0 b1 b2 b3).2 ≤ 4 ∧ (2 ≤ (decodeN n b0 b1 b2 b3).2 → 128 ≤ b1) ∧ (3 ≤ (decodeN n b0 b1 b2 b3).2 → 128 ≤ b2) ∧ (4 ≤ (decodeN n b0 b1 b2 b3).2 → 128 ≤ b3) := by
  unfold decodeN
  repeat' split
  all_goals (simp only; omega)
theorem get_byte {S : ByteArray} {s : Bs} (hs : S.data.toList = s) {k : Nat} (hk : k < s.length) : S.get! k = s[k] := by
  subst hs
  have h : k < S.size := by simpa using hk
  simp [ByteArray.get!, getElem!_pos, h]
/-- What is looked for: a byte below 128 of some kind; as a question about runes. -/
def asR (q : UInt8 → Bool) (r : Nat) : Bool := decide (r < 128) && q r.toUInt8
def lowQ (q : UInt8 → Bool) : Prop := ∀ c : UInt8, 128 ≤ c.toNat → q c = false
theorem toU8 (c : UInt8) : c.toNat.toUInt8 = c := by simp
theorem step_at {q : UInt8 → Bool} (hq : lowQ q) {S : ByteArray} {s : Bs} (hs : S.data.toList = s) {k : Nat} (hk : k < s.length) :
    ∃ r w, Utf8.decode S k = (r, w) ∧ 1 ≤ w ∧ k + w ≤ s.length ∧ ((asR q r = true ∧ w = 1 ∧ q s[k] = true ∧ r = s[k].toNat) ∨ (asR q r = false ∧ ∀ c ∈ (s.drop k).take w, q c = false)) := by
  have hsz : S.size = s.length := W.size_of hs
  have g0 := get_byte hs hk
  by_cases h : s[k].toNat < 128
  · refine ⟨s[k].toNat, 1, ?_, Nat.le_refl _, by omega, ?_⟩
    · rw [decode_at, g0]
      unfold decodeN
      rw [if_pos h]
    · have e : asR q s[k].toNat = q s[k] := by unfold asR; rw [toU8, decide_eq_true h]; rfl
      cases hqk : q s[k] with
      | true => exact .inl ⟨by rw [e, hqk], rfl, rfl, rfl⟩
      | false =>
        refine .inr ⟨by rw [e, hqk], fun c hc => ?_⟩
        rw [List.drop_eq_getElem_cons hk] at hc
        rw [List.take_succ_cons, List.take_zero, List.mem_singleton] at hc
        rw [hc]; exact hqk
  · obtain ⟨h1, h2, h3, h4, h5, h6, h7⟩ := decN_high (S.size - k) (S.get! k).toNat (S.get! (k + 1)).toNat (S.get! (k + 2)).toNat (S.get! (k + 3)).toNat (by rw [g0]; omega) (by omega)
    rw [← decode_at] at h1 h2 h3 h4 h5 h6 h7
    obtain ⟨r, w, e⟩ : ∃ r w, Utf8.decode S k = (r, w) := ⟨_, _, rfl⟩
    rw [e] at h1 h2 h3 h4 h5 h6 h7
    dsimp only at h1 h2 h3 h4 h5 h6 h7
    refine ⟨r, w, e, h2, by omega, .inr ⟨by unfold asR; rw [decide_eq_false (by omega)]; rfl, fun c hc => ?_⟩⟩
    obtain ⟨j, hj, rfl⟩ := List.mem_iff_getElem.1 hc
    simp at hj
    rw [List.getElem_take, List.getElem_drop]
    apply hq
    have hj2 : j = 0 ∨ j = 1 ∨ j = 2 ∨ j = 3 := by omega
    rcases hj2 with rfl | rfl | rfl | rfl
    · exact by simpa using (by omega : 128 ≤ s[k].toNat)
    · have := h5 (by omega); rwa [get_byte hs (by omega)] at this
    · have := h6 (by omega); rwa [get_byte hs (by omega)] at this
    · have := h7 (by omega); rwa [get_byte hs (by omega)] at this

/-! ### Up to the first one -/

def cutQ (q : UInt8 → Bool) (s : Bs) : Bs := s.takeWhile fun c => !q c
theorem idx_from {q : UInt8 → Bool} (hq : lowQ q) {S : ByteArray} {s : Bs} (hs : S.data.toList = s) : ∀ (f k : Nat), k ≤ s.length → s.length - k ≤ f →
    (idxFuncFrom (asR q) true S f k = -1 ∧ cutQ q (s.drop k) = s.drop k) ∨ (∃ i : Nat, idxFuncFrom (asR q) true S f k = (i : Int) ∧ k ≤ i ∧ i < s.length ∧ cutQ q (s.drop k) = (s.drop k).take (i - k))
  | 0, k, h1, h2 => by
    have : k = s.length := by omega
    subst this
    exact .inl ⟨rfl, by rw [List.drop_length]; rfl⟩
  | f + 1, k, h1, h2 => by
    have hsz : S.size = s.length := W.size_of hs
    by_cases hk : k < s.length
    · obtain ⟨r, w, e, hw1, hw2, hcase⟩ := step_at hq hs hk
      unfold idxFuncFrom
      rw [if_pos (by omega), e]
      dsimp only
      rcases hcase with ⟨hp, _, hqk, _⟩ | ⟨hp, hall⟩
      · rw [if_pos hp]
        refine .inr ⟨k, rfl, Nat.le_refl _, hk, ?_⟩
        rw [Nat.sub_self, List.take_zero, List.drop_eq_getElem_cons hk]
        unfold cutQ
        rw [List.takeWhile_cons_of_neg (by rw [hqk]; decide)]
      · rw [if_neg (by rw [hp]; decide)]
        have hsp : s.drop k = (s.drop k).take w ++ s.drop (k + w) := by
          rw [← List.drop_drop]; exact (List.take_append_drop w _).symm
        have hcut : cutQ q (s.drop k) = (s.drop k).take w ++ cutQ q (s.drop (k + w)) := by
          conv => lhs; rw [hsp]
          unfold cutQ
          rw [List.takeWhile_append_of_pos (fun c hc => by rw [hall c hc]; rfl)]
        rcases idx_from hq hs f (k + w) hw2 (by omega) with ⟨h3, h4⟩ | ⟨i, h3, h4, h5, h6⟩
        · exact .inl ⟨h3, by rw [hcut, h4]; exact hsp.symm⟩
        · refine .inr ⟨i, h3, by omega, h5, ?_⟩
          rw [hcut, h6, show i - k = w + (i - (k + w)) by omega, List.take_add, List.drop_drop]
    · have : k = s.length := by omega
      subst this
      rw [idxFuncFrom_end _ _ _ _ _ (by omega)]
      exact .inl ⟨rfl, by rw [List.drop_length]; rfl⟩
theorem idx_cut {q : UInt8 → Bool} (hq : lowQ q) {S : ByteArray} {s : Bs} (hs : S.data.toList = s) :
    (idxFunc (asR q) true S = -1 ∧ cutQ q s = s) ∨ (∃ i : Nat, idxFunc (asR q) true S = (i : Int) ∧ i < s.length ∧ cutQ q s = s.take i) := by
  have hsz : S.size = s.length := W.size_of hs
  unfold idxFunc
  rcases idx_from hq hs S.size 0 (Nat.zero_le _) (by omega) with ⟨h1, h2⟩ | ⟨i, h1, _, h3, h4⟩
  · exact .inl ⟨h1, by simpa using h2⟩
  · exact .inr ⟨i, h1, h3, by simpa using h4⟩

/-! ### Fields -/

theorem low_end : lowQ endB := by
  intro c h
  unfold endB
  rw [decide_eq_false_iff_not]
  rintro (rfl | rfl) <;> exact absurd h (by decide)
theorem low_gap : lowQ gapB := by
  intro c h
  unfold gapB
  rw [decide_eq_false_iff_not]
  rintro (rfl | rfl) <;> exact absurd h (by decide)
theorem wgo_cut : ∀ (s cur : Bs), wgo cur (cutQ endB s) = wgo cur s
  | [], cur => rfl
  | c :: r, cur => by
    unfold cutQ
    cases he : endB c with
    | true => rw [List.takeWhile_cons_of_neg (by rw [he]; decide), wgo_end he]; rfl
    | false =>
      rw [List.takeWhile_cons_of_pos (by rw [he]; decide)]
      cases hg : gapB c with
      | true => rw [wgo_gap he hg, wgo_gap he hg]; rw [show r.takeWhile (fun c => !endB c) = cutQ endB r from rfl, wgo_cut r []]
      | false => rw [wgo_byte he hg, wgo_byte he hg]; exact wgo_cut r _
theorem words_cut (s : Bs) : wordsL (cutQ endB s) = wordsL s := wgo_cut s []
theorem cut_all (q : UInt8 → Bool) (s : Bs) : ∀ c ∈ cutQ q s, q c = false := by
  induction s with
  | nil => intro c hc; cases hc
  | cons x r ih =>
    intro c hc
    unfold cutQ at hc
    cases hq : q x with
    | true => rw [List.takeWhile_cons_of_neg (by rw [hq]; decide)] at hc; cases hc
    | false =>
      rw [List.takeWhile_cons_of_pos (by rw [hq]; decide)] at hc
      rcases List.mem_cons.1 hc with rfl | hc
      · exact hq
      · exact ih c hc

/-- What is in hand: from where a word began. -/
def curOf (s : Bs) (pos : Nat) : Option Nat → Bs
  | some a => (s.drop a).take (pos - a)
  | none => []
def okSt (pos : Nat) : Option Nat → Prop
  | some a => a < pos
  | none => True
def outOf (S : ByteArray) (acc : List (Nat × Nat)) : List ByteArray := acc.map fun x => S.extract x.1 x.2
theorem spans_from {S : ByteArray} {s : Bs} (hs : S.data.toList = s) (hno : ∀ c ∈ s, endB c = false) : ∀ (f pos : Nat) (st : Option Nat) (acc : List (Nat × Nat)), pos ≤ s.length → s.length - pos ≤ f → okSt pos st →
    outOf S (closeSpans S (spansFromP (asR gapB) S f pos st acc)) = outOf S acc ++ (wgo (curOf s pos st) (s.drop pos)).map W.str := by
  have hsz : S.size = s.length := W.size_of hs
  have hdone : ∀ (pos : Nat) (st : Option Nat) (acc : List (Nat × Nat)), pos = s.length → okSt pos st → outOf S (closeSpans S (acc, st)) = outOf S acc ++ (wgo (curOf s pos st) (s.drop pos)).map W.str := by
    intro pos st acc hp hok
    subst hp
    rw [List.drop_length, wgo]
    cases st with
    | none =>
      show outOf S acc = outOf S acc ++ (fl []).map W.str
      rw [fl_nil]; simp
    | some a =>
      have ha : a < s.length := hok
      have hne : curOf s s.length (some a) ≠ [] := by
        intro e
        have := congrArg List.length e
        simp [curOf] at this
        omega
      rw [fl_some hne]
      unfold closeSpans outOf
      dsimp only
      rw [List.map_append]
      congr 1
      show [S.extract a S.size] = [W.str (curOf s s.length (some a))]
      rw [extract_of hs, hsz]
      rfl
  intro f
  induction f with
  | zero => intro pos st acc h1 h2 h3; exact hdone pos st acc (by omega) h3
  | succ f ih =>
    intro pos st acc h1 h2 h3
    by_cases hk : pos < s.length
    · obtain ⟨r, w, e, hw1, hw2, hcase⟩ := step_at low_gap hs hk
      have hen : endB s[pos] = false := hno _ (List.getElem_mem _)
      unfold spansFromP
      rw [if_pos (by omega), e]
      dsimp only
      rcases hcase with ⟨hp, hw, hqk, _⟩ | ⟨hp, hall⟩
      · subst hw
        rw [if_pos hp]
        cases st with
        | none =>
          dsimp only
          rw [ih (pos + 1) none acc hw2 (by omega) trivial]
          congr 1
          rw [List.drop_eq_getElem_cons hk, wgo_gap hen hqk]
          show (wgo [] _).map W.str = (fl [] ++ wgo [] _).map W.str
          rw [fl_nil, List.nil_append]
        | some a =>
          dsimp only
          have ha : a < pos := h3
          rw [ih (pos + 1) none (acc ++ [(a, pos)]) hw2 (by omega) trivial]
          have hne : curOf s pos (some a) ≠ [] := by
            intro e
            have := congrArg List.length e
            simp [curOf] at this
            omega
          conv => rhs; rw [List.drop_eq_getElem_cons hk, wgo_gap hen hqk, fl_some hne]
          unfold outOf
          rw [List.map_append, List.append_assoc]
          congr 1
          show [S.extract a pos] ++ (wgo [] _).map W.str = ([curOf s pos (some a)] ++ wgo [] _).map W.str
          rw [extract_of hs, List.map_append]
          rfl
      · rw [if_neg (by rw [hp]; decide)]
        have hsp : s.drop pos = (s.drop pos).take w ++ s.drop (pos + w) := by
          rw [← List.drop_drop]; exact (List.take_append_drop w _).symm
        have hW : ((s.drop pos).take w).all inW = true := by
          rw [List.all_eq_true]
          intro c hc
          rw [inW_iff]
          exact ⟨hno c (List.mem_of_mem_drop (List.mem_of_mem_take hc)), hall c hc⟩
        cases st with
        | none =>
          dsimp only
          rw [ih (pos + w) (some pos) acc hw2 (by omega) (by show pos < pos + w; omega)]
          congr 2
          conv => rhs; rw [hsp, wgo_word hW]
          show wgo ((s.drop pos).take (pos + w - pos)) _ = wgo ([] ++ _) _
          rw [List.nil_append, show pos + w - pos = w by omega]
        | some a =>
          dsimp only
          have ha : a < pos := h3
          rw [ih (pos + w) (some a) acc hw2 (by omega) (by show a < pos + w; omega)]
          congr 2
          conv => rhs; rw [hsp, wgo_word hW]
          congr 1
          show (s.drop a).take (pos + w - a) = (s.drop a).take (pos - a) ++ (s.drop pos).take w
          have e2 : s.drop pos = (s.drop a).drop (pos - a) := by rw [List.drop_drop]; congr 1; omega
          rw [e2, show pos + w - a = (pos - a) + w by omega, List.take_add]
    · rw [spansFromP_end _ _ _ _ _ _ (by omega)]
      exact hdone pos st acc (by omega) h3
/-- The library's fields of a text in which no line ends are its words. -/
theorem fields_words {S : ByteArray} {s : Bs} (hs : S.data.toList = s) (hno : ∀ c ∈ s, endB c = false) : goFieldsP (asR gapB) S = (wordsL s).map W.str := by
  have h := spans_from hs hno S.size 0 none [] (Nat.zero_le _) (by rw [W.size_of hs]; omega) trivial
  have h2 : outOf S [] = [] := rfl
  rw [h2, List.nil_append, List.drop_zero] at h
  exact h

end Go.Proofs.YtifobiajjhknbaaGreatDoor.M

namespace Go.Proofs.YtifobiajjhknbaaGreatDoor
open Go.RowKit Go.Shelf

abbrev BSet := Nat → Prop
/-- What an iterator does: it changes only what is as new as that, and not p's, and makes no cells. -/
structure IStep (B : Nat) (p : BSet) (W W' : World) : Prop where
  keep : Keep (fun k => B ≤ k ∧ ¬ p k) W W'
  cells : ∀ (k : Nat) (o : Obj), W'.heap[k]? = some o → o.isCells = true → W.heap[k]? = some o
/-- What holds is not touched by that. -/
def KeepsOut {β : Type} (B : Nat) (I : β → BSet → World → Prop) : Prop := ∀ s p W W', I s p W → IStep B p W W' → I s p W'
theorem IStep.alloc {B : Nat} {p : BSet} {W : World} (o : Obj) (ho : o.isCells = false) : IStep B p W (W.alloc o) := by
  refine ⟨(Keep.refl _ _).alloc _, fun k o' hk hc => ?_⟩
  have hl := (Array.getElem?_eq_some_iff.1 hk).1
  rw [World.size_alloc] at hl
  by_cases e : k = W.heap.size
  · subst e
    rw [World.alloc_heap_new] at hk
    cases hk
    rw [ho] at hc; cases hc
  · rw [Below.heap_alloc _ _ _ (by omega)] at hk
    exact hk
theorem IStep.trans {B : Nat} {p : BSet} {W W1 W2 : World} (h : IStep B p W W1) (h' : IStep B p W1 W2) : IStep B p W W2 :=
  ⟨h.keep.trans h'.keep (fun _ h _ => h), fun k o hk hc => h.cells k o (h'.cells k o hk hc) hc⟩
theorem IStep.putObj {B l : Nat} {p : BSet} {W : World} (o : Obj) (ho : o.isCells = false) (hB : B ≤ l) (hp : ¬ p l) : IStep B p W (W.putObj l o) := by
  refine ⟨(Keep.refl _ W).grown (grownBy_putObj' W l o) (fun g e hl => by cases e; exact ⟨hB, hp⟩), fun k o' hk hc => ?_⟩
  by_cases e : k = l
  · subst e
    have hl := (Array.getElem?_eq_some_iff.1 hk).1
    rw [World.putObj_heap_same (by simpa [World.putObj] using hl)] at hk
    cases hk
    rw [ho] at hc; cases hc
  · rwa [World.putObj_heap_other e] at hk
theorem IStep.mono {B B' : Nat} {p p' : BSet} {W W' : World} (h : IStep B p W W') (hB : B' ≤ B) (hp : ∀ k, p' k → p k) : IStep B' p' W W' :=
  ⟨h.keep.mono (fun k h2 _ => ⟨Nat.le_trans hB h2.1, fun h3 => h2.2 (hp k h3)⟩), h.cells⟩
/-- Only what is p's is changed; p takes in only what is new. -/
structure Rnd (p p' : BSet) (W W' : World) : Prop where
  own : ∀ k, k < W.heap.size → p' k → p k
  keep : Keep p W W'
theorem Rnd.refl (p : BSet) (W : World) : Rnd p p W W := ⟨fun _ _ h => h, Keep.refl _ _⟩
theorem Rnd.trans {p p1 p2 : BSet} {W W1 W2 : World} (h : Rnd p p1 W W1) (h' : Rnd p1 p2 W1 W2) : Rnd p p2 W W2 :=
  ⟨fun k hk h2 => h.own k hk (h'.own k (Nat.lt_of_lt_of_le hk h.keep.size) h2), h.keep.trans h'.keep (fun k h1 hk => h.own k hk h1)⟩
theorem Rnd.of_keep {p : BSet} {W W' : World} (h : Keep p W W') : Rnd p p W W' := ⟨fun _ _ h => h, h⟩
theorem Keep.noB {O : BSet} {W W' : World} (h : Keep NoB W W') : Keep O W W' := h.mono (fun _ hf => hf.elim)
theorem Rnd.not {p p' : BSet} {W W' : World} (h : Rnd p p' W W') {k : Nat} (hk : k < W.heap.size) (hn : ¬ p k) : ¬ p' k := fun h2 => hn (h.own k hk h2)
theorem Rnd.same {p p' : BSet} {W W' : World} (h : Rnd p p' W W') {k : Nat} (hk : k < W.heap.size) (hn : ¬ p k) : W'.heap[k]? = W.heap[k]? := h.keep.block k hk hn

section
variable {P : Program} {n : Nat}
/-- What is asked of the iterator. -/
def StopsM {α : Type} (P : Program) (m k : Nat) (gf : Nat) (lb : Array Value) (encs : α → Array Value) (bx : Nat) (o : Obj) (En : List α → α → Prop) (S Sp : List α → Prop) : Prop :=
  ∀ (L : Nat) (J Jx : List α → BSet → World → Prop) (p : BSet) (W : World), KeepsOut W.heap.size J → KeepsOut W.heap.size Jx →
    (∀ pre x p W1, J pre p W1 → En pre x → YieldAt Fence.wide m P L (encs x) W1 fun e W' => ∃ p', Rnd p p' W1 W' ∧ ((e = .returned (.bool true) ∧ J (pre ++ [x]) p' W') ∨ (e = .returned (.bool false) ∧ Jx (pre ++ [x]) p' W'))) →
    J [] p W → (∀ k, p k → k < W.heap.size) → W.heap[bx]? = some o → ¬ p bx →
    CallsIn Fence.wide k P gf (#[.func (.yield L) #[] #[]] ++ lb) W fun e W' => (∃ v, e = .returned v) ∧ ∃ p', ((∃ xs, S xs ∧ J xs p' W') ∨ (∃ pre, Sp pre ∧ Jx pre p' W'))

/-- How a round of the body may end. -/
def minePost {α : Type} (I : List α → BSet → World → Prop) (Ix : Code → List α → BSet → World → Prop) (xs : List α) (p : BSet) (W : World) : Exit → Act → World → Prop
  | .normal, _, W' => ∃ p', Rnd p p' W W' ∧ I xs p' W'
  | .ret, _, W' => ∃ p', Rnd p p' W W' ∧ Ix .ret xs p' W'
  | .exit id, _, W' => ∃ p', Rnd p p' W W' ∧ Ix (.exit id) xs p' W'
  | .goto t, _, W' => ∃ p', Rnd p p' W W' ∧ Ix (.goto t) xs p' W'
  | .panic _, _, _ => False
  | .outgrown, _, _ => False

theorem wpIn_rangeFunc_mine {α : Type} {g : Operand} {ps : Array Tmp} {assign body : Code} {Q : Exit → Act → World → Prop} {a : Act} {w : World} {m : Nat}
    {gf : Nat} {lb : Array Value} (hg : a.eval g = .func (.func gf) #[] lb) (eg : ∀ args w, (callFunc gf args).run P w = .ok (.enter gf args) w)
    {encs : α → Array Value} {bx : Nat} {o : Obj} {En : List α → α → Prop} {S Sp : List α → Prop} (hit : StopsM P m (n - 1) gf lb encs bx o En S Sp) (hps : ∀ x, (encs x).size = ps.size)
    (I : List α → BSet → World → Prop) (Ix : Code → List α → BSet → World → Prop) (hI : KeepsOut w.heap.size I) (hIx : ∀ c, KeepsOut w.heap.size (Ix c)) {p0 : BSet} (h0 : I [] p0 w) (hp0 : ∀ k, p0 k → k < w.heap.size) (hbx : w.heap[bx]? = some o) (hpb : ¬ p0 bx)
    (Ax : List α → α → BSet → Act → World → Prop) (hAx : ∀ pre x a', KeepsOut w.heap.size (fun (_ : Unit) p W => Ax pre x p a' W))
    (hassign : ∀ (l : Nat) (pre : List α) (x : α) (p : BSet) (W : World), I pre p W → En pre x →
      assign.wpIn (Fence.wide.inRound l) m P (Exit.then (fun a' W' => ∃ p', Rnd p p' W W' ∧ Ax pre x p' a' W') (fun _ _ _ => False)) { tmps := (ps.zip (encs x)).foldl (fun t (p, v) => t.setIfInBounds p v) a.tmps, defers := [] } W)
    (hbody : ∀ (l : Nat) (pre : List α) (x : α) (p : BSet) (a' : Act) (W : World), En pre x → Ax pre x p a' W → body.wpIn (Fence.wide.inRound l) m P (minePost I Ix (pre ++ [x]) p W) a' W)
    (hdone : ∀ (D : Nat) (xs : List α) (p : BSet) (W : World), w.heap.size ≤ D → ¬ p D → S xs → I xs p W → W.heap[D]? = some (.deferred (some [])) → Q .normal { a with defers := { target := .collected D, args := #[] } :: a.defers } W)
    (hstop : ∀ (D : Nat) (c : Code) (pre : List α) (p : BSet) (W : World), w.heap.size ≤ D → ¬ p D → Sp pre → Ix c pre p W → W.heap[D]? = some (.deferred (some [])) → c.wpIn Fence.wide n P Q { a with defers := { target := .collected D, args := #[] } :: a.defers } W) :
    (Code.rangeFunc g ps assign body).wpIn Fence.wide n P Q a w := by
  have hbl : bx < w.heap.size := (Array.getElem?_eq_some_iff.1 hbx).1
  refine wpIn_rangeFunc fun fn _ => ?_
  obtain ⟨rec, hrec⟩ : ∃ rec : LoopState → Option Code → Loop, rec = fun st pe => { state := st, pending := pe, fn, tmps := a.tmps, params := ps, assign, body, defers := w.heap.size } := ⟨_, rfl⟩
  obtain ⟨W1, hW1⟩ : ∃ W1, (w.alloc (.deferred (some []))).alloc (.loop (rec .ready none)) = W1 := ⟨_, rfl⟩
  have hL1 : W1.heap[w.heap.size + 1]? = some (.loop (rec .ready none)) := by
    rw [← hW1]; have := World.alloc_heap_new (w.alloc (.deferred (some []))) (.loop (rec .ready none)); rwa [World.size_alloc] at this
  have hD1 : W1.heap[w.heap.size]? = some (.deferred (some [])) := by
    rw [← hW1]; exact (Below.heap_alloc _ _ _ (by simp)).trans (World.alloc_heap_new w _)
  have hs1 : W1.heap.size = w.heap.size + 2 := by rw [← hW1]; simp
  have hB1 : W1.heap[bx]? = some o := by
    rw [← hW1]; exact (Below.heap_alloc _ _ _ (by simp; omega)).trans ((Below.heap_alloc _ _ _ hbl).trans hbx)
  have hI1 : I [] p0 W1 := hI _ _ _ _ h0 (by rw [← hW1]; exact (IStep.alloc _ rfl).trans (IStep.alloc _ rfl))
  have hput : ∀ {β : Type} {I' : β → BSet → World → Prop} (_ : KeepsOut w.heap.size I') {s : β} {p : BSet} {W : World} (l' : Loop), I' s p W → ¬ p (w.heap.size + 1) → I' s p (W.putObj (w.heap.size + 1) (.loop l')) := by
    intro β I' h s p W l' hi hn
    exact h _ _ _ _ hi (IStep.putObj _ rfl (by omega) hn)
  refine ⟨w.heap.size + 1, [{ target := .collected w.heap.size, args := #[] }], W1, { target := .fn (.func gf) lb, args := #[.func (.yield (w.heap.size + 1)) #[] #[]] }, W1, gf,
    #[.func (.yield (w.heap.size + 1)) #[] #[]] ++ lb, W1, ?_, ?_, fun _ _ => trivial, ?_, (fun h => by cases h), ?_⟩
  · rw [← hW1, hrec]; exact run_enterLoop_outer _ _ _ _ _
  · simp only [resolve, hg]
    simp [go_sem]
  · simp [invoke, go_sem, eg]
  refine (hit (w.heap.size + 1)
    (fun pre pj W => ∃ p, (pj = fun k => p k ∨ k = w.heap.size + 1) ∧ (¬ p (w.heap.size + 1) ∧ ¬ p w.heap.size) ∧ I pre p W ∧ W.heap[w.heap.size + 1]? = some (.loop (rec .ready none)) ∧ W.heap[w.heap.size]? = some (.deferred (some [])))
    (fun pre pj W => ∃ p, (pj = fun k => p k ∨ k = w.heap.size + 1) ∧ (¬ p (w.heap.size + 1) ∧ ¬ p w.heap.size) ∧ ∃ c, Ix c pre p W ∧ W.heap[w.heap.size + 1]? = some (.loop (rec .done (some c))) ∧ W.heap[w.heap.size]? = some (.deferred (some [])))
    (fun k => p0 k ∨ k = w.heap.size + 1) W1 ?_ ?_ ?_ ⟨p0, rfl, ⟨fun h => by have := hp0 _ h; omega, fun h => by have := hp0 _ h; omega⟩, hI1, hL1, hD1⟩ ?_ hB1 ?_).mono ?_
  · rintro pre pj W W' ⟨p, rfl, hn, hi, hl, hd⟩ hk
    exact ⟨p, rfl, hn, hI _ _ _ _ hi (hk.mono (by omega) (fun k h2 => .inl h2)), (hk.keep.block _ (Array.getElem?_eq_some_iff.1 hl).1 (by rintro ⟨h, _⟩; omega)).trans hl, (hk.keep.block _ (Array.getElem?_eq_some_iff.1 hd).1 (by rintro ⟨h, _⟩; omega)).trans hd⟩
  · rintro pre pj W W' ⟨p, rfl, hn, c, hi, hl, hd⟩ hk
    exact ⟨p, rfl, hn, c, hIx c _ _ _ _ hi (hk.mono (by omega) (fun k h2 => .inl h2)), (hk.keep.block _ (Array.getElem?_eq_some_iff.1 hl).1 (by rintro ⟨h, _⟩; omega)).trans hl, (hk.keep.block _ (Array.getElem?_eq_some_iff.1 hd).1 (by rintro ⟨h, _⟩; omega)).trans hd⟩
  · rintro pre x pj W ⟨p, rfl, ⟨hnl, hnd⟩, hi, hl, hd⟩ hen
    have hlt : w.heap.size + 1 < W.heap.size := (Array.getElem?_eq_some_iff.1 hl).1
    have hy := run_yield (P := P) (args := encs x) hl (by rw [hrec]; exact hps x)
    rw [hrec] at hy
    refine ⟨fn, _, assign, body, hy, roundIn_of_wpIn trivial (wpIn_mono (hassign _ pre x p W hi hen) ?_)⟩
    clear hy
    intro e a₁ Wa hq
    cases e with
    | normal =>
      obtain ⟨p1, hr1, hax⟩ := hq
      have hl1 := (hr1.same hlt hnl).trans hl
      have hd1 := (hr1.same (by omega) hnd).trans hd
      have hnl1 := hr1.not hlt hnl
      have hnd1 := hr1.not (by omega) hnd
      have hlt1 : w.heap.size + 1 < Wa.heap.size := (Array.getElem?_eq_some_iff.1 hl1).1
      refine ⟨_, run_beginRound hl1 (by rw [hrec]), ?_⟩
      have hl2 : (Wa.putObj (w.heap.size + 1) (.loop { rec .ready none with state := .busy })).heap[w.heap.size + 1]? = some (.loop { rec .ready none with state := .busy }) := World.putObj_heap_same hlt1
      have hd2 : (Wa.putObj (w.heap.size + 1) (.loop { rec .ready none with state := .busy })).heap[w.heap.size]? = some (.deferred (some [])) := (World.putObj_heap_other (by omega)).trans hd1
      have hkl : Keep (fun k => p k ∨ k = w.heap.size + 1) W (Wa.putObj (w.heap.size + 1) (.loop { rec .ready none with state := .busy })) :=
        (hr1.keep.mono (fun k h _ => .inl h)).grown (grownBy_putObj' Wa (w.heap.size + 1) _) (fun g e _ => by cases e; exact .inr rfl)
      have hz2 : (Wa.putObj (w.heap.size + 1) (.loop { rec .ready none with state := .busy })).heap.size = Wa.heap.size := by simp [World.putObj]
      refine wpIn_mono (hbody _ pre x p1 a₁ _ hen (hput (hAx pre x a₁) (s := ()) _ hax hnl1)) ?_
      have fin : ∀ (jump : Option Code) (p2 : BSet) (W3 : World), Rnd p1 p2 (Wa.putObj (w.heap.size + 1) (.loop { rec .ready none with state := .busy })) W3 →
          (Instr.endRound (w.heap.size + 1) jump).run P W3 = .ok (.bool jump.isNone) (W3.putObj (w.heap.size + 1) (.loop (rec (if jump.isNone then .ready else .done) jump))) ∧
          (W3.putObj (w.heap.size + 1) (.loop (rec (if jump.isNone then .ready else .done) jump))).heap[w.heap.size + 1]? = some (.loop (rec (if jump.isNone then .ready else .done) jump)) ∧
          (W3.putObj (w.heap.size + 1) (.loop (rec (if jump.isNone then .ready else .done) jump))).heap[w.heap.size]? = some (.deferred (some [])) ∧
          (¬ p2 (w.heap.size + 1) ∧ ¬ p2 w.heap.size) ∧
          Rnd (fun k => p k ∨ k = w.heap.size + 1) (fun k => p2 k ∨ k = w.heap.size + 1) W (W3.putObj (w.heap.size + 1) (.loop (rec (if jump.isNone then .ready else .done) jump))) := fun jump p2 W3 hr2 => by
        have hl3 := (hr2.same (by rw [hz2]; exact hlt1) hnl1).trans hl2
        have hd3 := (hr2.same (by rw [hz2]; omega) hnd1).trans hd2
        have := run_endRound (P := P) jump hl3
        rw [hrec] at this ⊢
        refine ⟨this, World.putObj_heap_same (Array.getElem?_eq_some_iff.1 hl3).1, (World.putObj_heap_other (by omega)).trans hd3, ⟨hr2.not (by rw [hz2]; exact hlt1) hnl1, hr2.not (by rw [hz2]; omega) hnd1⟩, ⟨fun k hk h => ?_, ?_⟩⟩
        · rcases h with h | h
          · exact .inl (hr1.own k hk (hr2.own k (by rw [hz2]; exact Nat.lt_of_lt_of_le hk hr1.keep.size) h))
          · exact .inr h
        · rw [hrec] at hkl hr2
          exact (hkl.trans hr2.keep (fun k h hk => .inl (hr1.own k hk h))).grown (grownBy_putObj' W3 (w.heap.size + 1) _) (fun g e _ => by cases e; exact .inr rfl)
      rintro e a3 W3 hp
      cases e with
      | normal =>
        obtain ⟨p2, hr2, hi3⟩ := hp
        obtain ⟨hr, hl4, hd4, hn4, hR⟩ := fin none p2 W3 hr2
        exact ⟨_, _, hr, ⟨_, hR, .inl ⟨rfl, p2, rfl, hn4, hput hI _ hi3 hn4.1, hl4, hd4⟩⟩⟩
      | ret =>
        obtain ⟨p2, hr2, hi3⟩ := hp
        obtain ⟨hr, hl4, hd4, hn4, hR⟩ := fin (some .ret) p2 W3 hr2
        exact ⟨_, _, hr, ⟨_, hR, .inr ⟨rfl, p2, rfl, hn4, .ret, hput (hIx _) _ hi3 hn4.1, hl4, hd4⟩⟩⟩
      | exit id =>
        obtain ⟨p2, hr2, hi3⟩ := hp
        obtain ⟨hr, hl4, hd4, hn4, hR⟩ := fin (some (.exit id)) p2 W3 hr2
        exact ⟨_, _, hr, ⟨_, hR, .inr ⟨rfl, p2, rfl, hn4, .exit id, hput (hIx _) _ hi3 hn4.1, hl4, hd4⟩⟩⟩
      | goto t =>
        obtain ⟨p2, hr2, hi3⟩ := hp
        obtain ⟨hr, hl4, hd4, hn4, hR⟩ := fin (some (.goto t)) p2 W3 hr2
        exact ⟨_, _, hr, ⟨_, hR, .inr ⟨rfl, p2, rfl, hn4, .goto t, hput (hIx _) _ hi3 hn4.1, hl4, hd4⟩⟩⟩
      | panic ch => exact hp.elim
      | outgrown => exact hp.elim
    | exit id => exact hq
    | goto t => exact hq
    | ret => exact hq
    | panic c => exact hq
    | outgrown => exact hq
  · rintro k (h | h)
    · have := hp0 k h; omega
    · omega
  · rintro (h | h)
    · exact hpb h
    · omega
  · rintro e W2 ⟨⟨v, rfl⟩, pj, (⟨xs, hS, p, rfl, hn, hi, hl, hd⟩ | ⟨pre, hSp, p, rfl, hn, c, hi, hl, hd⟩)⟩
    · exact ⟨none, _, by have := run_endLoop (P := P) hl (by rw [hrec]; simp); rw [hrec] at this; exact this, hdone _ xs p _ (Nat.le_refl _) hn.2 hS (hput hI _ hi hn.1) ((World.putObj_heap_other (by omega)).trans hd)⟩
    · exact ⟨some c, _, by have := run_endLoop (P := P) hl (by rw [hrec]; simp); rw [hrec] at this; exact this, hstop _ c pre p _ (Nat.le_refl _) hn.2 hSp (hput (hIx c) _ hi hn.1) ((World.putObj_heap_other (by omega)).trans hd)⟩
end
end Go.Proofs.YtifobiajjhknbaaGreatDoor
