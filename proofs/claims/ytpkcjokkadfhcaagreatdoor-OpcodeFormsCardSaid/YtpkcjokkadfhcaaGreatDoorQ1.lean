/-
  The plain mathematics of layer value: which numbers are types, which values may be, letters, a value's text and the value of a text. No program, no conditions.
  Words for memory that walks share: what a step keeps (Keep), a slice that reads as a list (Rd), one that the call owns (Own), and append. No conditions.
  The document's own lists of names, what is found in them, and what stands in them. No conditions but bounds.
  The document's lists of names; AluCalled's walk. Conditions: what the project's names answer (NmC, OfC), in worlds of a class that making memory keeps.
  The plain mathematics of layer 1 (vary): zigzag, widths, digits, what a first byte tells; no program is named here. No conditions.
  What the small functions of vary and of the document's answers return (Zig, Zag, Width, mark, told): just the plain mathematics' numbers; the world stays. No conditions but that a number fits its type.
  The iterator that digits hands back: nine rounds, the highest place first, whatever the loop's body does that keeps the number's box. No conditions.
  encode: a number's bytes, in new memory. No condition but that the number fits its type.
  The plain mathematics of layer opcode: the rows of instructions, the ranges of operands, which instructions may be, what an operand and an instruction are as text and as bytes. No program, no conditions.
-/
import Derived.BigQuiet
import Derived.Deep.AppendLies
import Derived.Deep.Draws
import Derived.Deep.QuietTactic
import Derived.Deep.RegionHeld3
import Derived.Deep.RegionLaw
import Derived.Deep.RegionWith
import Derived.Laws.Bits64
import Derived.Laws.BitsAllLaws
import Derived.Lib.Hide
import Derived.Lib.ItoaLen
import Derived.Lib.ParseIntBTie
import Derived.LoopIn
import Derived.LoopNIn
import Derived.Maps.AppendAt
import Derived.OwnWalk
import Derived.OwnWalkIn
import Derived.RangeFuncBound
import Derived.RangeFuncBox
import Derived.RangeFuncCalls
import Derived.RangeFuncLeaves
import Derived.RangeFuncNested
import Derived.Shelf.Abstract
import Derived.Shelf.RegionOpen
import Derived.TacticsInMore
import Derived.WalkKit
import Derived.WalkLawsBesides
import Derived.WalkSpells
import Derived.Test.YtpkcjokkadfhcaaGreatDoorProg
import Derived.Test.YtpkcjokkadfhcaaGreatDoorShelf
namespace Go.Proofs.YtpkcjokkadfhcaaGreatDoor.W
open Go.Lib

abbrev str (l : List UInt8) : ByteArray := ⟨l.toArray⟩

/-- Is the number a type? -/
def knownB (t : Int) : Bool := decide (1 ≤ t ∧ t ≤ 4)
/-- May the value be? -/
def okB (t n : Int) : Bool := decide ((1 ≤ t ∧ t ≤ 4) ∧ (t = 1 ∨ 0 ≤ n))
/-- Is it nil? -/
def nilB (t n : Int) : Bool := decide ((2 ≤ t ∧ t ≤ 4) ∧ n = 0)
/-- A type's letter. -/
def letC (t : Int) : List UInt8 := if t = 1 then [73] else if t = 2 then [82] else if t = 3 then [70] else if t = 4 then [80] else []

theorem known_iff (t : Int) : knownB t = true ↔ 1 ≤ t ∧ t ≤ 4 := by simp [knownB]
theorem known_not (t : Int) : knownB t = false ↔ ¬ (1 ≤ t ∧ t ≤ 4) := by simp [knownB]
theorem ok_iff (t n : Int) : okB t n = true ↔ (1 ≤ t ∧ t ≤ 4) ∧ (t = 1 ∨ 0 ≤ n) := by simp [okB]
theorem ok_not (t n : Int) : okB t n = false ↔ ¬ ((1 ≤ t ∧ t ≤ 4) ∧ (t = 1 ∨ 0 ≤ n)) := by unfold okB; rw [decide_eq_false_iff_not]
theorem nil_iff (t n : Int) : nilB t n = true ↔ (2 ≤ t ∧ t ≤ 4) ∧ n = 0 := by simp [nilB]
theorem nil_not (t n : Int) : nilB t n = false ↔ ¬ ((2 ≤ t ∧ t ≤ 4) ∧ n = 0) := by unfold nilB; rw [decide_eq_false_iff_not]
theorem ok_known {t n : Int} (h : okB t n = true) : knownB t = true := by rw [known_iff]; exact ((ok_iff t n).1 h).1

theorem known_cases {t : Int} (h : knownB t = true) : t = 1 ∨ t = 2 ∨ t = 3 ∨ t = 4 := by rw [known_iff] at h; omega
theorem letC_known {t : Int} (h : knownB t = true) : ∃ c, letC t = [c] ∧ c.toNat < 128 := by
  rcases known_cases h with rfl | rfl | rfl | rfl <;> exact ⟨_, rfl, by decide⟩
theorem letC_none {t : Int} (h : knownB t = false) : letC t = [] := by
  rw [known_not] at h
  unfold letC
  rw [if_neg (by omega), if_neg (by omega), if_neg (by omega), if_neg (by omega)]
theorem letC_inj {a b : Int} (ha : knownB a = true) (h : letC a = letC b) : a = b := by
  cases hb : knownB b
  · rw [letC_none hb] at h
    obtain ⟨c, hc, _⟩ := letC_known ha
    rw [hc] at h; cases h
  · rcases known_cases ha with rfl | rfl | rfl | rfl <;> rcases known_cases hb with rfl | rfl | rfl | rfl <;> first | rfl | (exact absurd h (by decide))

/-! ### Texts of lists of types -/

/-- A list's text, or nothing. -/
def txt (l : List Int) : List UInt8 := if l.length ≤ 1024 ∧ l.all knownB = true then l.flatMap letC else []
/-- A letter's type; 0: none has it. -/
def unlet (c : UInt8) : Int := if c = 73 then 1 else if c = 82 then 2 else if c = 70 then 3 else if c = 80 then 4 else 0
/-- The types of a text, if it is one. -/
def untxt (s : List UInt8) : Option (List Int) := if s.length ≤ 1024 ∧ (s.all fun c => decide (unlet c ≠ 0)) = true then some (s.map unlet) else none

theorem unlet_known (c : UInt8) : unlet c = 0 ∨ knownB (unlet c) = true := by
  unfold unlet
  split
  · right; decide
  · split
    · right; decide
    · split
      · right; decide
      · split
        · right; decide
        · left; rfl
theorem unlet_let {c : UInt8} (h : unlet c ≠ 0) : letC (unlet c) = [c] := by
  unfold unlet at h ⊢
  split
  · rename_i e; rw [e]; rfl
  · split
    · rename_i e; rw [e]; rfl
    · split
      · rename_i e; rw [e]; rfl
      · split
        · rename_i e; rw [e]; rfl
        · rename_i h1 h2 h3 h4
          rw [if_neg h1, if_neg h2, if_neg h3, if_neg h4] at h
          exact absurd rfl h
theorem unlet_of {t : Int} {c : UInt8} (ht : knownB t = true) (h : letC t = [c]) : unlet c = t := by
  rcases known_cases ht with rfl | rfl | rfl | rfl <;> · injection h with h _; subst h; rfl

theorem flat_let_length : ∀ (l : List Int), l.all knownB = true → (l.flatMap letC).length = l.length
  | [], _ => rfl
  | t :: r, h => by
    simp only [List.all_cons, Bool.and_eq_true] at h
    obtain ⟨c, hc, _⟩ := letC_known h.1
    rw [List.flatMap_cons, List.length_append, hc, flat_let_length r h.2]
    simp; omega
theorem unlet_flat : ∀ (l : List Int), l.all knownB = true → (l.flatMap letC).map unlet = l ∧ ((l.flatMap letC).all fun c => decide (unlet c ≠ 0)) = true
  | [], _ => ⟨rfl, rfl⟩
  | t :: r, h => by
    simp only [List.all_cons, Bool.and_eq_true] at h
    obtain ⟨c, hc, _⟩ := letC_known h.1
    obtain ⟨h1, h2⟩ := unlet_flat r h.2
    have hu := unlet_of h.1 hc
    have h0 : ¬ t = 0 := by have := (known_iff t).1 h.1; omega
    rw [List.flatMap_cons, hc]
    refine ⟨?_, ?_⟩
    · rw [List.map_append, h1]; simp [hu]
    · rw [List.all_append, h2]; simp [hu, h0]
theorem flat_unlet : ∀ (s : List UInt8), (s.all fun c => decide (unlet c ≠ 0)) = true → (s.map unlet).flatMap letC = s ∧ (s.map unlet).all knownB = true
  | [], _ => ⟨rfl, rfl⟩
  | c :: r, h => by
    simp only [List.all_cons, Bool.and_eq_true, decide_eq_true_eq] at h
    obtain ⟨h1, h2⟩ := flat_unlet r h.2
    rw [List.map_cons, List.flatMap_cons, unlet_let h.1, h1, List.all_cons, h2]
    exact ⟨rfl, by simpa using (unlet_known c).resolve_left h.1⟩

theorem txt_length {l : List Int} (h1 : l.length ≤ 1024) (h2 : l.all knownB = true) : (txt l).length = l.length := by
  unfold txt; rw [if_pos ⟨h1, h2⟩, flat_let_length l h2]
theorem untxt_txt {l : List Int} (h1 : l.length ≤ 1024) (h2 : l.all knownB = true) : untxt (txt l) = some l := by
  have hl := flat_let_length l h2
  obtain ⟨u1, u2⟩ := unlet_flat l h2
  have ht : txt l = l.flatMap letC := by unfold txt; rw [if_pos ⟨h1, h2⟩]
  rw [ht]
  unfold untxt
  rw [if_pos ⟨by omega, u2⟩, u1]
theorem txt_untxt {s : List UInt8} {l : List Int} (h : untxt s = some l) : txt l = s := by
  unfold untxt at h
  split at h
  · rename_i hc
    injection h with h
    subst h
    obtain ⟨u1, u2⟩ := flat_unlet s hc.2
    unfold txt
    rw [if_pos ⟨by simpa using hc.1, u2⟩, u1]
  · cases h
theorem txt_bad {l : List Int} (h : l.all knownB = false) : txt l = [] := by unfold txt; rw [if_neg (by simp [h])]
theorem txt_long {l : List Int} (h : 1024 < l.length) : txt l = [] := by unfold txt; rw [if_neg (by omega)]

/-! ### A value's text -/

/-- The sign in front. -/
def sgn (t : Int) : List UInt8 := if t = 2 then [35] else if t = 3 then [64] else if t = 4 then [38] else []
/-- What a value's number is above the one shown. -/
def off (t : Int) : Int := if t = 3 then 1 else 0
/-- A value's text; nothing, if it may not be. -/
def showL (t n : Int) : List UInt8 := if okB t n = false then [] else if nilB t n = true then [110, 105, 108] else if t = 4 then [38] else sgn t ++ itoa (n - off t)

theorem show_bad {t n : Int} (h : okB t n = false) : showL t n = [] := by unfold showL; rw [if_pos h]
theorem show_nil {t n : Int} (h : nilB t n = true) : showL t n = [110, 105, 108] := by
  have h1 : ¬ okB t n = false := by rw [ok_not]; rw [nil_iff] at h; omega
  unfold showL; rw [if_neg h1, if_pos h]
theorem show_ptr {n : Int} (h : 0 < n) : showL 4 n = [38] := by
  have h1 : ¬ okB 4 n = false := by rw [ok_not]; omega
  have h2 : ¬ nilB 4 n = true := by rw [nil_iff]; omega
  unfold showL; rw [if_neg h1, if_neg h2, if_pos rfl]
theorem show_num {t n : Int} (h : okB t n = true) (h0 : nilB t n = false) (h4 : t ≠ 4) : showL t n = sgn t ++ itoa (n - off t) := by
  unfold showL; rw [if_neg (by simp [h]), if_neg (by simp [h0]), if_neg h4]

/-! ### Decimal digits there and back -/

theorem dec_ne (u : Nat) : decDigits u ≠ [] := by
  intro h; have h1 := decDigits_length u; have := nDigits_pos u; rw [h] at h1; simp at h1; omega
theorem byte_dig (d : Nat) (h : d < 10) : (UInt8.ofNat (48 + d)).toNat = 48 + d := by rw [UInt8.toNat_ofNat', Nat.mod_eq_of_lt (by omega)]
theorem dec_digits (u : Nat) : ∀ c ∈ decDigits u, 48 ≤ c.toNat ∧ c.toNat ≤ 57 := by
  induction u using Nat.strongRecOn with
  | _ u ih =>
    rw [decDigits]
    split
    · rename_i h
      intro c hc
      simp only [List.mem_singleton] at hc
      rw [hc, byte_dig u h]; omega
    · rename_i h
      intro c hc
      rcases List.mem_append.1 hc with hc | hc
      · exact ih (u / 10) (by omega) c hc
      · simp only [List.mem_singleton] at hc
        rw [hc, byte_dig (u % 10) (by omega)]; omega

/-- What digits spell, on from acc. -/
def spell (acc : Nat) (l : List UInt8) : Nat := l.foldl (fun a c => a * 10 + (c.toNat - 48)) acc
theorem spell_append (acc : Nat) (l r : List UInt8) : spell acc (l ++ r) = spell (spell acc l) r := List.foldl_append
theorem spell_le (l : List UInt8) : ∀ acc, acc ≤ spell acc l := by
  induction l with
  | nil => intro acc; exact Nat.le_refl _
  | cons c r ih =>
    intro acc
    have := ih (acc * 10 + (c.toNat - 48))
    show acc ≤ spell (acc * 10 + (c.toNat - 48)) r
    omega
theorem spell_dec (u : Nat) : spell 0 (decDigits u) = u := by
  induction u using Nat.strongRecOn with
  | _ u ih =>
    rw [decDigits]
    split
    · rename_i h
      show 0 * 10 + ((UInt8.ofNat (48 + u)).toNat - 48) = u
      rw [byte_dig u h]; omega
    · rename_i h
      rw [spell_append, ih (u / 10) (by omega)]
      show u / 10 * 10 + ((UInt8.ofNat (48 + u % 10)).toNat - 48) = u
      rw [byte_dig (u % 10) (by omega)]; omega
theorem parse_spell : ∀ (l : List UInt8) (acc : Nat), (∀ c ∈ l, 48 ≤ c.toNat ∧ c.toNat ≤ 57) → spell acc l < 18446744073709551616 → parseUint10 acc l = .ok (spell acc l)
  | [], acc, _, _ => rfl
  | c :: r, acc, hd, hs => by
    have hc := hd c (List.mem_cons_self ..)
    have hle := spell_le r (acc * 10 + (c.toNat - 48))
    have he : spell acc (c :: r) = spell (acc * 10 + (c.toNat - 48)) r := rfl
    rw [he] at hs ⊢
    unfold parseUint10
    rw [if_pos hc, if_neg (by omega), if_neg (by omega)]
    exact parse_spell r _ (fun c h => hd c (List.mem_cons_of_mem _ h)) hs
theorem mag_dec (u : Nat) (h : u < 18446744073709551616) : parseMag (decDigits u) = .ok u := by
  unfold parseMag
  rw [if_neg (dec_ne u), parse_spell _ 0 (dec_digits u) (by rw [spell_dec]; exact h), spell_dec]

theorem dec_cons (u : Nat) : ∃ c r, decDigits u = c :: r ∧ 48 ≤ c.toNat ∧ c.toNat ≤ 57 := by
  cases h : decDigits u with
  | nil => exact absurd h (dec_ne u)
  | cons c r => exact ⟨c, r, rfl, dec_digits u c (by rw [h]; exact List.mem_cons_self ..)⟩
theorem itoa_pos {n : Int} (h : 0 ≤ n) : itoa n = decDigits n.toNat := by unfold itoa; rw [if_neg (by omega)]
theorem itoa_minus {n : Int} (h : n < 0) : itoa n = 45 :: decDigits n.natAbs := by unfold itoa; rw [if_pos h]
theorem itoa_cons (n : Int) : ∃ c r, itoa n = c :: r ∧ (c = 45 ∨ (48 ≤ c.toNat ∧ c.toNat ≤ 57)) := by
  by_cases h : n < 0
  · exact ⟨_, _, itoa_minus h, .inl rfl⟩
  · obtain ⟨c, r, h1, h2⟩ := dec_cons n.toNat
    exact ⟨c, r, (itoa_pos (by omega)).trans h1, .inr h2⟩

/-- A number's own text is read as the number. -/
theorem atoi_itoa (n : Int) (h0 : -9223372036854775808 ≤ n) (h1 : n ≤ 9223372036854775807) : atoiAll (itoa n) = .ok n := by
  by_cases h : n < 0
  · rw [itoa_minus h]
    unfold atoiAll
    have e : (45 : UInt8).toNat = 45 := rfl
    simp only [e, or_true, if_true]
    rw [mag_dec _ (by omega)]
    simp only [not_true, false_and, if_false, true_and]
    rw [if_neg (by omega)]
    congr 1; omega
  · obtain ⟨c, r, hc, hd⟩ := dec_cons n.toNat
    have hm := mag_dec n.toNat (by omega)
    rw [itoa_pos (by omega)]
    rw [hc] at hm ⊢
    unfold atoiAll
    have e1 : ¬ (c.toNat = 43 ∨ c.toNat = 45) := by omega
    have e2 : ¬ c.toNat = 45 := by omega
    dsimp only
    rw [if_neg e1, hm]
    dsimp only
    rw [if_neg (by omega), if_neg (by omega), if_neg e2]
    congr 1; omega

theorem itoa_inj {a b : Int} (ha : -9223372036854775808 ≤ a ∧ a ≤ 9223372036854775807) (hb : -9223372036854775808 ≤ b ∧ b ≤ 9223372036854775807) (h : itoa a = itoa b) : a = b := by
  have h1 := atoi_itoa a ha.1 ha.2
  rw [h, atoi_itoa b hb.1 hb.2] at h1
  injection h1 with h1
  exact h1.symm

theorem size_of {S : ByteArray} {s : List UInt8} (h : S.data.toList = s) : S.size = s.length := by rw [← h, Array.length_toList]; rfl
theorem byte_at {S : ByteArray} {s : List UInt8} (h : S.data.toList = s) (i : Nat) (hi : i < S.size) (hj : i < s.length) : S[i] = s[i] := by subst h; simp; rfl
theorem get_at {S : ByteArray} (i : Nat) (hi : i < S.size) : S.get! i = S[i] := by simp [ByteArray.get!, getElem!_pos, hi]; rfl

end Go.Proofs.YtpkcjokkadfhcaaGreatDoor.W

namespace Go.Proofs.YtpkcjokkadfhcaaGreatDoor
open Go.RowKit

theorem ret_bool {a b : Bool} (h : a = b) : Ending.returned (.bool a) = .returned (.bool b) := by rw [h]
theorem ret_int {k : IntKind} {a b : Int} (h : a = b) : Ending.returned (.int k a) = .returned (.int k b) := by rw [h]

/-- What lay when the step began, and is none of O, lies as it lay. -/
structure Keep (O : Nat → Prop) (w w' : World) : Prop where
  os : w'.os = w.os
  tape : w'.tape = w.tape
  output : w'.output = w.output
  size : w.heap.size ≤ w'.heap.size
  block : ∀ k, k < w.heap.size → ¬ O k → w'.heap[k]? = w.heap[k]?

/-- No block at all. -/
def NoB : Nat → Prop := fun _ => False
/-- Blocks that were not yet there. -/
def Fresh (w : World) : Nat → Prop := fun k => w.heap.size ≤ k

section
variable {O O' : Nat → Prop} {w w1 w2 : World}
theorem Keep.refl (O : Nat → Prop) (w : World) : Keep O w w := ⟨rfl, rfl, rfl, Nat.le_refl _, fun _ _ _ => rfl⟩
theorem Keep.trans (h : Keep O w w1) (h' : Keep O' w1 w2) (hO : ∀ k, O' k → k < w.heap.size → O k) : Keep O w w2 :=
  ⟨h'.os.trans h.os, h'.tape.trans h.tape, h'.output.trans h.output, Nat.le_trans h.size h'.size,
    fun k hk hn => (h'.block k (Nat.lt_of_lt_of_le hk h.size) (fun ho => hn (hO k ho hk))).trans (h.block k hk hn)⟩
theorem Keep.mono (h : Keep O w w1) (hO : ∀ k, O k → k < w.heap.size → O' k) : Keep O' w w1 :=
  ⟨h.os, h.tape, h.output, h.size, fun k hk hn => h.block k hk (fun ho => hn (hO k ho hk))⟩
theorem Keep.drew (h : Keep O w w1) : Keep O w w1.drew := ⟨h.os, h.tape, h.output, h.size, h.block⟩
theorem Keep.drewN (h : Keep O w w1) (n : Nat) : Keep O w (w1.drewN n) := ⟨h.os, h.tape, h.output, h.size, h.block⟩
theorem Keep.alloc (h : Keep O w w1) (o : Obj) : Keep O w (w1.alloc o) :=
  h.trans (O' := NoB) ⟨rfl, rfl, rfl, by simp, fun k hk _ => Below.heap_alloc _ _ _ hk⟩ (fun _ hf => hf.elim)
theorem Keep.setCell (h : Keep O w w1) {p : Addr} (hp : p.block < w.heap.size → O p.block) (u : Value) : Keep O w (w1.setCell p u) :=
  h.trans (O' := fun k => k = p.block) ⟨rfl, rfl, rfl, by simp [World.setCell], fun k _ hn => Below.heap_setCell _ _ _ _ hn⟩ (fun k e hk => by rw [e] at hk ⊢; exact hp hk)
theorem Keep.grown {row : Option Nat} (h : Keep O w w1) (hg : w1.grownBy w2 row) (hr : ∀ g, row = some g → g < w.heap.size → O g) : Keep O w w2 :=
  h.trans (O' := fun k => some k = row) ⟨hg.os, hg.tape, hg.output, hg.size, fun k hk hn => hg.block k hk hn⟩ (fun k e hk => hr k e.symm hk)
theorem Keep.below (h : Keep O w w1) (hO : ∀ k, O k → w.heap.size ≤ k) : Below w.heap.size w w1 :=
  ⟨h.os, h.tape, h.output, h.size, fun k hk => h.block k hk (fun ho => by have := hO k ho; omega)⟩
theorem Keep.of_below (h : Below w.heap.size w w1) : Keep O w w1 := ⟨h.os, h.tape, h.output, h.size, fun k hk _ => h.block k hk⟩
theorem Keep.cell (h : Keep O w w1) {p : Addr} {v : Value} (hc : w.cell? p = some v) (hp : ¬ O p.block) : w1.cell? p = some v :=
  (World.cell?_of_block (h.block _ (World.block_lt_of_cell? w p hc) hp)).trans hc
theorem keepN (h : Keep NoB w w1) (h' : Keep NoB w1 w2) : Keep NoB w w2 := h.trans h' (fun _ hf _ => hf.elim)
theorem Keep.toBelow (h : Keep NoB w w1) : Below w.heap.size w w1 := h.below (fun _ hf => hf.elim)
end

/-- A slice's address, from which the cells xs stand. -/
def Rd (w : World) (A : Option Addr) (xs : List Value) : Prop :=
  0 < xs.length → ∃ g off, A = some ⟨g, off, none⟩ ∧ ∀ j u, xs[j]? = some u → w.cell? ⟨g, off + j, none⟩ = some u
theorem Rd.none_ (w : World) (A : Option Addr) : Rd w A [] := fun h => by simp at h
theorem Rd.keep {O : Nat → Prop} {w w' : World} {A : Option Addr} {xs : List Value} (h : Rd w A xs) (hk : Keep O w w') (hA : ∀ ad, A = some ad → ¬ O ad.block) : Rd w' A xs := fun h0 => by
  obtain ⟨g, off, e, hc⟩ := h h0
  exact ⟨g, off, e, fun j u hu => hk.cell (hc j u hu) (by have := hA _ e; exact this)⟩
theorem Rd.keepN {w w' : World} {A : Option Addr} {xs : List Value} (h : Rd w A xs) (hk : Keep NoB w w') : Rd w' A xs := h.keep hk (fun _ _ => id)

/-- Numbers, and values, as cells. -/
abbrev ivs (l : List Int) : List Value := l.map (.int .i64)
def vvs (l : List (Int × Int)) : List Value := l.flatMap fun v => [.int .i64 v.1, .int .i64 v.2]
theorem ivs_one (l : List Int) : ∀ u ∈ ivs l, u.oneCell' = true := by
  intro u hu
  obtain ⟨b, _, rfl⟩ := List.mem_map.1 hu
  rfl
theorem vvs_one (l : List (Int × Int)) : ∀ u ∈ vvs l, u.oneCell' = true := by
  intro u hu
  obtain ⟨b, _, hb⟩ := List.mem_flatMap.1 hu
  rcases List.mem_cons.1 hb with rfl | hb
  · rfl
  · rw [List.mem_singleton.1 hb]; rfl
theorem vvs_cons (v : Int × Int) (l : List (Int × Int)) : vvs (v :: l) = [.int .i64 v.1, .int .i64 v.2] ++ vvs l := by unfold vvs; rw [List.flatMap_cons]
theorem vvs_append (l r : List (Int × Int)) : vvs (l ++ r) = vvs l ++ vvs r := by simp [vvs]
theorem vvs_length (l : List (Int × Int)) : (vvs l).length = l.length * 2 := by
  induction l with
  | nil => rfl
  | cons v l ih => rw [vvs_cons, List.length_append, ih]; simp; omega
theorem vvs_at : ∀ (l : List (Int × Int)) (i : Nat) (h : i < l.length), (vvs l)[i * 2]? = some (.int .i64 l[i].1) ∧ (vvs l)[i * 2 + 1]? = some (.int .i64 l[i].2)
  | v :: l, 0, _ => by rw [vvs_cons]; exact ⟨rfl, rfl⟩
  | v :: l, i + 1, h => by
    have := vvs_at l i (by simpa using h)
    rw [vvs_cons, show (i + 1) * 2 = i * 2 + 2 by omega]
    exact ⟨by simpa using this.1, by simpa using this.2⟩

theorem rdI_at {w : World} {A : Option Addr} {l : List Int} (h : Rd w A (ivs l)) (h0 : 0 < l.length) : ∃ g off, A = some ⟨g, off, none⟩ ∧ ∀ (i : Nat) (hi : i < l.length), w.cell? ⟨g, off + i, none⟩ = some (.int .i64 l[i]) := by
  obtain ⟨g, off, e, hc⟩ := h (by simpa using h0)
  exact ⟨g, off, e, fun i hi => hc i _ (by simp [hi])⟩
theorem rdV_at {w : World} {A : Option Addr} {l : List (Int × Int)} (h : Rd w A (vvs l)) (h0 : 0 < l.length) : ∃ g off, A = some ⟨g, off, none⟩ ∧
    ∀ (i : Nat) (hi : i < l.length), w.cell? ⟨g, off + i * 2, none⟩ = some (.int .i64 l[i].1) ∧ w.cell? ⟨g, off + i * 2 + 1, none⟩ = some (.int .i64 l[i].2) := by
  obtain ⟨g, off, e, hc⟩ := h (by rw [vvs_length]; omega)
  refine ⟨g, off, e, fun i hi => ?_⟩
  obtain ⟨h1, h2⟩ := vvs_at l i hi
  exact ⟨hc _ _ h1, hc _ _ h2⟩

/-- A slice that the call owns: so many elements, so many cells each, in a block of O. -/
def Own (w : World) (E size : Nat) (O : Nat → Prop) (v : Value) (n : Nat) (xs : List Value) : Prop :=
  w.ownsRow 0 E size v n xs ∧ ∀ g, v.ownBlock = some g → O g
section
variable {w w' : World} {E size n : Nat} {O O' : Nat → Prop} {v : Value} {xs : List Value}
theorem Own.nil (w : World) (E size : Nat) (O : Nat → Prop) : Own w E size O (.slice none 0 0) 0 [] := ⟨World.ownsRow_nil _ _ _ _, by simp [Value.ownBlock]⟩
theorem Own.mono (h : Own w E size O v n xs) (hO : ∀ k, O k → k < w.heap.size → O' k) : Own w E size O' v n xs := ⟨h.1, fun g e => hO g (h.2 g e) (h.1.lt g e).2⟩
theorem ownsRow_keep {base : Nat} (h : w.ownsRow base E size v n xs) (hk : Keep O w w') (hn : ∀ g, v.ownBlock = some g → ¬ O g) : w'.ownsRow base E size v n xs := by
  refine ⟨h.1, ?_⟩
  rcases h.2 with h2 | ⟨g, cap, cur, rfl, hb, hh, r⟩
  · exact .inl h2
  · exact .inr ⟨g, cap, cur, rfl, hb, (hk.block g (Array.getElem?_eq_some_iff.1 hh).1 (hn g rfl)).trans hh, r⟩
theorem Own.keep (h : Own w E size O v n xs) (hk : Keep O' w w') (hn : ∀ k, O k → ¬ O' k) : Own w' E size O v n xs := ⟨ownsRow_keep h.1 hk (fun g e => hn g (h.2 g e)), h.2⟩
theorem Own.keepN (h : Own w E size O v n xs) (hk : Keep NoB w w') : Own w' E size O v n xs := h.keep hk (fun _ _ => id)
/-- The slice written out; it reads as its cells. -/
theorem Own.form (h : Own w E size O v n xs) : ∃ A c, v = .slice A n c ∧ n ≤ c ∧ c ≤ maxLen ∧ Rd w A xs ∧ (∀ ad, A = some ad → O ad.block ∧ ad = ⟨ad.block, 0, none⟩) := by
  rcases h.1.2 with ⟨rfl, hn⟩ | ⟨g, cap, cur, rfl, _, hh, hc, hm, _⟩
  · have hx : xs = [] := List.length_eq_zero_iff.1 (by rw [h.1.1, hn, Nat.zero_mul])
    subst hx
    exact ⟨none, 0, by rw [hn], Nat.le_of_eq hn, Nat.zero_le _, Rd.none_ _ _, by simp⟩
  · refine ⟨_, cap, rfl, hc, hm, fun _ => ⟨g, 0, rfl, fun j u hu => ?_⟩, ?_⟩
    · have := h.1.cells (g := g) rfl j u hu
      have ea : (⟨g, 0, none⟩ : Addr).add j = ⟨g, 0 + j, none⟩ := by unfold Addr.add; by_cases hj : j = 0 <;> simp [hj]
      rwa [ea] at this
    · intro ad e
      cases e
      exact ⟨h.2 g rfl, rfl⟩
/-- A row of new blocks, as a contract of the shelf, or of make, hands it out. -/
theorem Own.of_row {base : Nat} (h : w.ownsRow base E size v n xs) (hb : ∀ k, base ≤ k → O k) : Own w E size O v n xs := by
  refine ⟨⟨h.1, ?_⟩, fun g e => hb g (h.lt g e).1⟩
  rcases h.2 with h2 | ⟨g, cap, cur, h1, _, h2⟩
  · exact .inl h2
  · exact .inr ⟨g, cap, cur, h1, Nat.zero_le _, h2⟩
end

theorem own_form {w : World} {E size base n : Nat} {v : Value} {xs : List Value} (h : w.ownsRow base E size v n xs) : ∃ A c, v = .slice A n c := by
  rcases h.2 with ⟨rfl, rfl⟩ | ⟨g, cap, cur, rfl, _⟩
  · exact ⟨_, _, rfl⟩
  · exact ⟨_, _, rfl⟩

/-- append of cells that are read onto a row that is owned. -/
theorem run_append_rd (w : World) (S E size bytes : Nat) (i0 : TypeInfo) (z : Value) (hS : Tryz.prog.underlying S = some (.slice E)) (hi : Tryz.prog.info? E = some i0) (hz0 : i0.zero = some z) (hz1 : i0.size = size) (hz2 : i0.bytes = bytes) (hzs : z.cells.size = size) (hsz : 0 < size)
    (v : Value) (n : Nat) (xs : List Value) (A : Option Addr) (m c : Nat) (ys : List Value) (ty : TypeId)
    (hown : w.ownsRow 0 E size v n xs) (hr : Rd w A ys) (hl : ys.length = m * size) (h1 : ∀ u ∈ ys, u.oneCell' = true) (h63 : n + m ≤ maxLen) (hb : (n + m) * bytes ≤ 140737488355328) :
    ∃ v' w', (Builtin.append_ #[S, S] ty #[v, .slice A m c]).run Tryz.prog w = .ok v' w' ∧ w'.ownsRow 0 E size v' (n + m) (xs ++ ys) ∧ w.grownBy w' v.ownBlock ∧
      (v'.ownBlock = v.ownBlock ∨ v'.ownBlock = some w.heap.size) := by
  have hm0 : m = 0 → ys = [] := fun e => List.length_eq_zero_iff.1 (by rw [hl, e, Nat.zero_mul])
  rcases A with _ | ad
  · have hy : ys = [] := by
      rcases Nat.eq_zero_or_pos ys.length with h0 | h0
      · exact List.length_eq_zero_iff.1 h0
      · obtain ⟨g, off, e, _⟩ := hr h0; cases e
    subst hy
    have hm : m = 0 := by
      rcases Nat.eq_zero_or_pos m with h | h
      · exact h
      · have := Nat.mul_pos h hsz; simp at hl; omega
    subst hm
    refine ⟨v, w, ?_, by simpa using hown, World.grownBy.refl w _, .inl rfl⟩
    rcases hown.2 with ⟨rfl, h0⟩ | ⟨g, cap, cur, rfl, _, _, hnc, _⟩
    · simp [Builtin.append_, run_underlying hS, sizeOf, typeInfo, hi, Builtin.lenOf, Builtin.firstCells]
    · simp [Builtin.append_, run_underlying hS, sizeOf, typeInfo, hi, Builtin.lenOf, Builtin.firstCells, hnc, storeCells]
  · have hcells : ∀ j u, ys[j]? = some u → w.cell? (ad.add j) = some u := by
      intro j u hu
      rcases Nat.eq_zero_or_pos ys.length with h0 | h0
      · have : ys = [] := List.length_eq_zero_iff.1 h0
        subst this; simp at hu
      · obtain ⟨g, off, e, hc⟩ := hr h0
        cases e
        have ea : (⟨g, off, none⟩ : Addr).add j = ⟨g, off + j, none⟩ := by unfold Addr.add; by_cases hj : j = 0 <;> simp [hj]
        rw [ea]; exact hc j u hu
    obtain ⟨v', w', hrun, h2, h3, _, h5⟩ := run_append_own_at (P := Tryz.prog) w 0 S ty E i0 z size bytes hS hi hz0 hz1 hz2 hzs hsz v n xs hown ad m c ys hl hcells h1 h63 hb (Nat.zero_le _)
    exact ⟨v', w', hrun, h2, h3, h5⟩

theorem wp_append_rd {o : Oper} {a : Act} {K : Act → World → Prop} {Q : Exit → Act → World → Prop} (w : World) (s x : Operand) (S : TypeId)
    (ho : o.op = .call { callee := .builtin .append, args := #[s, x], argTypes := #[S, S] })
    (E size bytes : Nat) (i0 : TypeInfo) (z : Value) (hS : Tryz.prog.underlying S = some (.slice E)) (hi : Tryz.prog.info? E = some i0) (hz0 : i0.zero = some z) (hz1 : i0.size = size) (hz2 : i0.bytes = bytes) (hzs : z.cells.size = size) (hsz : 0 < size)
    (v : Value) (n : Nat) (xs : List Value) (A : Option Addr) (m c : Nat) (ys : List Value) (hs : a.eval s = v) (hown : w.ownsRow 0 E size v n xs) (hx : a.eval x = .slice A m c) (hr : Rd w A ys)
    (hl : ys.length = m * size) (h1 : ∀ u ∈ ys, u.oneCell' = true) (h63 : n + m ≤ maxLen) (hb : (n + m) * bytes ≤ 140737488355328)
    (h : ∀ A' c' w', w'.ownsRow 0 E size (.slice A' (n + m) c') (n + m) (xs ++ ys) → w.grownBy w' v.ownBlock → ((Value.slice A' (n + m) c').ownBlock = v.ownBlock ∨ (Value.slice A' (n + m) c').ownBlock = some w.heap.size) → K (a.put o.dst (.slice A' (n + m) c')) w') : o.wp Tryz.prog a w K Q := by
  obtain ⟨v', w', hrun, h2, h3, h4⟩ := run_append_rd w S E size bytes i0 z hS hi hz0 hz1 hz2 hzs hsz v n xs A m c ys o.type hown hr hl h1 h63 hb
  obtain ⟨A', c', rfl⟩ := own_form h2
  unfold Oper.wp execOp
  simp only [ho, resolve, invoke, builtin, Sem.run_bind, Sem.run_pure, Result.andThen_ok, List.map_toArray, List.map_cons, List.map_nil, hs, hx, hrun]
  exact h A' c' w' h2 h3 h4

theorem wpList_append_rd {ops : Array Oper} {rest : List Oper} {o : Oper} {a : Act} {Q : Exit → Act → World → Prop} (w : World) (hgd : o.guard = none) (s x : Operand) (S : TypeId)
    (ho : o.op = .call { callee := .builtin .append, args := #[s, x], argTypes := #[S, S] })
    (E size bytes : Nat) (i0 : TypeInfo) (z : Value) (hS : Tryz.prog.underlying S = some (.slice E)) (hi : Tryz.prog.info? E = some i0) (hz0 : i0.zero = some z) (hz1 : i0.size = size) (hz2 : i0.bytes = bytes) (hzs : z.cells.size = size) (hsz : 0 < size)
    (v : Value) (n : Nat) (xs : List Value) (A : Option Addr) (m c : Nat) (ys : List Value) (hs : a.eval s = v) (hown : w.ownsRow 0 E size v n xs) (hx : a.eval x = .slice A m c) (hr : Rd w A ys)
    (hl : ys.length = m * size) (h1 : ∀ u ∈ ys, u.oneCell' = true) (h63 : n + m ≤ maxLen) (hb : (n + m) * bytes ≤ 140737488355328)
    (h : ∀ A' c' w', w'.ownsRow 0 E size (.slice A' (n + m) c') (n + m) (xs ++ ys) → w.grownBy w' v.ownBlock → ((Value.slice A' (n + m) c').ownBlock = v.ownBlock ∨ (Value.slice A' (n + m) c').ownBlock = some w.heap.size) → wpList Tryz.prog ops Q rest (a.put o.dst (.slice A' (n + m) c')) w') :
    wpList Tryz.prog ops Q (o :: rest) a w :=
  wpList_plain hgd fun _ hK => wp_append_rd w s x S ho E size bytes i0 z hS hi hz0 hz1 hz2 hzs hsz v n xs A m c ys hs hown hx hr hl h1 h63 hb fun A' c' w' h2 h3 h4 => hK _ _ (h A' c' w' h2 h3 h4)


theorem int_info : (Tryz.prog.info? 3).map (fun i => (i.zero, i.size, i.bytes)) = some (some (.int .i64 0), 1, 8) := by kernel_rfl
theorem val_info : (Tryz.prog.info? 146).map (fun i => (i.zero, i.size, i.bytes)) = some (some (.agg #[.int .i64 0, .int .i64 0]), 2, 16) := by kernel_rfl

/-- Block g is just the cells cs of type t, none of them frozen. -/
def Blk (w : World) (g : Nat) (t : TypeId) (cs : Array Value) : Prop := w.heap[g]? = some (.cells cs t (0, 0))
section
variable {w w' : World} {g : Nat} {t : TypeId} {cs : Array Value}
theorem Blk.lt (h : Blk w g t cs) : g < w.heap.size := (Array.getElem?_eq_some_iff.1 h).1
theorem Blk.cell (h : Blk w g t cs) (i : Nat) : w.cell? ⟨g, i, none⟩ = cs[i]? := cell_of_row w g i cs t (0, 0) h
theorem Blk.frozen (h : Blk w g t cs) (i : Nat) : w.frozen? ⟨g, i, none⟩ = false := by unfold Blk at h; simp [World.frozen?, h]
theorem Blk.new (w : World) (t : TypeId) (cs : Array Value) : Blk (w.alloc (.cells cs t)) w.heap.size t cs := heap_alloc_new w _
theorem Blk.alloc (h : Blk w g t cs) (o : Obj) : Blk (w.alloc o) g t cs := (Below.heap_alloc w o g h.lt).trans h
theorem Blk.put (h : Blk w g t cs) (i : Nat) (u : Value) : Blk (w.setCell ⟨g, i, none⟩ u) g t (cs.setIfInBounds i u) := by
  unfold Blk at h ⊢; simp [World.setCell, Array.getElem?_modify, h]
theorem Blk.far (h : Blk w g t cs) {p : Addr} (hp : g ≠ p.block) (u : Value) : Blk (w.setCell p u) g t cs := (Below.heap_setCell w p u g hp).trans h
theorem Blk.grown {row : Option Nat} (h : Blk w g t cs) (hb : w.grownBy w' row) (hg : some g ≠ row) : Blk w' g t cs := (hb.block g h.lt hg).trans h
theorem Blk.ne {g' : Nat} {t' : TypeId} {cs' : Array Value} (h : Blk w g t cs) (h' : Blk w g' t' cs') (hne : t ≠ t') : g ≠ g' := by
  rintro rfl
  have e := (show w.heap[g]? = _ from h).symm.trans h'
  simp at e
  exact hne e.2
theorem Blk.keep {O : Nat → Prop} (h : Blk w g t cs) (hk : Keep O w w') (hg : ¬ O g) : Blk w' g t cs := (hk.block g h.lt hg).trans h
end

end Go.Proofs.YtpkcjokkadfhcaaGreatDoor

namespace Go.Proofs.YtpkcjokkadfhcaaGreatDoor.A
open Go.RowKit

abbrev str (l : List UInt8) : ByteArray := ⟨l.toArray⟩
/-- Texts as cells. -/
abbrev svs (l : List (List UInt8)) : List Value := l.map fun s => .string (str s)
/-- The number of a name; 0, if there is none. -/
def ofI (l : List (List UInt8)) (s : List UInt8) : Int := if s ∈ l then (l.idxOf s : Int) else 0
def ofE (l : List (List UInt8)) (s : List UInt8) : Int := if s ∈ l then 0 else 30
/-- The name of a number; nothing, if there is none. -/
def nameAt (l : List (List UInt8)) (n : Int) : List UInt8 := if 0 ≤ n then l.getD n.toNat [] else []

theorem rdS_at {w : World} {A : Option Addr} {l : List (List UInt8)} (h : Rd w A (svs l)) (h0 : 0 < l.length) : ∃ g off, A = some ⟨g, off, none⟩ ∧ ∀ (i : Nat) (hi : i < l.length), w.cell? ⟨g, off + i, none⟩ = some (.string (str l[i])) := by
  obtain ⟨g, off, e, hc⟩ := h (by simpa using h0)
  exact ⟨g, off, e, fun i hi => hc i _ (by simp [hi])⟩

theorem getD_at {l : List (List UInt8)} {k : Nat} (hk : k < l.length) : l.getD k [] = l[k] := by rw [List.getD_eq_getElem?_getD, List.getElem?_eq_getElem hk]; rfl
theorem getD_past {l : List (List UInt8)} {k : Nat} (hk : l.length ≤ k) : l.getD k [] = [] := by rw [List.getD_eq_getElem?_getD, List.getElem?_eq_none hk]; rfl
theorem of_hit {l : List (List UInt8)} {s : List UInt8} {k : Nat} (hk : k < l.length) (he : l[k] = s) (hb : ∀ j (_ : j < k), l.getD j [] ≠ s) : ofI l s = (k : Int) ∧ ofE l s = 0 := by
  have hm : s ∈ l := by rw [← he]; exact List.getElem_mem hk
  have hi : l.idxOf s = k := by
    have h1 : l.idxOf s < l.length := List.idxOf_lt_length_iff.2 hm
    have h2 : l[l.idxOf s] = s := List.getElem_idxOf h1
    rcases Nat.lt_trichotomy (l.idxOf s) k with h | h | h
    · exact absurd (by rw [getD_at h1]; exact h2) (hb _ h)
    · exact h
    · exact absurd he (by
        have := List.not_of_lt_findIdx (p := (· == s)) (xs := l) (i := k) h
        simpa using this)
  unfold ofI ofE
  rw [if_pos hm, if_pos hm, hi]; exact ⟨rfl, rfl⟩
theorem of_miss {l : List (List UInt8)} {s : List UInt8} (hb : ∀ j (_ : j < l.length), l.getD j [] ≠ s) : ofI l s = 0 ∧ ofE l s = 30 := by
  have hm : ¬ s ∈ l := fun h => by
    obtain ⟨i, hi, he⟩ := List.mem_iff_getElem.1 h
    exact hb i hi (by rw [getD_at hi]; exact he)
  unfold ofI ofE
  rw [if_neg hm, if_neg hm]; exact ⟨rfl, rfl⟩

theorem ret2 {a a' b b' : Int} (h1 : a = a') (h2 : b = b') : Ending.returned (.tuple #[.int .i64 a, .int .i64 b]) = .returned (.tuple #[.int .i64 a', .int .i64 b']) := by rw [h1, h2]

end Go.Proofs.YtpkcjokkadfhcaaGreatDoor.A

namespace Go.Proofs.YtpkcjokkadfhcaaGreatDoor.A
open Go.RowKit

def binNs : List (List UInt8) := [[97, 100, 100], [115, 117, 98], [109, 117, 108], [100, 105, 118], [114, 101, 109], [97, 110, 100], [111, 114], [120, 111, 114], [97, 110, 100, 110, 111, 116], [115, 104, 108], [115, 104, 114], [108, 116], [108, 101], [101, 113]]
def unNs : List (List UInt8) := [[110, 101, 103], [110, 111, 116], [122, 101, 114, 111], [105, 56], [105, 49, 54], [105, 51, 50], [117, 56], [117, 49, 54], [117, 51, 50]]
def codeNs : List (List UInt8) := [[110, 111, 110, 101], [110, 105, 108], [100, 105, 118], [105, 110, 100, 101, 120], [115, 104, 105, 102, 116], [116, 121, 112, 101]]

theorem rd_made {w : World} {T : TypeId} {cs : Array Value} {l : List Value} (hl : cs.toList = l) : Rd (w.alloc (.cells cs T)) (some ⟨w.heap.size, 0, none⟩) l := fun _ =>
  ⟨_, 0, rfl, fun j u hu => by rw [Nat.zero_add, (Blk.new w T cs).cell j, ← hu, ← hl]; simp⟩

/-- What a function of names answers. -/
def NmC (T : World → Prop) (f : FuncId) (l : List (List UInt8)) : Prop := ∀ (n : Int) (W : World), T W → -9223372036854775808 ≤ n ∧ n ≤ 9223372036854775807 →
  Calls Tryz.prog f #[.int .i64 n] W fun e w' => e = .returned (.string (str (nameAt l n))) ∧ Keep NoB W w'
/-- What one that looks a name up answers, of texts that are not too long. -/
def OfC (T : World → Prop) (f : FuncId) (l : List (List UInt8)) : Prop := ∀ (S : ByteArray) (s : List UInt8) (W : World), T W → S.data.toList = s → S.size ≤ 1000 →
  Calls Tryz.prog f #[.string S] W fun e w' => e = .returned (.tuple #[.int .i64 (ofI l s), .int .i64 (ofE l s)]) ∧ Keep NoB W w'

end Go.Proofs.YtpkcjokkadfhcaaGreatDoor.A

namespace Go.Proofs.YtpkcjokkadfhcaaGreatDoor.V
open Go.RowKit

/-- Zigzag. -/
def zig (n : Int) : Nat := if 0 ≤ n then (2 * n).toNat else (-2 * n - 1).toNat
/-- Its way back. -/
def zag (n : Nat) : Int := if n % 2 = 0 then ((n / 2 : Nat) : Int) else -((n / 2 : Nat) : Int) - 1

theorem zig_lt (n : Int) (h1 : -9223372036854775808 ≤ n) (h2 : n ≤ 9223372036854775807) : zig n < 18446744073709551616 := by
  unfold zig; split <;> omega
theorem zag_ge (n : Nat) (h : n < 18446744073709551616) : -9223372036854775808 ≤ zag n := by
  unfold zag; split <;> omega
theorem zag_le (n : Nat) (h : n < 18446744073709551616) : zag n ≤ 9223372036854775807 := by
  unfold zag; split <;> omega
theorem zag_zig (n : Int) : zag (zig n) = n := by
  unfold zig zag; split <;> split <;> omega
theorem zig_zag (n : Nat) : zig (zag n) = n := by
  unfold zig zag; split <;> split <;> omega
theorem zig_inj (a b : Int) : zig a = zig b ↔ a = b :=
  ⟨fun h => by rw [← zag_zig a, ← zag_zig b, h], fun h => by rw [h]⟩

theorem xor_ones (a : Nat) (ha : a < 18446744073709551616) : a ^^^ 18446744073709551615 = 18446744073709551615 - a := by
  have h : ((BitVec.ofNat 64 a) ^^^ BitVec.allOnes 64).toNat = (~~~ (BitVec.ofNat 64 a)).toNat := by rw [BitVec.xor_allOnes]
  rw [BitVec.toNat_xor, BitVec.toNat_not, BitVec.toNat_allOnes, BitVec.toNat_ofNat, Nat.mod_eq_of_lt (by omega)] at h
  simpa using h

theorem zig_form (n : Int) (h1 : -9223372036854775808 ≤ n) (h2 : n ≤ 9223372036854775807) :
    bits .xor .u64 (IntKind.u64.wrap (IntKind.u64.wrap n * 2)) (IntKind.u64.wrap (n / 9223372036854775808)) = (zig n : Int) := by
  simp only [IntKind.wrap_u64]
  by_cases h : 0 ≤ n
  · obtain ⟨m, rfl⟩ := Int.eq_ofNat_of_zero_le h
    have e1 : ((m : Int) % 18446744073709551616 * 2) % 18446744073709551616 = ((2 * m : Nat) : Int) := by omega
    have e2 : ((m : Int) / 9223372036854775808) % 18446744073709551616 = ((0 : Nat) : Int) := by omega
    rw [e1, e2, bits_xor_u64_nat _ _ (by omega) (by omega), Nat.xor_zero]
    unfold zig; rw [if_pos h]; omega
  · obtain ⟨x, hx⟩ : ∃ x : Nat, (x : Int) = 2 * n + 18446744073709551616 := ⟨(2 * n + 18446744073709551616).toNat, by omega⟩
    obtain ⟨y, hy⟩ : ∃ y : Nat, y = 18446744073709551615 := ⟨_, rfl⟩
    have e1 : (n % 18446744073709551616 * 2) % 18446744073709551616 = (x : Int) := by omega
    have e2 : (n / 9223372036854775808) % 18446744073709551616 = (y : Int) := by omega
    rw [e1, e2, bits_xor_u64_nat _ _ (by omega) (by omega), hy, xor_ones _ (by omega)]
    unfold zig; rw [if_neg h]; omega

theorem wrap_i64_lo (n : Nat) (h : n < 9223372036854775808) : IntKind.i64.wrap (n : Int) = n := by
  simp [IntKind.wrap, IntKind.bits, IntKind.signed]; omega
theorem wrap_i64_hi (n : Nat) (h1 : 9223372036854775808 ≤ n) (h2 : n < 18446744073709551616) : IntKind.i64.wrap (n : Int) = (n : Int) - 18446744073709551616 := by
  simp [IntKind.wrap, IntKind.bits, IntKind.signed]; omega

theorem zag_form (n : Nat) (h : n < 18446744073709551616) :
    bits .xor .i64 ((n : Int) / 2) (wrap64 (-wrap64 (bits .and .u64 (n : Int) 1))) = zag n := by
  have e0 : bits .and .u64 (n : Int) 1 = ((n % 2 : Nat) : Int) := by
    have := u64_and_nat n 1 h (by omega)
    rw [nat_mask1] at this
    exact this
  rw [e0]
  have hb : BitVec.ofInt 64 ((n : Int) / 2) = BitVec.ofNat 64 (n / 2) := by
    rw [show ((n : Int) / 2) = ((n / 2 : Nat) : Int) from by omega, BitVec.ofInt_natCast]
  by_cases hp : n % 2 = 0
  · rw [hp]
    have e1 : wrap64 (-wrap64 (((0 : Nat) : Int))) = 0 := by kernel_rfl
    rw [e1]
    unfold zag; rw [if_pos hp]
    show IntKind.i64.wrap (((BitVec.ofInt 64 ((n : Int) / 2) ^^^ BitVec.ofInt 64 0).toNat : Nat) : Int) = _
    rw [hb, show BitVec.ofInt 64 0 = 0#64 from rfl, BitVec.xor_zero, BitVec.toNat_ofNat, Nat.mod_eq_of_lt (by omega)]
    exact wrap_i64_lo _ (by omega)
  · have hp1 : n % 2 = 1 := by omega
    rw [hp1]
    have e1 : wrap64 (-wrap64 (((1 : Nat) : Int))) = -1 := by kernel_rfl
    rw [e1]
    unfold zag; rw [if_neg hp]
    show IntKind.i64.wrap (((BitVec.ofInt 64 ((n : Int) / 2) ^^^ BitVec.ofInt 64 (-1)).toNat : Nat) : Int) = _
    rw [hb, show BitVec.ofInt 64 (-1) = BitVec.allOnes 64 from rfl, BitVec.xor_allOnes, BitVec.toNat_not, BitVec.toNat_ofNat, Nat.mod_eq_of_lt (by omega)]
    rw [show (2 ^ 64 - 1 - n / 2 : Nat) = 18446744073709551615 - n / 2 from rfl, wrap_i64_hi _ (by omega) (by omega)]
    omega

/-- How many bytes a number has. -/
def wd (n : Nat) : Nat :=
  if n < 128 then 1 else if n < 16384 then 2 else if n < 2097152 then 3 else if n < 268435456 then 4 else if n < 34359738368 then 5
  else if n < 4398046511104 then 6 else if n < 562949953421312 then 7 else if n < 72057594037927936 then 8 else 9

theorem wd_pos (n : Nat) : 1 ≤ wd n := by unfold wd; repeat' split
                                          all_goals omega
theorem wd_le (n : Nat) : wd n ≤ 9 := by unfold wd; repeat' split
                                         all_goals omega
/-- A number lies below what its width holds. -/
theorem wd_lt (n : Nat) (h : wd n < 9) : n < 2 ^ (7 * wd n) := by
  revert h; unfold wd
  repeat' split
  all_goals (intro _; omega)
/-- .. and not below what a lesser width holds. -/
theorem wd_min (n k : Nat) (hk : k < wd n) (h1 : 1 ≤ k) : 2 ^ (7 * k) ≤ n := by
  revert hk; unfold wd
  repeat' split
  all_goals (intro hk; have hc : k = 1 ∨ k = 2 ∨ k = 3 ∨ k = 4 ∨ k = 5 ∨ k = 6 ∨ k = 7 ∨ k = 8 := by omega
             rcases hc with rfl | rfl | rfl | rfl | rfl | rfl | rfl | rfl <;> omega)
theorem wd_mono {a b : Nat} (h : a ≤ b) : wd a ≤ wd b := by
  rcases Nat.lt_or_ge (wd b) (wd a) with hl | hl
  · have h1 := wd_min a (wd b) hl (wd_pos b)
    have h2 := wd_lt b (by have := wd_le a; omega)
    omega
  · exact hl
theorem wd_eq (n k : Nat) (h1 : 1 ≤ k) (h9 : k ≤ 9) (hlo : k = 1 ∨ 2 ^ (7 * (k - 1)) ≤ n) (hhi : k = 9 ∨ n < 2 ^ (7 * k)) : wd n = k := by
  have hw := wd_le n
  have hp := wd_pos n
  rcases Nat.lt_trichotomy (wd n) k with h | h | h
  · exfalso
    have hk1 : k ≠ 1 := by omega
    have hlo' : 2 ^ (7 * (k - 1)) ≤ n := by
      rcases hlo with h0 | h0
      · exact absurd h0 hk1
      · exact h0
    have h3 := wd_lt n (by omega)
    have h4 : 2 ^ (7 * wd n) ≤ 2 ^ (7 * (k - 1)) := Nat.pow_le_pow_right (by omega) (by omega)
    exact absurd (Nat.lt_of_lt_of_le h3 h4) (Nat.not_lt.2 hlo')
  · exact h
  · exfalso
    have h3 := wd_min n k h h1
    rcases hhi with h0 | h0
    · omega
    · exact absurd h0 (Nat.not_lt.2 h3)

end Go.Proofs.YtpkcjokkadfhcaaGreatDoor.V

namespace Go.Proofs.YtpkcjokkadfhcaaGreatDoor.V
open Go.RowKit

theorem ret_int {k : IntKind} {a b : Int} (h : a = b) : Ending.returned (.int k a) = .returned (.int k b) := by rw [h]

theorem zig_any (n : Int) (w : World) (h1 : -9223372036854775808 ≤ n) (h2 : n ≤ 9223372036854775807) :
    Calls Tryz.prog 101 #[.int .i64 n] w fun e w' => e = .returned (.int .u64 (zig n)) ∧ w = w' := by
  go_enter Tryz.func101, Tryz.ntmps101
  go_wp2
  go_ret
  exact ⟨ret_int (zig_form n h1 h2), rfl⟩

theorem zag_any (n : Nat) (w : World) (h : n < 18446744073709551616) :
    Calls Tryz.prog 112 #[.int .u64 n] w fun e w' => e = .returned (.int .i64 (zag n)) ∧ w = w' := by
  go_enter Tryz.func112, Tryz.ntmps112
  go_wp2
  go_ret
  exact ⟨ret_int (zag_form n h), rfl⟩

theorem rzig_any (n : Int) (w : World) (h1 : -9223372036854775808 ≤ n) (h2 : n ≤ 9223372036854775807) :
    Calls Tryz.prog 71 #[.int .i64 n] w fun e w' => e = .returned (.int .u64 (zig n)) ∧ w = w' := by
  go_enter Tryz.func71, Tryz.ntmps71
  go_wp2
  · go_ret
    exact ⟨ret_int (by unfold zig; split <;> omega), rfl⟩
  · go_ret
    exact ⟨ret_int (by unfold zig; split <;> omega), rfl⟩

theorem rzag_any (n : Nat) (w : World) (h : n < 18446744073709551616) :
    Calls Tryz.prog 113 #[.int .u64 n] w fun e w' => e = .returned (.int .i64 (zag n)) ∧ w = w' := by
  go_enter Tryz.func113, Tryz.ntmps113
  go_wp2
  · have hp : ((n : Int) % 2 == 0) = true := by assumption
    rw [beq_iff_eq] at hp
    go_ret
    exact ⟨ret_int (by unfold zag; rw [if_pos (by omega)]; omega), rfl⟩
  · have hp : ((n : Int) % 2 == 0) = false := by assumption
    rw [beq_eq_false_iff_ne] at hp
    go_ret
    exact ⟨ret_int (by unfold zag; rw [if_neg (by omega)]; omega), rfl⟩

/-- The part of n that a width's digits do not hold. -/
theorem shr_zero (n k : Nat) : ((n : Int) / 2 ^ (7 * k) != 0) = false → n < 2 ^ (7 * k) := by
  intro h
  rw [bne_eq_false_iff_eq] at h
  have h' : n / 2 ^ (7 * k) = 0 := by exact_mod_cast h
  exact (Nat.div_eq_zero_iff_lt (Nat.two_pow_pos _)).1 h'
theorem shr_some (n k : Nat) : ((n : Int) / 2 ^ (7 * k) != 0) = true → 2 ^ (7 * k) ≤ n := by
  intro h
  rw [bne_iff_ne] at h
  have h' : n / 2 ^ (7 * k) ≠ 0 := by exact_mod_cast h
  rcases Nat.lt_or_ge n (2 ^ (7 * k)) with hl | hl
  · exact absurd (Nat.div_eq_of_lt hl) h'
  · exact hl

set_option maxHeartbeats 400000 in
theorem width_any (n : Nat) (w : World) :
    Calls Tryz.prog 98 #[.int .u64 n] w fun e w' => e = .returned (.int .i64 (wd n)) ∧ w = w' := by
  go_enter Tryz.func98, Tryz.ntmps98
  go_wp2
  go_loop [3] (fun i => ∃ k : Nat, 1 ≤ k ∧ k ≤ 9 ∧ (k = 1 ∨ 2 ^ (7 * (k - 1)) ≤ n) ∧ i = .int .i64 k) (fun i => 9 - (intOf i).toNat)
  case atStart => exact ⟨1, by omega, by omega, .inl rfl, rfl⟩
  case round =>
    obtain ⟨k, hk1, hk2, hlo, rfl⟩ := hrel
    have HLO := Lib.hid hlo
    clear hlo
    by_cases hlt : k < 9
    · go_wp2
      · have ht : ((n : Int) / 2 ^ (7 * k) != 0) = true := by assumption
        go_round
        case rel => exact ⟨k + 1, by omega, by omega, .inr (shr_some n k ht), by go_num⟩
        case measure => simp [intOf]; omega
      · have ht : ((n : Int) / 2 ^ (7 * k) != 0) = false := by assumption
        go_ret
        exact ⟨ret_int (by rw [wd_eq n k hk1 hk2 HLO.out (.inr (shr_zero n k ht))]), rfl⟩
    · go_wp2
      go_ret
      exact ⟨ret_int (by rw [wd_eq n k hk1 hk2 HLO.out (.inl (by omega))]), rfl⟩

theorem pow128 (k : Nat) : (128 : Nat) ^ k = 2 ^ (7 * k) := by rw [Nat.pow_mul]

set_option maxHeartbeats 400000 in
theorem rwidth_any (n : Nat) (w : World) :
    Calls Tryz.prog 102 #[.int .u64 n] w fun e w' => e = .returned (.int .i64 (wd n)) ∧ w = w' := by
  go_enter Tryz.func102, Tryz.ntmps102
  go_wp2
  go_loop [3, 4] (fun i l => ∃ k L : Nat, 1 ≤ k ∧ k ≤ 8 ∧ L ≤ 72057594037927936 ∧ (k < 8 → L ≤ 562949953421312) ∧ Hid (L = 2 ^ (7 * k)) ∧ (k = 1 ∨ 2 ^ (7 * (k - 1)) ≤ n) ∧ i = .int .i64 k ∧ l = .int .u64 L) (fun i _ => 9 - (intOf i).toNat)
  case atStart => exact ⟨1, 128, by omega, by omega, by omega, fun _ => by omega, rfl, .inl rfl, rfl, rfl⟩
  case round =>
    obtain ⟨k, L, hk1, hk2, hL, hL8, HL, hlo, rfl, rfl⟩ := hrel
    have HLO := Lib.hid hlo
    clear hlo
    by_cases hlt : k < 8
    · have hL7 := hL8 hlt
      clear hL8
      by_cases hn : L ≤ n
      · go_wp2
        go_round
        case rel =>
          refine ⟨k + 1, L * 128, by omega, by omega, by omega, fun h => ?_, ?_, .inr (by show 2 ^ (7 * k) ≤ n; rw [← HL.out]; exact hn), by go_num, by go_num⟩
          · have h6 : L ≤ 4398046511104 := by
              have := HL.out
              have hc : k = 1 ∨ k = 2 ∨ k = 3 ∨ k = 4 ∨ k = 5 ∨ k = 6 := by omega
              rcases hc with rfl | rfl | rfl | rfl | rfl | rfl <;> omega
            omega
          · show L * 128 = 2 ^ (7 * (k + 1))
            rw [HL.out, Nat.mul_add, Nat.pow_add]
        case measure => simp [intOf]; omega
      · go_wp2
        go_ret
        exact ⟨ret_int (by rw [wd_eq n k hk1 (by omega) HLO.out (.inr (by have := HL.out; omega))]), rfl⟩
    · obtain rfl : k = 8 := by omega
      clear hL8
      by_cases hn : L ≤ n
      · go_wp2
        go_ret
        exact ⟨ret_int (by rw [wd_eq n 9 (by omega) (by omega) (.inr (by have := HL.out; omega)) (.inl rfl)]; rfl), rfl⟩
      · go_wp2
        go_ret
        exact ⟨ret_int (by rw [wd_eq n 8 hk1 (by omega) HLO.out (.inr (by have := HL.out; omega))]; rfl), rfl⟩

/-- The bits of a first byte that tell a width. -/
def mk (w : Nat) : Nat := 65280 / 2 ^ (w - 1) % 256

theorem mk_form (k : Nat) (h1 : 1 ≤ k) (h2 : k ≤ 9) : (65280 : Int) / 2 ^ (k - 1) % 256 = (mk k : Int) := by
  have hc : k = 1 ∨ k = 2 ∨ k = 3 ∨ k = 4 ∨ k = 5 ∨ k = 6 ∨ k = 7 ∨ k = 8 ∨ k = 9 := by omega
  rcases hc with rfl | rfl | rfl | rfl | rfl | rfl | rfl | rfl | rfl <;> decide +kernel

theorem mark_any (k : Nat) (w : World) (h1 : 1 ≤ k) (h2 : k ≤ 9) :
    Calls Tryz.prog 100 #[.int .i64 k] w fun e w' => e = .returned (.int .u8 (mk k)) ∧ w = w' := by
  go_enter Tryz.func100, Tryz.ntmps100
  go_wp2
  go_ret
  exact ⟨ret_int (mk_form k h1 h2), rfl⟩

end Go.Proofs.YtpkcjokkadfhcaaGreatDoor.V

namespace Go.Proofs.YtpkcjokkadfhcaaGreatDoor.V
open Go.RowKit Go.Shelf
attribute [local go_sem] Oper.semAt_some

/-- A place: from 0 to 8. -/
abbrev Plc := { i : Nat // i ≤ 8 }
/-- The digit at a place. -/
def dgt (n i : Nat) : Nat := n / 2 ^ (8 * i) % 256
abbrev encD (n : Nat) (x : Plc) : Array Value := #[.int .i64 (x.1 : Int), .int .u8 (dgt n x.1 : Int)]
/-- What a round keeps: the number's box. -/
def KpC (B : Nat) (W W' : World) : Prop := ∀ v, W.cell? ⟨B, 0, none⟩ = some v → W'.cell? ⟨B, 0, none⟩ = some v
/-- The places that have come. -/
def down (j : Nat) : List Nat := (List.range j).map (8 - ·)
theorem down_succ (j : Nat) : down (j + 1) = down j ++ [8 - j] := by simp [down, List.range_succ]

set_option maxRecDepth 100000 in
set_option maxHeartbeats 1000000 in
theorem digits1_in (m l Bn n : Nat) (hm : 1 ≤ m) (J Jx : List Plc → World → Prop)
    (hY : ∀ pre x W, J pre W → pre.length < 9 → YieldAt Fence.wide (m - 1) Tryz.prog l (encD n x) W fun e W' =>
      (e = .returned (.bool true) ∧ J (pre ++ [x]) W' ∧ KpC Bn W W') ∨ (e = .returned (.bool false) ∧ Jx (pre ++ [x]) W'))
    (W : World) (hBn : W.cell? ⟨Bn, 0, none⟩ = some (.int .u64 n)) (h0 : J [] W) :
    CallsIn Fence.wide m Tryz.prog 121 #[.func (.yield l) #[] #[], .pointer (some ⟨Bn, 0, none⟩)] W fun e W' => (∃ v, e = .returned v) ∧
      ((∃ ys : List Plc, ys.map (·.1) = down 9 ∧ J ys W') ∨ (∃ pre, True ∧ Jx pre W')) := by
  refine callsIn_of_wp Tryz.func121 rfl trivial ?_ rfl
  simp only [Tryz.ntmps121, List.size_toArray, List.length_cons, List.length_nil, Nat.reduceAdd, Nat.reduceSub, Array.replicate_succ, Array.replicate_zero, List.push_toArray, List.append_toArray, List.nil_append, List.cons_append]
  gi_wp2
  gi_loopw [3] (fun p wr => ∃ (j : Nat) (pre : List Plc), j ≤ 9 ∧ p = .int .i64 (8 - (j : Int)) ∧ Hid (pre.map (·.1) = down j) ∧ J pre wr ∧ wr.cell? ⟨Bn, 0, none⟩ = some (.int .u64 n))
    (fun p _ => (intOf p + 1).toNat)
  case atStart => exact ⟨0, [], by omega, rfl, rfl, h0, hBn⟩
  case round =>
    obtain ⟨j, pre, hj, rfl, HP, hJ, hc⟩ := hrel
    by_cases hlt : j < 9
    · have hlen : pre.length < 9 := by
        have := congrArg List.length HP.out
        simp [down] at this
        omega
      obtain ⟨i, hi⟩ : ∃ i : Nat, (8 - (j : Int)) = i := ⟨8 - j, by omega⟩
      have hi8 : i ≤ 8 := by omega
      have hij : j = 8 - i := by omega
      subst hij
      rw [hi]
      clear hi
      obtain ⟨fn, tmps, assign, body, hy, hR⟩ := hY pre ⟨i, hi8⟩ wr hJ hlen
      dsimp only [encD] at hy
      simp only [dgt] at hy
      push_cast at hy
      gi_wp2
      refine hR.mono ?_
      rintro e W3 (⟨rfl, hJ3, hk3⟩ | ⟨rfl, hJx3⟩)
      · have hc3 := hk3 _ hc
        have hdn : Hid ((pre ++ [(⟨i, hi8⟩ : Plc)]).map (·.1) = down (8 - i + 1)) := by
          show (pre ++ [(⟨i, hi8⟩ : Plc)]).map (·.1) = down (8 - i + 1)
          rw [List.map_append, HP.out, down_succ]
          simp only [List.map_cons, List.map_nil]
          congr 2
          omega
        gi_wp2
        go_roundw
        case rel => exact ⟨8 - i + 1, _, by omega, by go_num, hdn, hJ3, hc3⟩
        case measure => simp [intOf]
      · gi_wp2
        refine bodyPost_ret (results_none rfl _ _ _) rfl ?_
        exact ⟨⟨_, rfl⟩, .inr ⟨_, trivial, hJx3⟩⟩
    · obtain rfl : j = 9 := by omega
      gi_wp2
      go_end0
      exact ⟨⟨_, rfl⟩, .inl ⟨pre, HP.out, hJ⟩⟩

/-- digits hands back a value that brings the nine places, whatever the rounds do but turn the number's box. -/
theorem digits_stops (m Bn n : Nat) (hm : 1 ≤ m) (w : World) (hB : Bn < w.heap.size) (hc : w.cell? ⟨Bn, 0, none⟩ = some (.int .u64 n)) :
    SeqStopsK Fence.wide m Tryz.prog 121 #[.pointer (some ⟨Bn, 0, none⟩)] (encD n) (KpC Bn) (fun ys : List Plc => ys.map (·.1) = down 9) (fun _ => True) 9 w := fun l J Jx W hW _ _ hY h0 =>
  digits1_in m l Bn n hm J Jx hY W ((hW.cell (p := ⟨Bn, 0, none⟩) hB).trans hc) h0

theorem kpC_t {Bn : Nat} {A B C : World} (h : KpC Bn A B) (k : KpC Bn B C) : KpC Bn A C := fun v hv => k v (h v hv)
theorem kpC_b {Bn : Nat} {w : World} (W : World) (l : Nat) (o o' : Obj) (_ : w.heap.size ≤ l) (h : W.heap[l]? = some o) (hc : o.isCells = false) (_ : o.isWalk = false) : KpC Bn W (W.putObj l o') := by
  intro v hv
  by_cases e : l = Bn
  · subst e
    exfalso
    cases o with
    | cells cs t f => cases hc
    | _ => simp [World.cell?, h] at hv
  · exact (World.cell?_of_block (World.putObj_heap_other (fun k => e k.symm))).trans hv

set_option maxHeartbeats 400000 in
theorem digits_any (m n : Nat) (w : World) :
    CallsIn Fence.wide m Tryz.prog 99 #[.int .u64 n] w fun e w' => e = .returned (.func (.func 121) #[] #[.pointer (some ⟨w.heap.size, 0, none⟩)]) ∧ w' = w.alloc (.cells #[.int .u64 n] 79) := by
  refine callsIn_of_wp Tryz.func99 rfl trivial ?_ rfl
  simp only [Tryz.ntmps99, List.size_toArray, List.length_cons, List.length_nil, Nat.reduceAdd, Nat.reduceSub, Array.replicate_succ, Array.replicate_zero, List.push_toArray, List.append_toArray, List.nil_append, List.cons_append]
  gi_wp2
  go_ret
  exact ⟨rfl, rfl⟩

end Go.Proofs.YtpkcjokkadfhcaaGreatDoor.V

namespace Go.Proofs.YtpkcjokkadfhcaaGreatDoor.V
open Go.RowKit Go.Shelf
attribute [local go_sem] Oper.semAt_some

/-- A byte as a cell. -/
abbrev bv (b : UInt8) : Value := .int .u8 (b.toNat : Int)
abbrev bvs (l : List UInt8) : List Value := l.map bv

/-- The byte of a number at a place, the mark with it where it is the first. -/
def encB (n i : Nat) : UInt8 := if i = wd n - 1 then UInt8.ofNat (dgt n i ||| mk (wd n)) else UInt8.ofNat (dgt n i)
/-- The bytes at those places that the width has. -/
def encF (n : Nat) (ps : List Nat) : List UInt8 := (ps.filter fun i => decide (i < wd n)).map (encB n)
/-- A number's bytes. -/
def encL (n : Nat) : List UInt8 := encF n (down 9)

theorem encF_hit (n : Nat) (ps : List Nat) (i : Nat) (h : i < wd n) : encF n (ps ++ [i]) = encF n ps ++ [encB n i] := by simp [encF, h]
theorem encF_miss (n : Nat) (ps : List Nat) (i : Nat) (h : ¬ i < wd n) : encF n (ps ++ [i]) = encF n ps := by simp [encF, h]
theorem encF_len (n : Nat) (ps : List Nat) : (encF n ps).length ≤ ps.length := by
  unfold encF; rw [List.length_map]; exact List.length_filter_le _ _
theorem dgt_lt (n i : Nat) : dgt n i < 256 := Nat.mod_lt _ (by omega)
theorem mk_lt (k : Nat) : mk k < 256 := Nat.mod_lt _ (by omega)
theorem bv_plain (n i : Nat) (h : ¬ i = wd n - 1) : (Value.int .u8 (dgt n i : Int)) = bv (encB n i) := by
  unfold bv encB; rw [if_neg h, UInt8.toNat_ofNat', Nat.mod_eq_of_lt (dgt_lt n i)]
theorem bv_first (n i : Nat) (h : i = wd n - 1) : (Value.int .u8 (bits .or .u8 (dgt n i : Int) (mk (wd n) : Int))) = bv (encB n i) := by
  unfold bv encB
  rw [if_pos h, UInt8.toNat_ofNat', u8_or_nat _ _ (dgt_lt n i) (mk_lt _), Nat.mod_eq_of_lt (Nat.or_lt_two_pow (n := 8) (dgt_lt n i) (mk_lt _))]

theorem wpIn_scope_wide {n : Nat} {P : Program} {c : Code} {Q : Exit → Act → World → Prop} {a : Act} {w : World} (h : c.wpIn Fence.wide n P (Exit.noGoto Q) a w) : (Code.scope c).wpIn Fence.wide n P Q a w :=
  wpIn_wide.2 (wp_scope_straight (wpIn_wide.1 h))

theorem u8_info : (Tryz.prog.info? 5).map (fun i => (i.zero, i.size, i.bytes)) = some (some (.int .u8 0), 1, 1) := by kernel_rfl

/-- What encode's loop keeps: the box of w, the box of b with what came, the number's box. -/
def EncI (w : World) (bb n : Nat) (pre : List Plc) (W : World) : Prop :=
  (∃ v, Boxed W bb 24 v ∧ W.ownsRow w.heap.size 5 1 v (encF n (pre.map (·.1))).length (bvs (encF n (pre.map (·.1)))) ∧ True) ∧
  Boxed W w.heap.size 3 (.int .i64 (wd n)) ∧ Boxed W (bb + 1) 79 (.int .u64 n) ∧ Below w.heap.size w W

theorem boxed_own' {β : Type} (B : Nat) (t : TypeId) (v : Value) : Own (fun (_ : β) W => Boxed W B t v) := by
  intro s X Y row h hg hrow
  refine h.kept hg (fun e => ?_)
  obtain ⟨o, ho, hc⟩ := hrow B e.symm
  rw [show X.heap[B]? = _ from h] at ho; cases ho; cases hc

theorem encI_own (w : World) (bb n B : Nat) (hB : w.heap.size ≤ B) : OwnFrom B (EncI w bb n) := by
  refine OwnFrom.and (Own.from (holdsRow_own w.heap.size bb 24 5 1 (fun pre : List Plc => (encF n (pre.map (·.1))).length) (fun pre : List Plc => bvs (encF n (pre.map (·.1)))) (fun _ _ => True)) _) ?_
  exact OwnFrom.and (Own.from (boxed_own' _ _ _) _) (OwnFrom.and (Own.from (boxed_own' _ _ _) _) (ownFrom_below (Nat.le_refl _) hB))

theorem boxed_far {W : World} {B B' : Nat} {t : TypeId} {v : Value} (h : Boxed W B t v) (hne : B ≠ B') (u : Value) : Boxed (W.setCell ⟨B', 0, none⟩ u) B t v :=
  (Below.heap_setCell _ _ _ _ hne).trans h

/-- A round that puts a byte behind: all that the loop keeps. -/
theorem enc_step {w W w1 : World} {bb n : Nat} {pre : List Plc} {x : Plc} {v v' : Value} {tmp : Obj}
    (hv : Boxed W bb 24 v) (hrow : W.ownsRow w.heap.size 5 1 v (encF n (pre.map (·.1))).length (bvs (encF n (pre.map (·.1)))))
    (hbw : Boxed W w.heap.size 3 (.int .i64 (wd n))) (hbn : Boxed W (bb + 1) 79 (.int .u64 n)) (hB : Below w.heap.size w W) (hbb : w.heap.size < bb) (hx : x.1 < wd n)
    (hown' : w1.ownsRow w.heap.size 5 1 v' ((encF n (pre.map (·.1))).length + 1) (bvs (encF n (pre.map (·.1))) ++ [bv (encB n x.1)])) (hgrow : (W.alloc tmp).grownBy w1 v.ownBlock) :
    KeepsOthers W (w1.setCell ⟨bb, 0, none⟩ v') ∧ KpC (bb + 1) W (w1.setCell ⟨bb, 0, none⟩ v') ∧ EncI w bb n (pre ++ [x]) (w1.setCell ⟨bb, 0, none⟩ v') := by
  obtain ⟨hv1, hv2, hr2, hk2, hb2⟩ := hv.appended (by decide) hrow hB.size (Nat.le_of_lt hbb) hown' hgrow
  have hbw2 := boxed_far (((hbw.alloc tmp).kept hgrow (hbw.not_row (by decide) hrow))) (B' := bb) (by omega) v'
  have hbn2 := boxed_far (((hbn.alloc tmp).kept hgrow (hbn.not_row (by decide) hrow))) (B' := bb) (by omega) v'
  refine ⟨hk2, fun u hu => ?_, ⟨v', hv2, ?_, trivial⟩, hbw2, hbn2, hB.trans hb2⟩
  · rw [hbn.cell] at hu; rw [hbn2.cell]; exact hu
  · rw [List.map_append]
    simp only [List.map_cons, List.map_nil]
    rw [encF_hit n _ _ hx]
    simpa using hr2

set_option maxRecDepth 100000 in
set_option maxHeartbeats 2000000 in
theorem encode_any (n : Nat) (w : World) :
    Calls Tryz.prog 67 #[.int .u64 n] w fun e w' => ∃ v, e = .returned v ∧ w'.ownsRow w.heap.size 5 1 v (encL n).length (bvs (encL n)) ∧ Below w.heap.size w w' := by
  have hw1 := wd_pos n
  have hw9 := wd_le n
  obtain ⟨i0, hi, hz0, hz1, hz2⟩ := info_parts u8_info
  refine (callsIn_wide (n := 4)).1 ?_
  refine callsIn_of_wp_marks Tryz.func67 rfl trivial ?_ rfl
  simp only [Tryz.ntmps67, List.size_toArray, List.length_cons, List.length_nil, Nat.reduceAdd, Nat.reduceSub, Array.replicate_succ, Array.replicate_zero, List.push_toArray, List.append_toArray, List.nil_append, List.cons_append]
  gi_wp2
  refine wpIn_scope_wide ?_
  gi_wp2_with (first | (refine ⟨trivial, ?_⟩; gi_at_call 98; refine (callsIn_wide.2 (width_any n _)).mono ?_; rintro e w' ⟨rfl, rfl⟩) | (refine ⟨trivial, ?_⟩; gi_at_call 99; refine (digits_any _ n _).mono ?_; rintro e w' ⟨rfl, rfl⟩) | (gi_at_make; refine wpListIn_make_own _ rfl _ _ 24 rfl w.heap.size 5 i0 (.int .u8 0) 1 Tryz.underlying24 hi hz0 hz1 _ _ _ (wd n) rfl rfl rfl (by rw [hz2]; omega) (by unfold maxLen; omega) (by simp) ?_; intro w1 hrow1 hg1))
  refine wpIn_label ?_
  have hs1 : w.heap.size + 2 ≤ w1.heap.size := by have := (hrow1.lt _ rfl).2; simp at this; omega
  have bW : Boxed w1 w.heap.size 3 (.int .i64 (wd n)) := (Boxed.new w 3 (.int .i64 (wd n))).kept hg1 (by simp)
  have bB := Boxed.new w1 24 (.slice (some ⟨w.heap.size + 1, 0, none⟩) 0 (wd n))
  have hB1 : Below w.heap.size w w1 := ((Below.refl _ w).alloc (Nat.le_refl _) _).grown hg1 (by simp) (by simp)
  have bN := Boxed.new (w1.alloc (.cells #[.slice (some ⟨w.heap.size + 1, 0, none⟩) 0 (wd n)] 24)) 79 (.int .u64 n)
  rw [World.size_alloc] at bN
  gi_wp2_with (refine ⟨trivial, ?_⟩; gi_at_call 99; refine (digits_any _ n _).mono ?_; rintro e w' ⟨rfl, rfl⟩)
  have hI0 : EncI w w1.heap.size n [] ((w1.alloc (Obj.cells #[Value.slice (some ⟨w.heap.size + 1, 0, none⟩) 0 (wd n)] 24)).alloc (Obj.cells #[Value.int IntKind.u64 n] 79)) := by
    refine ⟨⟨_, bB.alloc _, ?_, trivial⟩, (bW.alloc _).alloc _, bN, (hB1.alloc (by omega) _).alloc (by simp; omega) _⟩
    have hr := (hrow1.alloc (.cells #[.slice (some ⟨w.heap.size + 1, 0, none⟩) 0 (wd n)] 24)).alloc (.cells #[.int .u64 n] 79)
    simpa [encF] using hr
  refine wpIn_rangeFunc_ownG rfl (by omega) (gf := 121) (lb := #[.pointer (some ⟨w1.heap.size + 1, 0, none⟩)]) rfl trivial (enters_of Tryz.func121 (by kernel_rfl) rfl)
    (digits_stops _ (w1.heap.size + 1) n (by omega) _ (by simp) bN.cell) kpC_t kpC_b (Below.refl _ _) (fun _ => rfl)
    (EncI w w1.heap.size n) (fun _ _ _ => False) (encI_own w w1.heap.size n _ (by simp; omega)) (fun _ _ _ _ _ hs _ _ => hs) hI0
    (fun x => { tmps := #[.int .u64 n, undef, .slice none 0 0, .pointer (some ⟨w.heap.size, 0, none⟩), .pointer (some ⟨w1.heap.size, 0, none⟩), .int .i64 (x.1 : Int), .int .u8 (dgt n x.1 : Int), .int .u64 n, .int .i64 (wd n), .int .i64 (wd n), .slice (some ⟨w.heap.size + 1, 0, none⟩) 0 (wd n), .int .u64 n, .func (.func 121) #[] #[.pointer (some ⟨w1.heap.size + 1, 0, none⟩)], .int .i64 (x.1 : Int), .int .u8 (dgt n x.1 : Int), undef, undef, undef, undef, undef, undef, undef, undef, undef, undef, undef, undef, undef, undef, undef, undef, undef, undef], defers := [] }) ?assign ?body ?done ?stop
  case assign =>
    intro l x W K hK
    gi_wp2
    exact hK
  case body =>
    rintro l pre x W ⟨⟨v, hv, hrow, _⟩, hbw, hbn, hB⟩ hlt
    have hcv := hv.cell
    have hcw := hbw.cell
    have hpl : (encF n (pre.map (·.1))).length ≤ 8 := by have := encF_len n (pre.map (·.1)); rw [List.length_map] at this; omega
    obtain ⟨x, hx8⟩ := x
    have hd := dgt_lt n x
    by_cases hx : x < wd n
    · by_cases hf : x = wd n - 1
      · have hb : ((x : Int) == (wd n : Int) - 1) = true := by rw [beq_iff_eq]; omega
        have HE := Lib.hid (bv_first n x hf)
        clear hf
        gi_wp2_with (first | (refine ⟨trivial, ?_⟩; gi_at_call 100; refine (CallsIn.inRound l (callsIn_wide.2 (mark_any (wd n) _ hw1 hw9))).mono ?_; rintro e w' ⟨rfl, rfl⟩) | (gi_at_builtin; refine wpListIn_append_own _ rfl _ _ 24 rfl w.heap.size 5 i0 (.int .u8 0) 1 1 Tryz.underlying24 hi hz0 hz1 hz2 rfl (by decide) _ _ _ rfl (hrow.alloc _) ⟨W.heap.size, 0, none⟩ 1 1 [.int .u8 (bits .or .u8 (dgt n x : Int) (mk (wd n) : Int))] rfl rfl (cell_one_new _ _ _) (by simp [Value.oneCell']) (by unfold maxLen; omega) (by omega) (by have := hB.size; simp; omega) ?_; intro v' w2 hown' hgrow _; obtain ⟨g', cap', rfl⟩ := ownsRow_succ hown'; rw [HE.out] at hown'; have hst := enc_step (x := ⟨x, hx8⟩) hv hrow hbw hbn hB (by omega) hx hown' hgrow; have hv2 := (hv.alloc _).kept hgrow (hv.not_row (by decide) hrow); have hc1 := hv2.cell; have hf1 := hv2.frozen))
        exact ⟨hst.1.from _, hst.2⟩
      · have hb : ((x : Int) == (wd n : Int) - 1) = false := by rw [beq_eq_false_iff_ne]; omega
        have HE := Lib.hid (bv_plain n x hf)
        clear hf
        gi_wp2_with (gi_at_builtin; refine wpListIn_append_own _ rfl _ _ 24 rfl w.heap.size 5 i0 (.int .u8 0) 1 1 Tryz.underlying24 hi hz0 hz1 hz2 rfl (by decide) _ _ _ rfl (hrow.alloc _) ⟨W.heap.size, 0, none⟩ 1 1 [.int .u8 (dgt n x : Int)] rfl rfl (cell_one_new _ _ _) (by simp [Value.oneCell']) (by unfold maxLen; omega) (by omega) (by have := hB.size; simp; omega) ?_; intro v' w2 hown' hgrow _; obtain ⟨g', cap', rfl⟩ := ownsRow_succ hown'; rw [HE.out] at hown'; have hst := enc_step (x := ⟨x, hx8⟩) hv hrow hbw hbn hB (by omega) hx hown' hgrow; have hv2 := (hv.alloc _).kept hgrow (hv.not_row (by decide) hrow); have hc1 := hv2.cell; have hf1 := hv2.frozen)
        exact ⟨hst.1.from _, hst.2⟩
    · have HM := Lib.hid (encF_miss n (pre.map (·.1)) x hx)
      gi_wp2
      refine ⟨KeepsFrom.refl _ _, fun u hu => hu, ⟨v, hv, ?_, trivial⟩, hbw, hbn, hB⟩
      rw [List.map_append]
      simp only [List.map_cons, List.map_nil]
      rw [HM.out]
      exact hrow
  case done =>
    rintro D ys W hD hS ⟨⟨v, hv, hrow, _⟩, _, _, hB⟩ hK
    have hc := hv.cell
    gi_wp2
    refine ⟨by simp, .inl ⟨_, _, rfl, run_takeDeferred hK, ?_⟩⟩
    rw [hS] at hrow
    exact ⟨_, results_tmp rfl _ _ _, v, rfl, ownsRow_putObj hrow _ hK rfl, hB.trans (belowK_b (w := w) (Nat.le_refl _) W D _ _ (by simp at hD; omega) hK rfl rfl)⟩
  case stop =>
    rintro D c pre W _ _ h _
    exact h.elim

end Go.Proofs.YtpkcjokkadfhcaaGreatDoor.V

namespace Go.Proofs.YtpkcjokkadfhcaaGreatDoor.O

/-- An instruction's row. -/
structure Row where
  name : List UInt8
  ka : Int
  kb : Int
  ta : Int
  tb : Int
  la : Int
  lb : Int
  hop : Bool
  fin : Bool

def rowsL : List Row := [
  ⟨[110, 111, 112], 0, 0, 0, 0, 0, 0, false, false⟩,
  ⟨[105, 110, 116], 1, 0, 0, 0, 1, 0, false, false⟩,
  ⟨[122, 101, 114, 111], 2, 0, 0, 0, -1, 0, false, false⟩,
  ⟨[108, 111, 97, 100], 4, 0, 0, 0, 0, 0, true, false⟩,
  ⟨[115, 116, 111, 114, 101], 4, 0, 0, 0, 0, 0, true, false⟩,
  ⟨[97, 100, 100, 114], 4, 0, 0, 0, 4, 0, false, false⟩,
  ⟨[108, 100, 112], 0, 0, 4, 0, 1, 0, false, false⟩,
  ⟨[115, 116, 112], 0, 0, 4, 1, 0, 0, false, false⟩,
  ⟨[110, 101, 119], 5, 0, 0, 0, 2, 0, false, false⟩,
  ⟨[103, 101, 116], 6, 3, 2, 0, -2, 0, false, false⟩,
  ⟨[115, 101, 116], 6, 3, 2, -2, 0, 0, false, false⟩,
  ⟨[102, 117, 110, 99], 7, 0, 0, 0, 3, 0, false, false⟩,
  ⟨[100, 117, 112], 0, 0, 0, 0, 0, 0, true, false⟩,
  ⟨[100, 114, 111, 112], 0, 0, 0, 0, 0, 0, true, false⟩,
  ⟨[115, 119, 97, 112], 0, 0, 0, 0, 0, 0, true, false⟩,
  ⟨[98, 105, 110], 8, 0, 1, 1, 1, 0, false, false⟩,
  ⟨[117, 110], 9, 0, 1, 0, 1, 0, false, false⟩,
  ⟨[101, 113], 2, 0, -1, -1, 1, 0, false, false⟩,
  ⟨[106, 109, 112], 10, 0, 0, 0, 0, 0, false, true⟩,
  ⟨[106, 122], 10, 0, 1, 0, 0, 0, false, false⟩,
  ⟨[99, 97, 108, 108], 7, 0, 0, 0, 0, 0, true, false⟩,
  ⟨[99, 97, 108, 108, 105], 7, 0, 0, 0, 0, 0, true, false⟩,
  ⟨[100, 101, 102, 101, 114], 7, 0, 0, 0, 0, 0, true, false⟩,
  ⟨[100, 101, 102, 101, 114, 105], 7, 0, 0, 0, 0, 0, true, false⟩,
  ⟨[114, 101, 116], 0, 0, 0, 0, 0, 0, false, true⟩,
  ⟨[112, 97, 110, 105, 99], 0, 0, 1, 0, 0, 0, false, true⟩,
  ⟨[114, 101, 99, 111, 118, 101, 114], 0, 0, 0, 0, 1, 1, false, false⟩,
  ⟨[103, 111, 101, 120, 105, 116], 0, 0, 0, 0, 0, 0, false, true⟩,
  ⟨[112, 114, 105, 110, 116], 0, 0, 1, 0, 0, 0, false, false⟩,
  ⟨[105, 110], 0, 0, 0, 0, 1, 1, false, false⟩]
theorem rows_length : rowsL.length = 30 := rfl

def row0 : Row := ⟨[], 0, 0, 0, 0, 0, 0, false, false⟩
/-- Is the number an instruction's? -/
def isOp (op : Int) : Bool := decide (0 ≤ op ∧ op < 30)
/-- The row of a number; an empty one, if it is no instruction's. -/
def rowAt (op : Int) : Row := if isOp op = true then rowsL.getD op.toNat row0 else row0

/-- The least and the greatest number of a kind of operands. -/
def lo (k : Int) : Int := if k = 1 then -9223372036854775808 else if k = 2 ∨ k = 3 then 1 else 0
def hi (k : Int) : Int :=
  if k = 1 then 9223372036854775807 else if k = 2 then 4 else if k = 3 then 3 else if k = 4 ∨ k = 5 ∨ k = 7 then 63 else if k = 6 then 15 else if k = 8 then 13 else if k = 9 then 8 else if k = 10 then 511 else 0
def inK (k n : Int) : Bool := decide (lo k ≤ n ∧ n ≤ hi k)
/-- May the instruction be? -/
def okI (op a b : Int) : Bool := isOp op && inK (rowAt op).ka a && inK (rowAt op).kb b

theorem isOp_yes {op : Int} (h : isOp op = true) : 0 ≤ op ∧ op < 30 := of_decide_eq_true h
theorem isOp_no {op : Int} (h : isOp op = false) : ¬ (0 ≤ op ∧ op < 30) := of_decide_eq_false h
theorem rowAt_no {op : Int} (h : isOp op = false) : rowAt op = row0 := by unfold rowAt; rw [if_neg (by rw [h]; decide)]
theorem rowAt_yes {op : Int} (h : isOp op = true) : ∃ hk : op.toNat < rowsL.length, rowAt op = rowsL[op.toNat] := by
  have hb := isOp_yes h
  have hk : op.toNat < rowsL.length := by rw [rows_length]; omega
  refine ⟨hk, ?_⟩
  unfold rowAt
  rw [if_pos h, List.getD_eq_getElem?_getD, List.getElem?_eq_getElem hk]; rfl

/-- What holds of each row, and of the empty one, holds of each number's. -/
theorem rowAt_all {p : Row → Bool} (h : rowsL.all p = true) (h0 : p row0 = true) (op : Int) : p (rowAt op) = true := by
  cases ho : isOp op
  · rw [rowAt_no ho]; exact h0
  · obtain ⟨hk, e⟩ := rowAt_yes ho
    rw [e]; exact List.all_eq_true.1 h _ (List.getElem_mem hk)

/-- An operand's text. -/
def word (k n : Int) : List UInt8 := if k = 2 ∨ k = 3 then W.letC n else if k = 8 then A.nameAt A.binNs n else if k = 9 then A.nameAt A.unNs n else Lib.itoa n
def partL (k n : Int) : List UInt8 := if k = 0 then [] else 32 :: word k n
/-- An instruction's text; nothing, if it may not be. -/
def textI (op a b : Int) : List UInt8 := (rowAt op).name ++ (partL (rowAt op).ka a ++ partL (rowAt op).kb b)
def showI (op a b : Int) : List UInt8 := if okI op a b = true then textI op a b else []

/-- An operand's bytes. -/
def encP (k n : Int) : List UInt8 := if k = 0 then [] else if k = 1 then V.encL (V.zig n) else V.encL n.toNat
def bytesI (op a b : Int) : List UInt8 := V.encL op.toNat ++ (encP (rowAt op).ka a ++ encP (rowAt op).kb b)
def encI (op a b : Int) : List UInt8 := if okI op a b = true then bytesI op a b else []

/-- The types of a pair, with those that an instruction names put in. -/
def tyOf (t a b : Int) : Int := if t = -1 then a else if t = -2 then b else t
def typesL (t u a b : Int) : List Int := if t = 0 then [] else if u = 0 then [tyOf t a b] else [tyOf t a b, tyOf u a b]

theorem ok_op {op a b : Int} (h : okI op a b = true) : isOp op = true ∧ inK (rowAt op).ka a = true ∧ inK (rowAt op).kb b = true := by
  unfold okI at h
  simp only [Bool.and_eq_true] at h
  exact ⟨h.1.1, h.1.2, h.2⟩

end Go.Proofs.YtpkcjokkadfhcaaGreatDoor.O
