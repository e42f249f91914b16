/-
  The plain mathematics of layer value: which numbers are types, which values may be, letters, a value's text and the value of a text. No program, no conditions.
  Words for memory that walks share: what a step keeps (Keep), a slice that reads as a list (Rd), one that the call owns (Own), and append. No conditions.
  What Known, Check, Zero and Nil answer, the code's and the document's. No conditions.
  What Nil answers, the code's and the document's; great. No conditions.
  What the document's Ints and Same answer: are two lists the same? Conditions: the lists lie in memory.
  What Zeros and Of answer: new lists. Conditions: the lists lie in memory, no more than 4096 long.
  What Fits answers. Conditions: the lists lie in memory.
  What the listed package-level variables hold, carried from world to world; Letter and lettered. Conditions: the variables hold what their initialisers lay.
  What Text answers, the code's and the document's. Conditions: the list lies in memory, the letters stand.
  What lettered and Types answer, the code's and the document's. Conditions: the letters stand; no more than 4096 bytes.
  Words for memory that the walks of vary share: what a step keeps (Keep), a slice of bytes that reads as a list (Rd), one that the call owns (OwnB), and append of the one onto the other. No conditions.
  The Tape: write, Number, Signed, Bytes, All, over a Tape in memory that holds the bytes l; and slices.Clone, Twin. Conditions: no more than 2^47 bytes in all.
  Tape.Number, Signed, Bytes over a Tape in memory; the law's own number: a number's bytes as a string. Conditions: no more than 2^47 bytes in all.
-/
import Derived.BigQuiet
import Derived.Deep.AppendLies
import Derived.Deep.Draws
import Derived.Deep.QuietTactic
import Derived.Deep.RegionHeld3
import Derived.Deep.RegionLaw
import Derived.Lib.DecodeN
import Derived.Lib.Hide
import Derived.Lib.ItoaLen
import Derived.Lib.OthersKept
import Derived.Lib.ParseIntBTie
import Derived.Lib.RuneBytes
import Derived.Lib.SmallJoins
import Derived.Maps.AppendAt
import Derived.OwnWalk
import Derived.StillTailTactics
import Derived.WalkKit
import Derived.WalkLawsBesides
import Derived.WalkSpells
import Derived.Test.YtieejecodfeodaaDoorProg
import Derived.Test.YtieejecodfeodaaDoorShelf
import Derived.Test.YtieejecodfeodaaDoorShelf2
import Derived.Test.YtieejecodfeodaaDoorQ1
namespace Go.Proofs.YtieejecodfeodaaDoor.W
open Go.Lib

abbrev str (l : List UInt8) : ByteArray := ⟨l.toArray⟩

/-- Is the number a type? -/
def knownB (t : Int) : Bool := decide (1 ≤ t ∧ t ≤ 4)
/-- May the value be? -/
def okB (t n : Int) : Bool := decide ((1 ≤ t ∧ t ≤ 4) ∧ (t = 1 ∨ 0 ≤ n))
/-- Is it nil? -/
def nilB (t n : Int) : Bool := decide ((2 ≤ t ∧ t ≤ 4) ∧ n = 0)
/-- A type's letter. -/
def letC (t : Int) : List UInt8 := if t = 1 then [73] else if t = 2 then [82] else if t = 3 then [70] else if t = 4 then [80] else []

theorem known_iff (t : Int) : knownB t = true ↔ 1 ≤ t ∧ t ≤ 4 := by simp [knownB]
theorem known_not (t : Int) : knownB t = false ↔ ¬ (1 ≤ t ∧ t ≤ 4) := by simp [knownB]
theorem ok_iff (t n : Int) : okB t n = true ↔ (1 ≤ t ∧ t ≤ 4) ∧ (t = 1 ∨ 0 ≤ n) := by simp [okB]
theorem ok_not (t n : Int) : okB t n = false ↔ ¬ ((1 ≤ t ∧ t ≤ 4) ∧ (t = 1 ∨ 0 ≤ n)) := by unfold okB; rw [decide_eq_false_iff_not]
theorem nil_iff (t n : Int) : nilB t n = true ↔ (2 ≤ t ∧ t ≤ 4) ∧ n = 0 := by simp [nilB]
theorem nil_not (t n : Int) : nilB t n = false ↔ ¬ ((2 ≤ t ∧ t ≤ 4) ∧ n = 0) := by unfold nilB; rw [decide_eq_false_iff_not]
theorem ok_known {t n : Int} (h : okB t n = true) : knownB t = true := by rw [known_iff]; exact ((ok_iff t n).1 h).1

theorem known_cases {t : Int} (h : knownB t = true) : t = 1 ∨ t = 2 ∨ t = 3 ∨ t = 4 := by rw [known_iff] at h; omega
theorem letC_known {t : Int} (h : knownB t = true) : ∃ c, letC t = [c] ∧ c.toNat < 128 := by
  rcases known_cases h with rfl | rfl | rfl | rfl <;> exact ⟨_, rfl, by decide⟩
theorem letC_none {t : Int} (h : knownB t = false) : letC t = [] := by
  rw [known_not] at h
  unfold letC
  rw [if_neg (by omega), if_neg (by omega), if_neg (by omega), if_neg (by omega)]
theorem letC_inj {a b : Int} (ha : knownB a = true) (h : letC a = letC b) : a = b := by
  cases hb : knownB b
  · rw [letC_none hb] at h
    obtain ⟨c, hc, _⟩ := letC_known ha
    rw [hc] at h; cases h
  · rcases known_cases ha with rfl | rfl | rfl | rfl <;> rcases known_cases hb with rfl | rfl | rfl | rfl <;> first | rfl | (exact absurd h (by decide))

/-! ### Texts of lists of types -/

/-- A list's text, or nothing. -/
def txt (l : List Int) : List UInt8 := if l.length ≤ 1024 ∧ l.all knownB = true then l.flatMap letC else []
/-- A letter's type; 0: none has it. -/
def unlet (c : UInt8) : Int := if c = 73 then 1 else if c = 82 then 2 else if c = 70 then 3 else if c = 80 then 4 else 0
/-- The types of a text, if it is one. -/
def untxt (s : List UInt8) : Option (List Int) := if s.length ≤ 1024 ∧ (s.all fun c => decide (unlet c ≠ 0)) = true then some (s.map unlet) else none

theorem unlet_known (c : UInt8) : unlet c = 0 ∨ knownB (unlet c) = true := by
  unfold unlet
  split
  · right; decide
  · split
    · right; decide
    · split
      · right; decide
      · split
        · right; decide
        · left; rfl
theorem unlet_let {c : UInt8} (h : unlet c ≠ 0) : letC (unlet c) = [c] := by
  unfold unlet at h ⊢
  split
  · rename_i e; rw [e]; rfl
  · split
    · rename_i e; rw [e]; rfl
    · split
      · rename_i e; rw [e]; rfl
      · split
        · rename_i e; rw [e]; rfl
        · rename_i h1 h2 h3 h4
          rw [if_neg h1, if_neg h2, if_neg h3, if_neg h4] at h
          exact absurd rfl h
theorem unlet_of {t : Int} {c : UInt8} (ht : knownB t = true) (h : letC t = [c]) : unlet c = t := by
  rcases known_cases ht with rfl | rfl | rfl | rfl <;> · injection h with h _; subst h; rfl

theorem flat_let_length : ∀ (l : List Int), l.all knownB = true → (l.flatMap letC).length = l.length
  | [], _ => rfl
  | t :: r, h => by
    simp only [List.all_cons, Bool.and_eq_true] at h
    obtain ⟨c, hc, _⟩ := letC_known h.1
    rw [List.flatMap_cons, List.length_append, hc, flat_let_length r h.2]
    simp; omega
theorem unlet_flat : ∀ (l : List Int), l.all knownB = true → (l.flatMap letC).map unlet = l ∧ ((l.flatMap letC).all fun c => decide (unlet c ≠ 0)) = true
  | [], _ => ⟨rfl, rfl⟩
  | t :: r, h => by
    simp only [List.all_cons, Bool.and_eq_true] at h
    obtain ⟨c, hc, _⟩ := letC_known h.1
    obtain ⟨h1, h2⟩ := unlet_flat r h.2
    have hu := unlet_of h.1 hc
    have h0 : ¬ t = 0 := by have := (known_iff t).1 h.1; omega
    rw [List.flatMap_cons, hc]
    refine ⟨?_, ?_⟩
    · rw [List.map_append, h1]; simp [hu]
    · rw [List.all_append, h2]; simp [hu, h0]
theorem flat_unlet : ∀ (s : List UInt8), (s.all fun c => decide (unlet c ≠ 0)) = true → (s.map unlet).flatMap letC = s ∧ (s.map unlet).all knownB = true
  | [], _ => ⟨rfl, rfl⟩
  | c :: r, h => by
    simp only [List.all_cons, Bool.and_eq_true, decide_eq_true_eq] at h
    obtain ⟨h1, h2⟩ := flat_unlet r h.2
    rw [List.map_cons, List.flatMap_cons, unlet_let h.1, h1, List.all_cons, h2]
    exact ⟨rfl, by simpa using (unlet_known c).resolve_left h.1⟩

theorem txt_length {l : List Int} (h1 : l.length ≤ 1024) (h2 : l.all knownB = true) : (txt l).length = l.length := by
  unfold txt; rw [if_pos ⟨h1, h2⟩, flat_let_length l h2]
theorem untxt_txt {l : List Int} (h1 : l.length ≤ 1024) (h2 : l.all knownB = true) : untxt (txt l) = some l := by
  have hl := flat_let_length l h2
  obtain ⟨u1, u2⟩ := unlet_flat l h2
  have ht : txt l = l.flatMap letC := by unfold txt; rw [if_pos ⟨h1, h2⟩]
  rw [ht]
  unfold untxt
  rw [if_pos ⟨by omega, u2⟩, u1]
theorem txt_untxt {s : List UInt8} {l : List Int} (h : untxt s = some l) : txt l = s := by
  unfold untxt at h
  split at h
  · rename_i hc
    injection h with h
    subst h
    obtain ⟨u1, u2⟩ := flat_unlet s hc.2
    unfold txt
    rw [if_pos ⟨by simpa using hc.1, u2⟩, u1]
  · cases h
theorem txt_bad {l : List Int} (h : l.all knownB = false) : txt l = [] := by unfold txt; rw [if_neg (by simp [h])]
theorem txt_long {l : List Int} (h : 1024 < l.length) : txt l = [] := by unfold txt; rw [if_neg (by omega)]

/-! ### A value's text -/

/-- The sign in front. -/
def sgn (t : Int) : List UInt8 := if t = 2 then [35] else if t = 3 then [64] else if t = 4 then [38] else []
/-- What a value's number is above the one shown. -/
def off (t : Int) : Int := if t = 3 then 1 else 0
/-- A value's text; nothing, if it may not be. -/
def showL (t n : Int) : List UInt8 := if okB t n = false then [] else if nilB t n = true then [110, 105, 108] else if t = 4 then [38] else sgn t ++ itoa (n - off t)

theorem show_bad {t n : Int} (h : okB t n = false) : showL t n = [] := by unfold showL; rw [if_pos h]
theorem show_nil {t n : Int} (h : nilB t n = true) : showL t n = [110, 105, 108] := by
  have h1 : ¬ okB t n = false := by rw [ok_not]; rw [nil_iff] at h; omega
  unfold showL; rw [if_neg h1, if_pos h]
theorem show_ptr {n : Int} (h : 0 < n) : showL 4 n = [38] := by
  have h1 : ¬ okB 4 n = false := by rw [ok_not]; omega
  have h2 : ¬ nilB 4 n = true := by rw [nil_iff]; omega
  unfold showL; rw [if_neg h1, if_neg h2, if_pos rfl]
theorem show_num {t n : Int} (h : okB t n = true) (h0 : nilB t n = false) (h4 : t ≠ 4) : showL t n = sgn t ++ itoa (n - off t) := by
  unfold showL; rw [if_neg (by simp [h]), if_neg (by simp [h0]), if_neg h4]

/-! ### Decimal digits there and back -/

theorem dec_ne (u : Nat) : decDigits u ≠ [] := by
  intro h; have h1 := decDigits_length u; have := nDigits_pos u; rw [h] at h1; simp at h1; omega
theorem byte_dig (d : Nat) (h : d < 10) : (UInt8.ofNat (48 + d)).toNat = 48 + d := by rw [UInt8.toNat_ofNat', Nat.mod_eq_of_lt (by omega)]
theorem dec_digits (u : Nat) : ∀ c ∈ decDigits u, 48 ≤ c.toNat ∧ c.toNat ≤ 57 := by
  induction u using Nat.strongRecOn with
  | _ u ih =>
    rw [decDigits]
    split
    · rename_i h
      intro c hc
      simp only [List.mem_singleton] at hc
      rw [hc, byte_dig u h]; omega
    · rename_i h
      intro c hc
      rcases List.mem_append.1 hc with hc | hc
      · exact ih (u / 10) (by omega) c hc
      · simp only [List.mem_singleton] at hc
        rw [hc, byte_dig (u % 10) (by omega)]; omega

/-- What digits spell, on from acc. -/
def spell (acc : Nat) (l : List UInt8) : Nat := l.foldl (fun a c => a * 10 + (c.toNat - 48)) acc
theorem spell_append (acc : Nat) (l r : List UInt8) : spell acc (l ++ r) = spell (spell acc l) r := List.foldl_append
theorem spell_le (l : List UInt8) : ∀ acc, acc ≤ spell acc l := by
  induction l with
  | nil => intro acc; exact Nat.le_refl _
  | cons c r ih =>
    intro acc
    have := ih (acc * 10 + (c.toNat - 48))
    show acc ≤ spell (acc * 10 + (c.toNat - 48)) r
    omega
theorem spell_dec (u : Nat) : spell 0 (decDigits u) = u := by
  induction u using Nat.strongRecOn with
  | _ u ih =>
    rw [decDigits]
    split
    · rename_i h
      show 0 * 10 + ((UInt8.ofNat (48 + u)).toNat - 48) = u
      rw [byte_dig u h]; omega
    · rename_i h
      rw [spell_append, ih (u / 10) (by omega)]
      show u / 10 * 10 + ((UInt8.ofNat (48 + u % 10)).toNat - 48) = u
      rw [byte_dig (u % 10) (by omega)]; omega
theorem parse_spell : ∀ (l : List UInt8) (acc : Nat), (∀ c ∈ l, 48 ≤ c.toNat ∧ c.toNat ≤ 57) → spell acc l < 18446744073709551616 → parseUint10 acc l = .ok (spell acc l)
  | [], acc, _, _ => rfl
  | c :: r, acc, hd, hs => by
    have hc := hd c (List.mem_cons_self ..)
    have hle := spell_le r (acc * 10 + (c.toNat - 48))
    have he : spell acc (c :: r) = spell (acc * 10 + (c.toNat - 48)) r := rfl
    rw [he] at hs ⊢
    unfold parseUint10
    rw [if_pos hc, if_neg (by omega), if_neg (by omega)]
    exact parse_spell r _ (fun c h => hd c (List.mem_cons_of_mem _ h)) hs
theorem mag_dec (u : Nat) (h : u < 18446744073709551616) : parseMag (decDigits u) = .ok u := by
  unfold parseMag
  rw [if_neg (dec_ne u), parse_spell _ 0 (dec_digits u) (by rw [spell_dec]; exact h), spell_dec]

theorem dec_cons (u : Nat) : ∃ c r, decDigits u = c :: r ∧ 48 ≤ c.toNat ∧ c.toNat ≤ 57 := by
  cases h : decDigits u with
  | nil => exact absurd h (dec_ne u)
  | cons c r => exact ⟨c, r, rfl, dec_digits u c (by rw [h]; exact List.mem_cons_self ..)⟩
theorem itoa_pos {n : Int} (h : 0 ≤ n) : itoa n = decDigits n.toNat := by unfold itoa; rw [if_neg (by omega)]
theorem itoa_minus {n : Int} (h : n < 0) : itoa n = 45 :: decDigits n.natAbs := by unfold itoa; rw [if_pos h]
theorem itoa_cons (n : Int) : ∃ c r, itoa n = c :: r ∧ (c = 45 ∨ (48 ≤ c.toNat ∧ c.toNat ≤ 57)) := by
  by_cases h : n < 0
  · exact ⟨_, _, itoa_minus h, .inl rfl⟩
  · obtain ⟨c, r, h1, h2⟩ := dec_cons n.toNat
    exact ⟨c, r, (itoa_pos (by omega)).trans h1, .inr h2⟩

/-- A number's own text is read as the number. -/
theorem atoi_itoa (n : Int) (h0 : -9223372036854775808 ≤ n) (h1 : n ≤ 9223372036854775807) : atoiAll (itoa n) = .ok n := by
  by_cases h : n < 0
  · rw [itoa_minus h]
    unfold atoiAll
    have e : (45 : UInt8).toNat = 45 := rfl
    simp only [e, or_true, if_true]
    rw [mag_dec _ (by omega)]
    simp only [not_true, false_and, if_false, true_and]
    rw [if_neg (by omega)]
    congr 1; omega
  · obtain ⟨c, r, hc, hd⟩ := dec_cons n.toNat
    have hm := mag_dec n.toNat (by omega)
    rw [itoa_pos (by omega)]
    rw [hc] at hm ⊢
    unfold atoiAll
    have e1 : ¬ (c.toNat = 43 ∨ c.toNat = 45) := by omega
    have e2 : ¬ c.toNat = 45 := by omega
    dsimp only
    rw [if_neg e1, hm]
    dsimp only
    rw [if_neg (by omega), if_neg (by omega), if_neg e2]
    congr 1; omega

theorem itoa_inj {a b : Int} (ha : -9223372036854775808 ≤ a ∧ a ≤ 9223372036854775807) (hb : -9223372036854775808 ≤ b ∧ b ≤ 9223372036854775807) (h : itoa a = itoa b) : a = b := by
  have h1 := atoi_itoa a ha.1 ha.2
  rw [h, atoi_itoa b hb.1 hb.2] at h1
  injection h1 with h1
  exact h1.symm

theorem size_of {S : ByteArray} {s : List UInt8} (h : S.data.toList = s) : S.size = s.length := by rw [← h, Array.length_toList]; rfl
theorem byte_at {S : ByteArray} {s : List UInt8} (h : S.data.toList = s) (i : Nat) (hi : i < S.size) (hj : i < s.length) : S[i] = s[i] := by subst h; simp; rfl
theorem get_at {S : ByteArray} (i : Nat) (hi : i < S.size) : S.get! i = S[i] := by simp [ByteArray.get!, getElem!_pos, hi]; rfl

end Go.Proofs.YtieejecodfeodaaDoor.W

namespace Go.Proofs.YtieejecodfeodaaDoor
open Go.RowKit

theorem ret_bool {a b : Bool} (h : a = b) : Ending.returned (.bool a) = .returned (.bool b) := by rw [h]
theorem ret_int {k : IntKind} {a b : Int} (h : a = b) : Ending.returned (.int k a) = .returned (.int k b) := by rw [h]

/-- What lay when the step began, and is none of O, lies as it lay. -/
structure Keep (O : Nat → Prop) (w w' : World) : Prop where
  os : w'.os = w.os
  tape : w'.tape = w.tape
  output : w'.output = w.output
  size : w.heap.size ≤ w'.heap.size
  block : ∀ k, k < w.heap.size → ¬ O k → w'.heap[k]? = w.heap[k]?

/-- No block at all. -/
def NoB : Nat → Prop := fun _ => False
/-- Blocks that were not yet there. -/
def Fresh (w : World) : Nat → Prop := fun k => w.heap.size ≤ k

section
variable {O O' : Nat → Prop} {w w1 w2 : World}
theorem Keep.refl (O : Nat → Prop) (w : World) : Keep O w w := ⟨rfl, rfl, rfl, Nat.le_refl _, fun _ _ _ => rfl⟩
theorem Keep.trans (h : Keep O w w1) (h' : Keep O' w1 w2) (hO : ∀ k, O' k → k < w.heap.size → O k) : Keep O w w2 :=
  ⟨h'.os.trans h.os, h'.tape.trans h.tape, h'.output.trans h.output, Nat.le_trans h.size h'.size,
    fun k hk hn => (h'.block k (Nat.lt_of_lt_of_le hk h.size) (fun ho => hn (hO k ho hk))).trans (h.block k hk hn)⟩
theorem Keep.mono (h : Keep O w w1) (hO : ∀ k, O k → k < w.heap.size → O' k) : Keep O' w w1 :=
  ⟨h.os, h.tape, h.output, h.size, fun k hk hn => h.block k hk (fun ho => hn (hO k ho hk))⟩
theorem Keep.drew (h : Keep O w w1) : Keep O w w1.drew := ⟨h.os, h.tape, h.output, h.size, h.block⟩
theorem Keep.drewN (h : Keep O w w1) (n : Nat) : Keep O w (w1.drewN n) := ⟨h.os, h.tape, h.output, h.size, h.block⟩
theorem Keep.alloc (h : Keep O w w1) (o : Obj) : Keep O w (w1.alloc o) :=
  h.trans (O' := NoB) ⟨rfl, rfl, rfl, by simp, fun k hk _ => Below.heap_alloc _ _ _ hk⟩ (fun _ hf => hf.elim)
theorem Keep.setCell (h : Keep O w w1) {p : Addr} (hp : p.block < w.heap.size → O p.block) (u : Value) : Keep O w (w1.setCell p u) :=
  h.trans (O' := fun k => k = p.block) ⟨rfl, rfl, rfl, by simp [World.setCell], fun k _ hn => Below.heap_setCell _ _ _ _ hn⟩ (fun k e hk => by rw [e] at hk ⊢; exact hp hk)
theorem Keep.grown {row : Option Nat} (h : Keep O w w1) (hg : w1.grownBy w2 row) (hr : ∀ g, row = some g → g < w.heap.size → O g) : Keep O w w2 :=
  h.trans (O' := fun k => some k = row) ⟨hg.os, hg.tape, hg.output, hg.size, fun k hk hn => hg.block k hk hn⟩ (fun k e hk => hr k e.symm hk)
theorem Keep.below (h : Keep O w w1) (hO : ∀ k, O k → w.heap.size ≤ k) : Below w.heap.size w w1 :=
  ⟨h.os, h.tape, h.output, h.size, fun k hk => h.block k hk (fun ho => by have := hO k ho; omega)⟩
theorem Keep.of_below (h : Below w.heap.size w w1) : Keep O w w1 := ⟨h.os, h.tape, h.output, h.size, fun k hk _ => h.block k hk⟩
theorem Keep.cell (h : Keep O w w1) {p : Addr} {v : Value} (hc : w.cell? p = some v) (hp : ¬ O p.block) : w1.cell? p = some v :=
  (World.cell?_of_block (h.block _ (World.block_lt_of_cell? w p hc) hp)).trans hc
theorem keepN (h : Keep NoB w w1) (h' : Keep NoB w1 w2) : Keep NoB w w2 := h.trans h' (fun _ hf _ => hf.elim)
theorem Keep.toBelow (h : Keep NoB w w1) : Below w.heap.size w w1 := h.below (fun _ hf => hf.elim)
end

/-- A slice's address, from which the cells xs stand. -/
def Rd (w : World) (A : Option Addr) (xs : List Value) : Prop :=
  0 < xs.length → ∃ g off, A = some ⟨g, off, none⟩ ∧ ∀ j u, xs[j]? = some u → w.cell? ⟨g, off + j, none⟩ = some u
theorem Rd.none_ (w : World) (A : Option Addr) : Rd w A [] := fun h => by simp at h
theorem Rd.keep {O : Nat → Prop} {w w' : World} {A : Option Addr} {xs : List Value} (h : Rd w A xs) (hk : Keep O w w') (hA : ∀ ad, A = some ad → ¬ O ad.block) : Rd w' A xs := fun h0 => by
  obtain ⟨g, off, e, hc⟩ := h h0
  exact ⟨g, off, e, fun j u hu => hk.cell (hc j u hu) (by have := hA _ e; exact this)⟩
theorem Rd.keepN {w w' : World} {A : Option Addr} {xs : List Value} (h : Rd w A xs) (hk : Keep NoB w w') : Rd w' A xs := h.keep hk (fun _ _ => id)

/-- Numbers, and values, as cells. -/
abbrev ivs (l : List Int) : List Value := l.map (.int .i64)
def vvs (l : List (Int × Int)) : List Value := l.flatMap fun v => [.int .i64 v.1, .int .i64 v.2]
theorem ivs_one (l : List Int) : ∀ u ∈ ivs l, u.oneCell' = true := by
  intro u hu
  obtain ⟨b, _, rfl⟩ := List.mem_map.1 hu
  rfl
theorem vvs_one (l : List (Int × Int)) : ∀ u ∈ vvs l, u.oneCell' = true := by
  intro u hu
  obtain ⟨b, _, hb⟩ := List.mem_flatMap.1 hu
  rcases List.mem_cons.1 hb with rfl | hb
  · rfl
  · rw [List.mem_singleton.1 hb]; rfl
theorem vvs_cons (v : Int × Int) (l : List (Int × Int)) : vvs (v :: l) = [.int .i64 v.1, .int .i64 v.2] ++ vvs l := by unfold vvs; rw [List.flatMap_cons]
theorem vvs_append (l r : List (Int × Int)) : vvs (l ++ r) = vvs l ++ vvs r := by simp [vvs]
theorem vvs_length (l : List (Int × Int)) : (vvs l).length = l.length * 2 := by
  induction l with
  | nil => rfl
  | cons v l ih => rw [vvs_cons, List.length_append, ih]; simp; omega
theorem vvs_at : ∀ (l : List (Int × Int)) (i : Nat) (h : i < l.length), (vvs l)[i * 2]? = some (.int .i64 l[i].1) ∧ (vvs l)[i * 2 + 1]? = some (.int .i64 l[i].2)
  | v :: l, 0, _ => by rw [vvs_cons]; exact ⟨rfl, rfl⟩
  | v :: l, i + 1, h => by
    have := vvs_at l i (by simpa using h)
    rw [vvs_cons, show (i + 1) * 2 = i * 2 + 2 by omega]
    exact ⟨by simpa using this.1, by simpa using this.2⟩

theorem rdI_at {w : World} {A : Option Addr} {l : List Int} (h : Rd w A (ivs l)) (h0 : 0 < l.length) : ∃ g off, A = some ⟨g, off, none⟩ ∧ ∀ (i : Nat) (hi : i < l.length), w.cell? ⟨g, off + i, none⟩ = some (.int .i64 l[i]) := by
  obtain ⟨g, off, e, hc⟩ := h (by simpa using h0)
  exact ⟨g, off, e, fun i hi => hc i _ (by simp [hi])⟩
theorem rdV_at {w : World} {A : Option Addr} {l : List (Int × Int)} (h : Rd w A (vvs l)) (h0 : 0 < l.length) : ∃ g off, A = some ⟨g, off, none⟩ ∧
    ∀ (i : Nat) (hi : i < l.length), w.cell? ⟨g, off + i * 2, none⟩ = some (.int .i64 l[i].1) ∧ w.cell? ⟨g, off + i * 2 + 1, none⟩ = some (.int .i64 l[i].2) := by
  obtain ⟨g, off, e, hc⟩ := h (by rw [vvs_length]; omega)
  refine ⟨g, off, e, fun i hi => ?_⟩
  obtain ⟨h1, h2⟩ := vvs_at l i hi
  exact ⟨hc _ _ h1, hc _ _ h2⟩

/-- A slice that the call owns: so many elements, so many cells each, in a block of O. -/
def Own (w : World) (E size : Nat) (O : Nat → Prop) (v : Value) (n : Nat) (xs : List Value) : Prop :=
  w.ownsRow 0 E size v n xs ∧ ∀ g, v.ownBlock = some g → O g
section
variable {w w' : World} {E size n : Nat} {O O' : Nat → Prop} {v : Value} {xs : List Value}
theorem Own.nil (w : World) (E size : Nat) (O : Nat → Prop) : Own w E size O (.slice none 0 0) 0 [] := ⟨World.ownsRow_nil _ _ _ _, by simp [Value.ownBlock]⟩
theorem Own.mono (h : Own w E size O v n xs) (hO : ∀ k, O k → k < w.heap.size → O' k) : Own w E size O' v n xs := ⟨h.1, fun g e => hO g (h.2 g e) (h.1.lt g e).2⟩
theorem ownsRow_keep {base : Nat} (h : w.ownsRow base E size v n xs) (hk : Keep O w w') (hn : ∀ g, v.ownBlock = some g → ¬ O g) : w'.ownsRow base E size v n xs := by
  refine ⟨h.1, ?_⟩
  rcases h.2 with h2 | ⟨g, cap, cur, rfl, hb, hh, r⟩
  · exact .inl h2
  · exact .inr ⟨g, cap, cur, rfl, hb, (hk.block g (Array.getElem?_eq_some_iff.1 hh).1 (hn g rfl)).trans hh, r⟩
theorem Own.keep (h : Own w E size O v n xs) (hk : Keep O' w w') (hn : ∀ k, O k → ¬ O' k) : Own w' E size O v n xs := ⟨ownsRow_keep h.1 hk (fun g e => hn g (h.2 g e)), h.2⟩
theorem Own.keepN (h : Own w E size O v n xs) (hk : Keep NoB w w') : Own w' E size O v n xs := h.keep hk (fun _ _ => id)
/-- The slice written out; it reads as its cells. -/
theorem Own.form (h : Own w E size O v n xs) : ∃ A c, v = .slice A n c ∧ n ≤ c ∧ c ≤ maxLen ∧ Rd w A xs ∧ (∀ ad, A = some ad → O ad.block ∧ ad = ⟨ad.block, 0, none⟩) := by
  rcases h.1.2 with ⟨rfl, hn⟩ | ⟨g, cap, cur, rfl, _, hh, hc, hm, _⟩
  · have hx : xs = [] := List.length_eq_zero_iff.1 (by rw [h.1.1, hn, Nat.zero_mul])
    subst hx
    exact ⟨none, 0, by rw [hn], Nat.le_of_eq hn, Nat.zero_le _, Rd.none_ _ _, by simp⟩
  · refine ⟨_, cap, rfl, hc, hm, fun _ => ⟨g, 0, rfl, fun j u hu => ?_⟩, ?_⟩
    · have := h.1.cells (g := g) rfl j u hu
      have ea : (⟨g, 0, none⟩ : Addr).add j = ⟨g, 0 + j, none⟩ := by unfold Addr.add; by_cases hj : j = 0 <;> simp [hj]
      rwa [ea] at this
    · intro ad e
      cases e
      exact ⟨h.2 g rfl, rfl⟩
/-- A row of new blocks, as a contract of the shelf, or of make, hands it out. -/
theorem Own.of_row {base : Nat} (h : w.ownsRow base E size v n xs) (hb : ∀ k, base ≤ k → O k) : Own w E size O v n xs := by
  refine ⟨⟨h.1, ?_⟩, fun g e => hb g (h.lt g e).1⟩
  rcases h.2 with h2 | ⟨g, cap, cur, h1, _, h2⟩
  · exact .inl h2
  · exact .inr ⟨g, cap, cur, h1, Nat.zero_le _, h2⟩
end

theorem own_form {w : World} {E size base n : Nat} {v : Value} {xs : List Value} (h : w.ownsRow base E size v n xs) : ∃ A c, v = .slice A n c := by
  rcases h.2 with ⟨rfl, rfl⟩ | ⟨g, cap, cur, rfl, _⟩
  · exact ⟨_, _, rfl⟩
  · exact ⟨_, _, rfl⟩

/-- append of cells that are read onto a row that is owned. -/
theorem run_append_rd (w : World) (S E size bytes : Nat) (i0 : TypeInfo) (z : Value) (hS : Tryd.prog.underlying S = some (.slice E)) (hi : Tryd.prog.info? E = some i0) (hz0 : i0.zero = some z) (hz1 : i0.size = size) (hz2 : i0.bytes = bytes) (hzs : z.cells.size = size) (hsz : 0 < size)
    (v : Value) (n : Nat) (xs : List Value) (A : Option Addr) (m c : Nat) (ys : List Value) (ty : TypeId)
    (hown : w.ownsRow 0 E size v n xs) (hr : Rd w A ys) (hl : ys.length = m * size) (h1 : ∀ u ∈ ys, u.oneCell' = true) (h63 : n + m ≤ maxLen) (hb : (n + m) * bytes ≤ 140737488355328) :
    ∃ v' w', (Builtin.append_ #[S, S] ty #[v, .slice A m c]).run Tryd.prog w = .ok v' w' ∧ w'.ownsRow 0 E size v' (n + m) (xs ++ ys) ∧ w.grownBy w' v.ownBlock ∧
      (v'.ownBlock = v.ownBlock ∨ v'.ownBlock = some w.heap.size) := by
  have hm0 : m = 0 → ys = [] := fun e => List.length_eq_zero_iff.1 (by rw [hl, e, Nat.zero_mul])
  rcases A with _ | ad
  · have hy : ys = [] := by
      rcases Nat.eq_zero_or_pos ys.length with h0 | h0
      · exact List.length_eq_zero_iff.1 h0
      · obtain ⟨g, off, e, _⟩ := hr h0; cases e
    subst hy
    have hm : m = 0 := by
      rcases Nat.eq_zero_or_pos m with h | h
      · exact h
      · have := Nat.mul_pos h hsz; simp at hl; omega
    subst hm
    refine ⟨v, w, ?_, by simpa using hown, World.grownBy.refl w _, .inl rfl⟩
    rcases hown.2 with ⟨rfl, h0⟩ | ⟨g, cap, cur, rfl, _, _, hnc, _⟩
    · simp [Builtin.append_, run_underlying hS, sizeOf, typeInfo, hi, Builtin.lenOf, Builtin.firstCells]
    · simp [Builtin.append_, run_underlying hS, sizeOf, typeInfo, hi, Builtin.lenOf, Builtin.firstCells, hnc, storeCells]
  · have hcells : ∀ j u, ys[j]? = some u → w.cell? (ad.add j) = some u := by
      intro j u hu
      rcases Nat.eq_zero_or_pos ys.length with h0 | h0
      · have : ys = [] := List.length_eq_zero_iff.1 h0
        subst this; simp at hu
      · obtain ⟨g, off, e, hc⟩ := hr h0
        cases e
        have ea : (⟨g, off, none⟩ : Addr).add j = ⟨g, off + j, none⟩ := by unfold Addr.add; by_cases hj : j = 0 <;> simp [hj]
        rw [ea]; exact hc j u hu
    obtain ⟨v', w', hrun, h2, h3, _, h5⟩ := run_append_own_at (P := Tryd.prog) w 0 S ty E i0 z size bytes hS hi hz0 hz1 hz2 hzs hsz v n xs hown ad m c ys hl hcells h1 h63 hb (Nat.zero_le _)
    exact ⟨v', w', hrun, h2, h3, h5⟩

theorem wp_append_rd {o : Oper} {a : Act} {K : Act → World → Prop} {Q : Exit → Act → World → Prop} (w : World) (s x : Operand) (S : TypeId)
    (ho : o.op = .call { callee := .builtin .append, args := #[s, x], argTypes := #[S, S] })
    (E size bytes : Nat) (i0 : TypeInfo) (z : Value) (hS : Tryd.prog.underlying S = some (.slice E)) (hi : Tryd.prog.info? E = some i0) (hz0 : i0.zero = some z) (hz1 : i0.size = size) (hz2 : i0.bytes = bytes) (hzs : z.cells.size = size) (hsz : 0 < size)
    (v : Value) (n : Nat) (xs : List Value) (A : Option Addr) (m c : Nat) (ys : List Value) (hs : a.eval s = v) (hown : w.ownsRow 0 E size v n xs) (hx : a.eval x = .slice A m c) (hr : Rd w A ys)
    (hl : ys.length = m * size) (h1 : ∀ u ∈ ys, u.oneCell' = true) (h63 : n + m ≤ maxLen) (hb : (n + m) * bytes ≤ 140737488355328)
    (h : ∀ A' c' w', w'.ownsRow 0 E size (.slice A' (n + m) c') (n + m) (xs ++ ys) → w.grownBy w' v.ownBlock → ((Value.slice A' (n + m) c').ownBlock = v.ownBlock ∨ (Value.slice A' (n + m) c').ownBlock = some w.heap.size) → K (a.put o.dst (.slice A' (n + m) c')) w') : o.wp Tryd.prog a w K Q := by
  obtain ⟨v', w', hrun, h2, h3, h4⟩ := run_append_rd w S E size bytes i0 z hS hi hz0 hz1 hz2 hzs hsz v n xs A m c ys o.type hown hr hl h1 h63 hb
  obtain ⟨A', c', rfl⟩ := own_form h2
  unfold Oper.wp execOp
  simp only [ho, resolve, invoke, builtin, Sem.run_bind, Sem.run_pure, Result.andThen_ok, List.map_toArray, List.map_cons, List.map_nil, hs, hx, hrun]
  exact h A' c' w' h2 h3 h4

theorem wpList_append_rd {ops : Array Oper} {rest : List Oper} {o : Oper} {a : Act} {Q : Exit → Act → World → Prop} (w : World) (hgd : o.guard = none) (s x : Operand) (S : TypeId)
    (ho : o.op = .call { callee := .builtin .append, args := #[s, x], argTypes := #[S, S] })
    (E size bytes : Nat) (i0 : TypeInfo) (z : Value) (hS : Tryd.prog.underlying S = some (.slice E)) (hi : Tryd.prog.info? E = some i0) (hz0 : i0.zero = some z) (hz1 : i0.size = size) (hz2 : i0.bytes = bytes) (hzs : z.cells.size = size) (hsz : 0 < size)
    (v : Value) (n : Nat) (xs : List Value) (A : Option Addr) (m c : Nat) (ys : List Value) (hs : a.eval s = v) (hown : w.ownsRow 0 E size v n xs) (hx : a.eval x = .slice A m c) (hr : Rd w A ys)
    (hl : ys.length = m * size) (h1 : ∀ u ∈ ys, u.oneCell' = true) (h63 : n + m ≤ maxLen) (hb : (n + m) * bytes ≤ 140737488355328)
    (h : ∀ A' c' w', w'.ownsRow 0 E size (.slice A' (n + m) c') (n + m) (xs ++ ys) → w.grownBy w' v.ownBlock → ((Value.slice A' (n + m) c').ownBlock = v.ownBlock ∨ (Value.slice A' (n + m) c').ownBlock = some w.heap.size) → wpList Tryd.prog ops Q rest (a.put o.dst (.slice A' (n + m) c')) w') :
    wpList Tryd.prog ops Q (o :: rest) a w :=
  wpList_plain hgd fun _ hK => wp_append_rd w s x S ho E size bytes i0 z hS hi hz0 hz1 hz2 hzs hsz v n xs A m c ys hs hown hx hr hl h1 h63 hb fun A' c' w' h2 h3 h4 => hK _ _ (h A' c' w' h2 h3 h4)


theorem int_info : (Tryd.prog.info? 3).map (fun i => (i.zero, i.size, i.bytes)) = some (some (.int .i64 0), 1, 8) := by kernel_rfl
/-- Block g is just the cells cs of type t, none of them frozen. -/
def Blk (w : World) (g : Nat) (t : TypeId) (cs : Array Value) : Prop := w.heap[g]? = some (.cells cs t (0, 0))
section
variable {w w' : World} {g : Nat} {t : TypeId} {cs : Array Value}
theorem Blk.lt (h : Blk w g t cs) : g < w.heap.size := (Array.getElem?_eq_some_iff.1 h).1
theorem Blk.cell (h : Blk w g t cs) (i : Nat) : w.cell? ⟨g, i, none⟩ = cs[i]? := cell_of_row w g i cs t (0, 0) h
theorem Blk.frozen (h : Blk w g t cs) (i : Nat) : w.frozen? ⟨g, i, none⟩ = false := by unfold Blk at h; simp [World.frozen?, h]
theorem Blk.new (w : World) (t : TypeId) (cs : Array Value) : Blk (w.alloc (.cells cs t)) w.heap.size t cs := heap_alloc_new w _
theorem Blk.alloc (h : Blk w g t cs) (o : Obj) : Blk (w.alloc o) g t cs := (Below.heap_alloc w o g h.lt).trans h
theorem Blk.put (h : Blk w g t cs) (i : Nat) (u : Value) : Blk (w.setCell ⟨g, i, none⟩ u) g t (cs.setIfInBounds i u) := by
  unfold Blk at h ⊢; simp [World.setCell, Array.getElem?_modify, h]
theorem Blk.far (h : Blk w g t cs) {p : Addr} (hp : g ≠ p.block) (u : Value) : Blk (w.setCell p u) g t cs := (Below.heap_setCell w p u g hp).trans h
theorem Blk.grown {row : Option Nat} (h : Blk w g t cs) (hb : w.grownBy w' row) (hg : some g ≠ row) : Blk w' g t cs := (hb.block g h.lt hg).trans h
theorem Blk.ne {g' : Nat} {t' : TypeId} {cs' : Array Value} (h : Blk w g t cs) (h' : Blk w g' t' cs') (hne : t ≠ t') : g ≠ g' := by
  rintro rfl
  have e := (show w.heap[g]? = _ from h).symm.trans h'
  simp at e
  exact hne e.2
theorem Blk.keep {O : Nat → Prop} (h : Blk w g t cs) (hk : Keep O w w') (hg : ¬ O g) : Blk w' g t cs := (hk.block g h.lt hg).trans h
end

end Go.Proofs.YtieejecodfeodaaDoor

namespace Go.Proofs.YtieejecodfeodaaDoor.W
open Go.RowKit

/-- What Check answers. -/
def chk (t n : Int) : Int := if okB t n = true then 0 else 21
theorem chk_ok {t n : Int} (h : okB t n = true) : chk t n = 0 := by unfold chk; rw [if_pos h]
theorem chk_bad {t n : Int} (h : okB t n = false) : chk t n = 21 := by unfold chk; rw [if_neg (by simp [h])]

set_option maxHeartbeats 400000 in
theorem known_any (t : Int) (w : World) :
    Calls Tryd.prog 61 #[.int .i64 t] w fun e w' => e = .returned (.bool (knownB t)) ∧ w = w' := by
  by_cases h1 : 1 ≤ t
  · by_cases h2 : t < 5
    · go_enter Tryd.func61, Tryd.ntmps61
      go_wp2
      go_ret
      exact ⟨ret_bool (by simp [knownB]; omega), rfl⟩
    · go_enter Tryd.func61, Tryd.ntmps61
      go_wp2
      go_ret
      exact ⟨ret_bool (by simp [knownB]; omega), rfl⟩
  · go_enter Tryd.func61, Tryd.ntmps61
    go_wp2
    go_ret
    exact ⟨ret_bool (by simp [knownB]; omega), rfl⟩

/-! ### Zero, Nil -/

end Go.Proofs.YtieejecodfeodaaDoor.W

namespace Go.Proofs.YtieejecodfeodaaDoor.W
open Go.RowKit

/-! ### great -/

end Go.Proofs.YtieejecodfeodaaDoor.W

namespace Go.Proofs.YtieejecodfeodaaDoor.W
open Go.RowKit

set_option maxRecDepth 100000 in
set_option maxHeartbeats 2000000 in
theorem ints_any (A B : Option Addr) (la lb : List Int) (n m c d : Nat) (w : World) (ha : Rd w A (ivs la)) (hb : Rd w B (ivs lb)) (hn : Hid (la.length = n)) (hm : Hid (lb.length = m))
    (h1 : n ≤ 9223372036854775807) (h2 : m ≤ 9223372036854775807) (R : Bool) (hR : Hid (R = decide (la = lb))) :
    Calls Tryd.prog 20 #[.slice A n c, .slice B m d] w fun e w' => e = .returned (.bool R) ∧ Keep NoB w w' := by
  by_cases hnm : n = m
  · subst hnm
    go_enter Tryd.func20, Tryd.ntmps20
    go_wp2
    go_loopw [5] (fun i wr => ∃ k : Nat, k ≤ n ∧ i = .int .i64 k ∧ Hid (la.take k = lb.take k) ∧ Keep NoB w wr) (fun i _ => n - (intOf i).toNat)
    case atStart => exact ⟨0, Nat.zero_le _, rfl, rfl, Keep.refl _ _⟩
    case round =>
      obtain ⟨k, hk, rfl, ht, hK⟩ := hrel
      by_cases hlt : k < n
      · have hka : k < la.length := by rw [hn.out]; exact hlt
        have hkb : k < lb.length := by rw [hm.out]; exact hlt
        obtain ⟨ga, oa, rfl, hca⟩ := rdI_at ha (by omega)
        obtain ⟨gb, ob, rfl, hcb⟩ := rdI_at hb (by omega)
        have ca := hK.cell (hca k hka) id
        have cb := hK.cell (hcb k hkb) id
        have HT := Lib.hid (show la.take (k + 1) = la.take k ++ [la[k]] from List.take_succ_eq_append_getElem hka)
        have HU := Lib.hid (show lb.take (k + 1) = lb.take k ++ [lb[k]] from List.take_succ_eq_append_getElem hkb)
        clear hca hcb
        by_cases he : la[k] = lb[k]
        · have HV : Hid (la.take (k + 1) = lb.take (k + 1)) := by show _ = _; rw [HT.out, HU.out, ht.out, he]
          rw [he] at ca
          clear he HT HU ha hb
          generalize lb[k] = y at ca cb
          go_wp2
          go_quiet (fail)
          go_wp2
          go_roundw
          case rel => exact ⟨k + 1, by omega, by go_num, HV, hK.drewN _⟩
          case measure => simp [intOf]; omega
        · have hf : R = false := by
            rw [hR.out, decide_eq_false_iff_not]
            intro e
            exact he (by simp [e])
          subst hf
          clear HT HU ha hb
          generalize la[k] = x at ca he
          generalize lb[k] = y at cb he
          have hne : (x != y) = true := by rw [bne_iff_ne]; exact he
          clear he
          go_wp2
          go_quiet (fail)
          go_wp2
          go_ret
          exact ⟨rfl, hK.drewN _⟩
      · have hf : R = true := by
          rw [hR.out, decide_eq_true_iff]
          have e1 := ht.out
          rwa [List.take_of_length_le (by rw [hn.out]; omega), List.take_of_length_le (by rw [hm.out]; omega)] at e1
        subst hf
        go_wp2
        go_ret
        exact ⟨rfl, hK⟩
  · have hf : R = false := by
      rw [hR.out, decide_eq_false_iff_not]
      intro e
      exact hnm (by rw [← hn.out, ← hm.out, e])
    subst hf
    have hne : ((n : Int) != (m : Int)) = true := by rw [bne_iff_ne]; omega
    clear hnm
    go_enter Tryd.func20, Tryd.ntmps20
    go_wp2
    go_ret
    exact ⟨rfl, Keep.refl _ _⟩

end Go.Proofs.YtieejecodfeodaaDoor.W

namespace Go.Proofs.YtieejecodfeodaaDoor.W
open Go.RowKit

theorem rd_new (w : World) (E : TypeId) (cs : Array Value) : Rd (w.alloc (.cells cs E)) (some ⟨w.heap.size, 0, none⟩) cs.toList := fun _ =>
  ⟨_, _, rfl, fun j u hu => by rw [Nat.zero_add, (Blk.new w E cs).cell j]; simpa using hu⟩

theorem own_after {w W W' : World} {E size n : Nat} {v v' : Value} {xs : List Value} (ho : ∀ g, v.ownBlock = some g → Fresh w g) (hK : Keep NoB w W) (hg : W.grownBy W' v.ownBlock)
    (hv : v'.ownBlock = v.ownBlock ∨ v'.ownBlock = some W.heap.size) (hrow : W'.ownsRow 0 E size v' n xs) : Own W' E size (Fresh w) v' n xs ∧ Keep NoB w W' := by
  refine ⟨⟨hrow, fun g e => ?_⟩, hK.grown hg (fun g e h => by have := ho g e; unfold Fresh at this; omega)⟩
  rcases hv with h | h
  · exact ho g (h ▸ e)
  · rw [h] at e; cases e; exact hK.size

theorem rd_made {w : World} {E : TypeId} {cs : Array Value} {b : Nat} {xs : List Value} (hb : b = w.heap.size) (hx : xs = cs.toList) : Rd (w.alloc (.cells cs E)) (some ⟨b, 0, none⟩) xs := by
  subst hb hx; exact rd_new w E cs

/-- The zeros of types. -/
def zs (l : List Int) : List (Int × Int) := l.map fun t => (t, 0)

/-- What Zeros answers, in one form. -/
def zN (l : List Int) (n : Nat) : Nat := if l.all knownB = true then n else 0
def zL (l : List Int) : List (Int × Int) := if l.all knownB = true then zs l else []
def zE (l : List Int) : Int := if l.all knownB = true then 0 else 20
theorem zL_length (l : List Int) : (zL l).length = zN l l.length := by unfold zL zN; split <;> simp [zs]
/-- The types of values. -/
def ts (x : List (Int × Int)) : List Int := x.map (·.1)

end Go.Proofs.YtieejecodfeodaaDoor.W

namespace Go.Proofs.YtieejecodfeodaaDoor.W
open Go.RowKit

/-- May all of the values be, and have they just these types? -/
def allOk (x : List (Int × Int)) : Bool := x.all fun v => okB v.1 v.2
def fitsB (l : List Int) (x : List (Int × Int)) : Bool := decide (l = ts x) && allOk x
theorem fits_true (l : List Int) (x : List (Int × Int)) : fitsB l x = true ↔ l = ts x ∧ allOk x = true := by unfold fitsB; simp
theorem fits_false (l : List Int) (x : List (Int × Int)) (h : ¬ (l = ts x ∧ allOk x = true)) : fitsB l x = false := by
  cases hf : fitsB l x
  · rfl
  · exact absurd ((fits_true l x).1 hf) h

end Go.Proofs.YtieejecodfeodaaDoor.W

namespace Go.Proofs.YtieejecodfeodaaDoor.W
open Go.RowKit

theorem gLet : Tryd.prog.globalNamed "backstay/value.letters" = some 0 := by kernel_rfl
theorem var_keep {n : String} {g : Nat} {cs : Array Value} {w w' : World} (hg : Tryd.prog.globalNamed n = some g) (h : w.var? Tryd.prog n = some cs) (hk : Keep NoB w w') : w'.var? Tryd.prog n = some cs :=
  Go.Joins.var_stays hg h hk.toBelow (Nat.le_refl _)

def letV : Array Value := #[.int .i32 0, .int .i32 73, .int .i32 82, .int .i32 70, .int .i32 80]
def sigV : Array Value := #[.string ⟨#[]⟩, .string ⟨#[]⟩, .string ⟨#[35]⟩, .string ⟨#[64]⟩, .string ⟨#[38]⟩]

/-- The letters stand. -/
def LetAt (w : World) : Prop := w.var? Tryd.prog "backstay/value.letters" = some letV
theorem LetAt.keep {w w' : World} (h : LetAt w) (hk : Keep NoB w w') : LetAt w' := var_keep gLet h hk
theorem LetAt.cell {w : World} (h : LetAt w) (i : Nat) : w.cell? ⟨0, i, none⟩ = letV[i]? := World.var?_cell gLet h i

/-- What the texts of values are made with stands. -/
structure Laid (w : World) : Prop where
  pow : Lib.TabIs Tryd.prog w "internal/strconv.uint64pow10" .u64 Lib.pow10Tab
  syn : ∃ tp p, w.var? Tryd.prog "strconv.ErrSyntax" = some #[.iface tp p]
  rng : ∃ tp p, w.var? Tryd.prog "strconv.ErrRange" = some #[.iface tp p]
set_option maxHeartbeats 1000000 in
theorem rletter_any (t : Int) (w : World) :
    Calls Tryd.prog 79 #[.int .i64 t] w fun e w' => e = .returned (.string (str (letC t))) ∧ w = w' := by
  cases hk : knownB t
  · have HL := Lib.hid (letC_none hk)
    have hk' := (known_not t).1 hk
    have e1 : (t == 1) = false := by rw [beq_eq_false_iff_ne]; omega
    have e2 : (t == 2) = false := by rw [beq_eq_false_iff_ne]; omega
    have e3 : (t == 3) = false := by rw [beq_eq_false_iff_ne]; omega
    have e4 : (t == 4) = false := by rw [beq_eq_false_iff_ne]; omega
    clear hk hk'
    go_enter Tryd.func79, Tryd.ntmps79
    go_wp2
    go_ret
    exact ⟨by rw [HL.out]; rfl, rfl⟩
  · rcases known_cases hk with rfl | rfl | rfl | rfl
    all_goals
      go_enter Tryd.func79, Tryd.ntmps79
      go_wp2
      go_ret
      exact ⟨rfl, rfl⟩

end Go.Proofs.YtieejecodfeodaaDoor.W

namespace Go.Proofs.YtieejecodfeodaaDoor.W
open Go.RowKit

theorem rune_let {t : Int} (h : knownB t = true) : ∃ r : Int, letV[t.toNat]? = some (.int .i32 r) ∧ 0 ≤ t ∧ t ≤ 4 ∧ -2147483648 ≤ r ∧ r ≤ 2147483647 ∧ Lib.runeCells r = Lib.byteCells (letC t) := by
  rcases known_cases h with rfl | rfl | rfl | rfl
  · exact ⟨73, rfl, by decide, by decide, by decide, by decide, rfl⟩
  · exact ⟨82, rfl, by decide, by decide, by decide, by decide, rfl⟩
  · exact ⟨70, rfl, by decide, by decide, by decide, by decide, rfl⟩
  · exact ⟨80, rfl, by decide, by decide, by decide, by decide, rfl⟩

theorem bc_append (a b : List UInt8) : Lib.byteCells a ++ Lib.byteCells b = Lib.byteCells (a ++ b) := by simp [Lib.byteCells]

set_option maxRecDepth 100000 in
set_option maxHeartbeats 4000000 in
theorem text_any (A : Option Addr) (l : List Int) (n c : Nat) (w : World) (hL : LetAt w) (ha : Rd w A (ivs l)) (hn : Hid (l.length = n)) (h1 : n ≤ 9223372036854775807) :
    Calls Tryd.prog 54 #[.slice A n c] w fun e w' => e = .returned (.string (str (txt l))) ∧ Keep NoB w w' := by
  by_cases hlong : 1024 < n
  · have HT := Lib.hid (txt_long (l := l) (by rw [hn.out]; exact hlong))
    go_enter Tryd.func54, Tryd.ntmps54
    go_wp2
    go_ret
    exact ⟨by rw [HT.out]; rfl, Keep.refl _ _⟩
  · go_enter Tryd.func54, Tryd.ntmps54
    go_wp2
    have hI0 : Lib.IsBuilderF 104 5 w.heap.size w.heap.size (Lib.byteCells ((l.take 0).flatMap letC)) (w.alloc (.cells #[.pointer none, .slice none 0 0] 104)) := Lib.IsBuilderF.of (Lib.fresh_isBuilder 104 5 w)
    have hb0 : Below w.heap.size w (w.alloc (.cells #[.pointer none, .slice none 0 0] 104)) := (Below.refl _ w).alloc (Nat.le_refl _) _
    go_loopw [11] (fun i wr => ∃ k : Nat, k ≤ n ∧ i = .int .i64 k ∧ Lib.IsBuilderF 104 5 w.heap.size w.heap.size (Lib.byteCells ((l.take k).flatMap letC)) wr ∧ Hid ((l.take k).all knownB = true) ∧ Below w.heap.size w wr) (fun i _ => n - (intOf i).toNat)
    case atStart => exact ⟨0, Nat.zero_le _, rfl, hI0, rfl, hb0⟩
    case round =>
      obtain ⟨k, hk, rfl, hI, hall, hB⟩ := hrel
      clear hI0 hb0
      by_cases hlt : k < n
      · have hka : k < l.length := by rw [hn.out]; exact hlt
        obtain ⟨g, off, rfl, hc⟩ := rdI_at ha (by omega)
        have hKr : Keep NoB w wr := Keep.of_below hB
        have ca := hKr.cell (hc k hka) id
        have hLr := hL.keep hKr
        clear hc
        have HT := Lib.hid (show l.take (k + 1) = l.take k ++ [l[k]] from List.take_succ_eq_append_getElem hka)
        have HM := Lib.hid (List.getElem_mem hka)
        generalize l[k] = t at ca HT HM
        cases hkn : knownB t
        · have HX : Hid (txt l = []) := txt_bad (by rw [List.all_eq_false]; exact ⟨t, HM.out, by simp [hkn]⟩)
          go_wp2_with (go_at_call 61; refine (known_any _ _).mono ?_; rintro e w' ⟨rfl, rfl⟩)
          go_ret
          exact ⟨by rw [HX.out]; rfl, hKr⟩
        · have hall2 : Hid ((l.take (k + 1)).all knownB = true) := by show _ = _; rw [HT.out, List.all_append, hall.out]; simp [hkn]
          obtain ⟨r, hr, ht0, ht4, hr0, hr1, hrc⟩ := rune_let hkn
          have HRC := Lib.hid hrc
          have HFM : Hid (Lib.byteCells ((l.take (k + 1)).flatMap letC) = Lib.byteCells ((l.take k).flatMap letC) ++ Lib.runeCells r) := by show _ = _; rw [HT.out, HRC.out, bc_append]; simp
          have hlen : (Lib.byteCells ((l.take k).flatMap letC)).length + 4 ≤ 140737488355328 := by
            rw [Lib.byteCells_length, flat_let_length _ hall.out, List.length_take]; omega
          obtain ⟨tn, rfl⟩ := Int.eq_ofNat_of_zero_le ht0
          have cl : wr.cell? ⟨0, tn, none⟩ = some (.int .i32 r) := (hLr.cell tn).trans (by simpa using hr)
          clear hrc hr HT HM hall HRC ha
          go_wp2_with (first
            | (go_at_call 61; refine (known_any _ _).mono ?_; rintro e w' ⟨rfl, rfl⟩)
            | (go_at_call 80; refine (Tryd.Builder_WriteRune_k w.heap.size w.heap.size _ r hr0 hr1 wr hI hlen hB.size).mono ?_; rintro e w2 ⟨rfl, hI2, hb2, -⟩))
          go_roundw
          case rel => exact ⟨k + 1, by omega, by go_num, by rw [HFM.out]; exact .inr hI2, hall2, hB.trans hb2⟩
          case measure => simp [intOf]; omega
      · obtain rfl : k = n := by omega
        rw [List.take_of_length_le (by rw [hn.out]; omega)] at hI hall
        have HX : Hid (l.flatMap letC = txt l) := by show _ = _; unfold txt; rw [if_pos ⟨by rw [hn.out]; omega, hall.out⟩]
        have hall' := hall.out
        have H := Lib.hid hall'
        clear hall hall'
        rw [HX.out] at hI
        go_wp2_with (go_at_call 68; refine (Tryd.Builder_String_any_k w.heap.size w.heap.size (txt l) wr hI hB.size).mono ?_; rintro e w2 ⟨rfl, -, hb2, -⟩)
        go_ret
        exact ⟨rfl, Keep.of_below (hB.trans hb2)⟩

theorem str_snoc (s : List UInt8) (c : UInt8) : str s ++ ⟨#[c]⟩ = str (s ++ [c]) := by
  apply ByteArray.ext
  simp [ByteArray.data_append]

theorem rletter_at (t : Int) (L : ByteArray) (w : World) (hL : Hid (str (letC t) = L)) :
    Calls Tryd.prog 79 #[.int .i64 t] w fun e w' => e = .returned (.string L) ∧ w = w' := by
  have := rletter_any t w
  rw [hL.out] at this
  exact this

set_option maxRecDepth 100000 in
set_option maxHeartbeats 4000000 in
theorem rtext_any (A : Option Addr) (l : List Int) (n c : Nat) (w : World) (ha : Rd w A (ivs l)) (hn : Hid (l.length = n)) (h1 : n ≤ 9223372036854775807) :
    Calls Tryd.prog 55 #[.slice A n c] w fun e w' => e = .returned (.string (str (txt l))) ∧ Keep NoB w w' := by
  by_cases hlong : 1024 < n
  · have HT := Lib.hid (txt_long (l := l) (by rw [hn.out]; exact hlong))
    go_enter Tryd.func55, Tryd.ntmps55
    go_wp2
    go_ret
    exact ⟨by rw [HT.out]; rfl, Keep.refl _ _⟩
  · go_enter Tryd.func55, Tryd.ntmps55
    go_wp2
    go_loop [3, 4] (fun v i => ∃ (k : Nat) (s : List UInt8), k ≤ n ∧ i = .int .i64 k ∧ v = .string (str s) ∧ s.length ≤ 1024 ∧ Hid (s = (l.take k).flatMap letC ∧ (l.take k).all knownB = true)) (fun _ i => n - (intOf i).toNat)
    case atStart => exact ⟨0, [], Nat.zero_le _, rfl, rfl, Nat.zero_le _, rfl, rfl⟩
    case round =>
      obtain ⟨k, s, hk, rfl, rfl, hs, hI⟩ := hrel
      by_cases hlt : k < n
      · have hka : k < l.length := by rw [hn.out]; exact hlt
        obtain ⟨g, off, rfl, hc⟩ := rdI_at ha (by omega)
        have ca := hc k hka
        clear hc
        have HT := Lib.hid (show l.take (k + 1) = l.take k ++ [l[k]] from List.take_succ_eq_append_getElem hka)
        have HM := Lib.hid (List.getElem_mem hka)
        generalize l[k] = t at ca HT HM
        cases hkn : knownB t
        · have HX : Hid (txt l = []) := txt_bad (by rw [List.all_eq_false]; exact ⟨t, HM.out, by simp [hkn]⟩)
          go_wp2_with fail
          refine (rletter_at t ⟨#[]⟩ w (by show _ = _; rw [letC_none hkn])).mono ?_
          rintro e w' ⟨rfl, rfl⟩
          go_wp2
          go_ret
          exact ⟨by rw [HX.out]; rfl, Keep.refl _ _⟩
        · obtain ⟨c0, hc0, _⟩ := letC_known hkn
          have hI2 : Hid (s ++ [c0] = (l.take (k + 1)).flatMap letC ∧ (l.take (k + 1)).all knownB = true) := by
            refine ⟨?_, ?_⟩
            · rw [HT.out, hI.out.1]; simp [hc0]
            · rw [HT.out, List.all_append, hI.out.2]; simp [hkn]
          have hs2 : Hid ((s ++ [c0]).length ≤ 1024) := by
            show _ ≤ _
            rw [hI2.out.1, flat_let_length _ hI2.out.2, List.length_take]; omega
          have hL : Hid (str (letC t) = ⟨#[c0]⟩) := by show _ = _; rw [hc0]
          clear HT HM hc0 hI ha hkn
          go_wp2_with fail
          refine (rletter_at t ⟨#[c0]⟩ w hL).mono ?_
          rintro e w' ⟨rfl, rfl⟩
          go_wp2
          go_round
          case rel => exact ⟨k + 1, s ++ [c0], by omega, by go_num, by rw [← str_snoc], hs2.out, hI2⟩
          case measure => simp [intOf]; omega
      · obtain rfl : k = n := by omega
        rw [List.take_of_length_le (by rw [hn.out]; omega)] at hI
        have HX : Hid (s = txt l) := by show _ = _; unfold txt; rw [if_pos ⟨by rw [hn.out]; omega, hI.out.2⟩]; exact hI.out.1
        go_wp2
        go_ret
        exact ⟨by rw [← HX.out]; rfl, Keep.refl _ _⟩

end Go.Proofs.YtieejecodfeodaaDoor.W

namespace Go.Proofs.YtieejecodfeodaaDoor.W
open Go.RowKit

/-- A letter's number. -/
def letZ (k : Nat) : Int := if k = 1 then 73 else if k = 2 then 82 else if k = 3 then 70 else if k = 4 then 80 else 0
/-- The type of a rune; 0: none has it. -/
def unletZ (r : Int) : Int := if r = 73 then 1 else if r = 82 then 2 else if r = 70 then 3 else if r = 80 then 4 else 0
theorem unletZ_byte (c : UInt8) : unletZ (c.toNat : Int) = unlet c := by
  have e : ∀ d : UInt8, ((c.toNat : Int) = (d.toNat : Int)) ↔ c = d := fun d => ⟨fun h => UInt8.toNat_inj.1 (by omega), fun h => by rw [h]⟩
  unfold unletZ unlet
  have h1 := e 73; have h2 := e 82; have h3 := e 70; have h4 := e 80
  simp only [show ((73 : UInt8).toNat : Int) = 73 from rfl, show ((82 : UInt8).toNat : Int) = 82 from rfl, show ((70 : UInt8).toNat : Int) = 70 from rfl, show ((80 : UInt8).toNat : Int) = 80 from rfl] at h1 h2 h3 h4
  simp only [h1, h2, h3, h4]
theorem unletZ_big {r : Int} (h : 128 ≤ r) : unletZ r = 0 := by unfold unletZ; rw [if_neg (by omega), if_neg (by omega), if_neg (by omega), if_neg (by omega)]
theorem unletZ_hit {k : Nat} {r : Int} (h1 : 1 ≤ k) (h2 : k < 5) (h : letZ k = r) : unletZ r = k := by
  subst h
  obtain rfl | rfl | rfl | rfl : k = 1 ∨ k = 2 ∨ k = 3 ∨ k = 4 := by omega
  all_goals rfl
theorem unletZ_miss {r : Int} (h : ∀ j, 1 ≤ j → j < 5 → letZ j ≠ r) : unletZ r = 0 := by
  have h1 := h 1 (by omega) (by omega)
  have h2 := h 2 (by omega) (by omega)
  have h3 := h 3 (by omega) (by omega)
  have h4 := h 4 (by omega) (by omega)
  have e1 : letZ 1 = 73 := rfl
  have e2 : letZ 2 = 82 := rfl
  have e3 : letZ 3 = 70 := rfl
  have e4 : letZ 4 = 80 := rfl
  unfold unletZ
  rw [if_neg (by omega), if_neg (by omega), if_neg (by omega), if_neg (by omega)]
theorem letZ_cell {w : World} (h : LetAt w) {k : Nat} (h1 : 1 ≤ k) (h2 : k < 5) : w.cell? ⟨0, k, none⟩ = some (.int .i32 (letZ k)) := by
  rw [h.cell k]
  obtain rfl | rfl | rfl | rfl : k = 1 ∨ k = 2 ∨ k = 3 ∨ k = 4 := by omega
  all_goals rfl

set_option maxHeartbeats 1000000 in
theorem lettered_any (r : Int) (w : World) (h : LetAt w) :
    Calls Tryd.prog 78 #[.int .i32 r] w fun e w' => e = .returned (.tuple #[.int .i64 (unletZ r), .bool (decide (unletZ r ≠ 0))]) ∧ w = w' := by
  go_enter Tryd.func78, Tryd.ntmps78
  go_wp2
  go_loop [4] (fun i => ∃ k : Nat, 1 ≤ k ∧ k ≤ 5 ∧ i = .int .i64 k ∧ Hid (∀ j, 1 ≤ j → j < k → letZ j ≠ r)) (fun i => 5 - (intOf i).toNat)
  case atStart => exact ⟨1, by omega, by omega, rfl, fun j h1 h2 => by omega⟩
  case round =>
    obtain ⟨k, hk1, hk5, rfl, hm⟩ := hrel
    by_cases hlt : k < 5
    · have c := letZ_cell h hk1 hlt
      by_cases he : letZ k = r
      · have HU := Lib.hid (unletZ_hit hk1 hlt he)
        have he' : (letZ k == r) = true := by rw [beq_iff_eq]; exact he
        clear he
        go_wp2
        go_ret2
        exact ⟨by rw [HU.out]; congr 3; simp; omega, rfl⟩
      · have he' : (letZ k == r) = false := by rw [beq_eq_false_iff_ne]; exact he
        have hm2 : Hid (∀ j, 1 ≤ j → j < k + 1 → letZ j ≠ r) := fun j h1 h2 => by
          rcases Nat.lt_or_ge j k with h3 | h3
          · exact hm.out j h1 h3
          · obtain rfl : j = k := by omega
            exact he
        clear he
        go_wp2
        go_round
        case rel => exact ⟨k + 1, by omega, by omega, by go_num, hm2⟩
        case measure => simp [intOf]; omega
    · obtain rfl : k = 5 := by omega
      have HU := Lib.hid (unletZ_miss hm.out)
      go_wp2
      go_ret2
      exact ⟨by rw [HU.out]; rfl, rfl⟩

/-- What is decoded of a byte that is no ASCII is none either. -/
theorem decode_big (s : ByteArray) (i : Nat) (h : 128 ≤ (s.get! i).toNat) : 128 ≤ (Utf8.decode s i).1 := by
  rw [Lib.decode_at]
  have hb : (s.get! i).toNat < 256 := (s.get! i).toNat_lt
  generalize (s.get! i).toNat = b0 at h hb
  unfold Lib.decodeN
  repeat' split
  all_goals first | omega | (simp only; omega)

theorem own_iter {w : World} {E size n : Nat} {O : Nat → Prop} {v : Value} {xs : List Value} (h : Own w E size O v n xs) {k pos : Nat} {s : ByteArray} (hk : w.heap[k]? = some (.stringIter s pos)) : v.ownBlock ≠ some k := by
  rcases h.1.2 with ⟨rfl, _⟩ | ⟨g, cap, cur, rfl, _, hg, _⟩
  · simp [Value.ownBlock]
  · intro e
    have : g = k := by simpa [Value.ownBlock] using e
    subst this
    rw [hk] at hg; cases hg
theorem _root_.Go.Proofs.YtieejecodfeodaaDoor.Own.iterAt {w : World} {E size n : Nat} {O : Nat → Prop} {v : Value} {xs : List Value} (h : Own w E size O v n xs) {k pos : Nat} {s : ByteArray} (hk : w.heap[k]? = some (.stringIter s pos)) (pos' : Nat) : Own (w.iterAt k s pos') E size O v n xs := by
  have hne := own_iter h hk
  refine ⟨⟨h.1.1, ?_⟩, h.2⟩
  rcases h.1.2 with h2 | ⟨g, cap, cur, rfl, hb, hh, r⟩
  · exact .inl h2
  · exact .inr ⟨g, cap, cur, rfl, hb, (Lib.iterAt_other w k g s pos' (fun e => hne (by rw [e]; rfl))).trans hh, r⟩
theorem _root_.Go.Proofs.YtieejecodfeodaaDoor.Keep.iterAt {w w' : World} (h : Keep NoB w w') {k : Nat} (hk : w.heap.size ≤ k) (s : ByteArray) (pos : Nat) : Keep NoB w (w'.iterAt k s pos) := Keep.of_below (Lib.below_iterAt h.toBelow hk s pos)

/-- What Types answers, in one form. -/
def tN (s : List UInt8) : Nat := if (untxt s).isSome = true then s.length else 0
def tL (s : List UInt8) : List Int := (untxt s).getD []
def tE (s : List UInt8) : Int := if (untxt s).isSome = true then 0 else 20
theorem untxt_none {s : List UInt8} (h : ¬ (s.length ≤ 1024 ∧ (s.all fun c => decide (unlet c ≠ 0)) = true)) : untxt s = none := by unfold untxt; rw [if_neg h]
theorem untxt_some {s : List UInt8} (h1 : s.length ≤ 1024) (h2 : (s.all fun c => decide (unlet c ≠ 0)) = true) : untxt s = some (s.map unlet) := by unfold untxt; rw [if_pos ⟨h1, h2⟩]
theorem tL_length (s : List UInt8) : (tL s).length = tN s := by
  unfold tL tN
  by_cases h : s.length ≤ 1024 ∧ (s.all fun c => decide (unlet c ≠ 0)) = true
  · rw [untxt_some h.1 h.2]; simp
  · rw [untxt_none h]; simp
/-- What it hands back, and that it keeps all. -/
def TypesR (w : World) (s : List UInt8) (e : Ending) (w' : World) : Prop :=
  ∃ B d, e = .returned (.tuple #[.slice B (tN s) d, .int .i64 (tE s)]) ∧ Own w' 3 1 (Fresh w) (.slice B (tN s) d) (tN s) (ivs (tL s)) ∧ Keep NoB w w'
theorem types_none {w w' : World} {s : List UInt8} (h : untxt s = none) (hK : Keep NoB w w') : TypesR w s (.returned (.tuple #[.slice none 0 0, .int .i64 20])) w' := by
  have e1 : tN s = 0 := by unfold tN; rw [h]; rfl
  have e2 : tL s = [] := by unfold tL; rw [h]; rfl
  have e3 : tE s = 20 := by unfold tE; rw [h]; rfl
  unfold TypesR
  rw [e1, e2, e3]
  exact ⟨none, 0, rfl, Own.nil _ _ _ _, hK⟩
theorem types_some {w w' : World} {s : List UInt8} {B : Option Addr} {d : Nat} (h : untxt s = some (s.map unlet)) (hO : Own w' 3 1 (Fresh w) (.slice B s.length d) s.length (ivs (s.map unlet))) (hK : Keep NoB w w') :
    TypesR w s (.returned (.tuple #[.slice B s.length d, .int .i64 0])) w' := by
  have e1 : tN s = s.length := by unfold tN; rw [h]; rfl
  have e2 : tL s = s.map unlet := by unfold tL; rw [h]; rfl
  have e3 : tE s = 0 := by unfold tE; rw [h]; rfl
  unfold TypesR
  rw [e1, e2, e3]
  exact ⟨B, d, rfl, hO, hK⟩

end Go.Proofs.YtieejecodfeodaaDoor.W

namespace Go.Proofs.YtieejecodfeodaaDoor.V
open Go.RowKit

/-- A slice's address, from which the bytes l stand. -/
def Rd (w : World) (A : Option Addr) (l : List UInt8) : Prop :=
  0 < l.length → ∃ ad, A = some ad ∧ ∀ j u, (bvs l)[j]? = some u → w.cell? (ad.add j) = some u
theorem block_add (a : Addr) (n : Nat) : (a.add n).block = a.block := by unfold Addr.add; split <;> rfl
theorem add_add (a : Addr) (i j : Nat) : (a.add i).add j = a.add (i + j) := by
  unfold Addr.add
  by_cases hi : i = 0 <;> by_cases hj : j = 0 <;> simp [hi, hj, Nat.add_assoc]
theorem Rd.none_ (w : World) (A : Option Addr) : Rd w A [] := fun h => by simp at h
theorem Rd.keep {O : Nat → Prop} {w w' : World} {A : Option Addr} {l : List UInt8} (h : Rd w A l) (hk : Keep O w w') (hA : ∀ ad, A = some ad → 0 < l.length → ¬ O ad.block) : Rd w' A l := fun h0 => by
  obtain ⟨ad, e, hc⟩ := h h0
  exact ⟨ad, e, fun j u hu => hk.cell (hc j u hu) (by rw [block_add]; exact hA ad e h0)⟩
theorem Rd.lt {w : World} {A : Option Addr} {l : List UInt8} (h : Rd w A l) {ad : Addr} (e : A = some ad) (h0 : 0 < l.length) : ad.block < w.heap.size := by
  obtain ⟨ad', e', hc⟩ := h h0
  rw [e] at e'; cases e'
  have := World.block_lt_of_cell? w _ (hc 0 (bv l[0]) (by simp [h0]))
  rwa [block_add] at this

/-- The slice v of bytes l is the call's own, in a block of O. -/
def OwnB (w : World) (O : Nat → Prop) (v : Value) (l : List UInt8) : Prop :=
  w.ownsRow 0 5 1 v l.length (bvs l) ∧ ∀ g, v.ownBlock = some g → O g
section
variable {w w' : World} {O O' : Nat → Prop} {v : Value} {l : List UInt8}
theorem OwnB.nil (w : World) (O : Nat → Prop) : OwnB w O (.slice none 0 0) [] := ⟨World.ownsRow_nil _ _ _ _, by simp [Value.ownBlock]⟩
theorem OwnB.mono (h : OwnB w O v l) (hO : ∀ k, O k → k < w.heap.size → O' k) : OwnB w O' v l := ⟨h.1, fun g e => hO g (h.2 g e) (h.1.lt g e).2⟩
theorem ownsRow_keep {base n : Nat} {xs : List Value} (h : w.ownsRow base 5 1 v n xs) (hk : Keep O w w') (hn : ∀ g, v.ownBlock = some g → ¬ O g) : w'.ownsRow base 5 1 v n xs := by
  refine ⟨h.1, ?_⟩
  rcases h.2 with h2 | ⟨g, cap, cur, rfl, hb, hh, r⟩
  · exact .inl h2
  · exact .inr ⟨g, cap, cur, rfl, hb, (hk.block g (Array.getElem?_eq_some_iff.1 hh).1 (hn g rfl)).trans hh, r⟩
theorem OwnB.keep (h : OwnB w O v l) (hk : Keep O' w w') (hn : ∀ k, O k → ¬ O' k) : OwnB w' O v l := ⟨ownsRow_keep h.1 hk (fun g e => hn g (h.2 g e)), h.2⟩
theorem OwnB.form (h : OwnB w O v l) : ∃ A c, v = .slice A l.length c ∧ l.length ≤ c ∧ Rd w A l ∧ (∀ ad, A = some ad → O ad.block ∧ ad = ⟨ad.block, 0, none⟩) ∧ c ≤ maxLen := by
  rcases h.1.2 with ⟨rfl, hn⟩ | ⟨g, cap, cur, rfl, _, hh, hc, hm, _⟩
  · have : l = [] := List.length_eq_zero_iff.1 hn
    subst this
    exact ⟨none, 0, rfl, Nat.le_refl _, Rd.none_ _ _, by simp, by simp⟩
  · refine ⟨_, cap, rfl, hc, fun _ => ⟨_, rfl, h.1.cells (g := g) rfl⟩, ?_, hm⟩
    intro ad e
    cases e
    exact ⟨h.2 g rfl, rfl⟩
theorem OwnB.not_blk {g : Nat} {t : TypeId} {cs : Array Value} (h : OwnB w O v l) (hb : Blk w g t cs) (ht : t ≠ 5) : v.ownBlock ≠ some g := by
  rcases h.1.2 with ⟨rfl, _⟩ | ⟨g', cap, cur, rfl, _, hh, _⟩
  · simp [Value.ownBlock]
  · intro e
    obtain rfl : g' = g := by simpa [Value.ownBlock] using e
    exact Blk.ne hb (t' := 5) hh ht rfl
end

theorem bvs_one (l : List UInt8) : ∀ u ∈ bvs l, u.oneCell' = true := by
  intro u hu
  obtain ⟨b, _, rfl⟩ := List.mem_map.1 hu
  rfl

/-- append of bytes that are read onto bytes that are owned. -/
theorem run_append_rd (w : World) (v : Value) (xs l : List UInt8) (A : Option Addr) (c : Nat) (ty : TypeId)
    (hown : w.ownsRow 0 5 1 v xs.length (bvs xs)) (hr : Rd w A l) (hb : xs.length + l.length ≤ 140737488355328) :
    ∃ v' w', (Builtin.append_ #[23, 23] ty #[v, .slice A l.length c]).run Tryd.prog w = .ok v' w' ∧ w'.ownsRow 0 5 1 v' (xs ++ l).length (bvs (xs ++ l)) ∧ w.grownBy w' v.ownBlock ∧
      (v'.ownBlock = v.ownBlock ∨ v'.ownBlock = some w.heap.size) ∧ (v = .slice none 0 0 → 0 < l.length → v'.ownBlock = some w.heap.size) := by
  obtain ⟨i0, hi, hz0, hz1, hz2⟩ := info_parts u8_info
  rcases A with _ | ad
  · have hl : l = [] := by
      rcases Nat.eq_zero_or_pos l.length with h0 | h0
      · exact List.length_eq_zero_iff.1 h0
      · obtain ⟨ad, e, _⟩ := hr h0; cases e
    subst hl
    refine ⟨v, w, ?_, by simpa using hown, World.grownBy.refl w _, .inl rfl, fun _ h => by simp at h⟩
    rcases hown.2 with ⟨rfl, h0⟩ | ⟨g, cap, cur, rfl, _, _, hnc, _⟩
    · simp [Builtin.append_, run_underlying Tryd.underlying23, sizeOf, typeInfo, hi, Builtin.lenOf, Builtin.firstCells]
    · simp [Builtin.append_, run_underlying Tryd.underlying23, sizeOf, typeInfo, hi, Builtin.lenOf, Builtin.firstCells, hnc, storeCells]
  · have hcells : ∀ j u, (bvs l)[j]? = some u → w.cell? (ad.add j) = some u := by
      intro j u hu
      rcases Nat.eq_zero_or_pos l.length with h0 | h0
      · have : l = [] := List.length_eq_zero_iff.1 h0
        subst this; simp at hu
      · obtain ⟨ad', e, hc⟩ := hr h0
        cases e; exact hc j u hu
    obtain ⟨v', w', hrun, h2, h3, h4, h5⟩ := run_append_own_at (P := Tryd.prog) w 0 23 ty 5 i0 (.int .u8 0) 1 1 Tryd.underlying23 hi hz0 hz1 hz2 rfl (by decide) v xs.length (bvs xs) hown ad l.length c (bvs l) (by simp) hcells (bvs_one l) (by unfold maxLen; omega) (by omega) (Nat.zero_le _)
    refine ⟨v', w', hrun, by simpa using h2, h3, h5, fun e h0 => ?_⟩
    subst e
    rcases h5 with h5 | h5
    · exfalso
      have : v' ≠ .slice none 0 0 := fun e => by have := (h4.1 e).2; omega
      rcases h2.2 with ⟨e, _⟩ | ⟨g, cap, cur, e, _⟩
      · exact this e
      · rw [e] at h5; simp [Value.ownBlock] at h5
    · exact h5

theorem wp_append_rd {o : Oper} {a : Act} {K : Act → World → Prop} {Q : Exit → Act → World → Prop} (w : World) (s x : Operand)
    (ho : o.op = .call { callee := .builtin .append, args := #[s, x], argTypes := #[23, 23] })
    (v : Value) (xs l : List UInt8) (A : Option Addr) (c : Nat) (hs : a.eval s = v) (hown : w.ownsRow 0 5 1 v xs.length (bvs xs)) (hx : a.eval x = .slice A l.length c) (hr : Rd w A l)
    (hb : xs.length + l.length ≤ 140737488355328)
    (h : ∀ v' w', w'.ownsRow 0 5 1 v' (xs ++ l).length (bvs (xs ++ l)) → w.grownBy w' v.ownBlock → (v'.ownBlock = v.ownBlock ∨ v'.ownBlock = some w.heap.size) → K (a.put o.dst v') w') : o.wp Tryd.prog a w K Q := by
  obtain ⟨v', w', hrun, h2, h3, h4, _⟩ := run_append_rd w v xs l A c o.type hown hr hb
  unfold Oper.wp execOp
  simp only [ho, resolve, invoke, builtin, Sem.run_bind, Sem.run_pure, Result.andThen_ok, List.map_toArray, List.map_cons, List.map_nil, hs, hx, hrun]
  exact h v' w' h2 h3 h4

theorem wpList_append_rd {ops : Array Oper} {rest : List Oper} {o : Oper} {a : Act} {Q : Exit → Act → World → Prop} (w : World) (hgd : o.guard = none) (s x : Operand)
    (ho : o.op = .call { callee := .builtin .append, args := #[s, x], argTypes := #[23, 23] })
    (v : Value) (xs l : List UInt8) (A : Option Addr) (c : Nat) (hs : a.eval s = v) (hown : w.ownsRow 0 5 1 v xs.length (bvs xs)) (hx : a.eval x = .slice A l.length c) (hr : Rd w A l)
    (hb : xs.length + l.length ≤ 140737488355328)
    (h : ∀ v' w', w'.ownsRow 0 5 1 v' (xs ++ l).length (bvs (xs ++ l)) → w.grownBy w' v.ownBlock → (v'.ownBlock = v.ownBlock ∨ v'.ownBlock = some w.heap.size) → wpList Tryd.prog ops Q rest (a.put o.dst v') w') :
    wpList Tryd.prog ops Q (o :: rest) a w :=
  wpList_plain hgd fun _ hK => wp_append_rd w s x ho v xs l A c hs hown hx hr hb fun v' w' h2 h3 h4 => hK _ _ (h v' w' h2 h3 h4)

theorem own_form {w : World} {base n : Nat} {v : Value} {xs : List Value} (h : w.ownsRow base 5 1 v n xs) : ∃ A c, v = .slice A n c := by
  rcases h.2 with ⟨rfl, rfl⟩ | ⟨g, cap, cur, rfl, _⟩
  · exact ⟨_, _, rfl⟩
  · exact ⟨_, _, rfl⟩

/-- The same as one step of a region that draws its order; the new slice is written out. -/
theorem step_append_rd {ops : Array Oper} {o : Oper} {a : Act} {K : Act → World → Prop} {Q : Exit → Act → World → Prop} {E : Prop} (w : World) (hgd : o.guard = none) (s x : Operand)
    (ho : o.op = .call { callee := .builtin .append, args := #[s, x], argTypes := #[23, 23] })
    (v : Value) (xs l : List UInt8) (A : Option Addr) (c : Nat) (hs : a.eval s = v) (hown : w.ownsRow 0 5 1 v xs.length (bvs xs)) (hx : a.eval x = .slice A l.length c) (hr : Rd w A l)
    (hb : xs.length + l.length ≤ 140737488355328)
    (h : ∀ A' c' w', w'.ownsRow 0 5 1 (.slice A' (xs ++ l).length c') (xs ++ l).length (bvs (xs ++ l)) → w.grownBy w' v.ownBlock → ((Value.slice A' (xs ++ l).length c').ownBlock = v.ownBlock ∨ (Value.slice A' (xs ++ l).length c').ownBlock = some w.heap.size) → K (a.put o.dst (.slice A' (xs ++ l).length c')) w') :
    if Region.wanted o (yielded ops a.tmps) = true then Oper.wp Tryd.prog o a w K Q else E := by
  have hw : Region.wanted o (yielded ops a.tmps) = true := by simp [Region.wanted, hgd]
  rw [if_pos hw]
  refine wp_append_rd w s x ho v xs l A c hs hown hx hr hb fun v' w' h2 h3 h4 => ?_
  obtain ⟨A', c', rfl⟩ := own_form h2
  exact h A' c' w' h2 h3 h4

end Go.Proofs.YtieejecodfeodaaDoor.V

namespace Go.Proofs.YtieejecodfeodaaDoor.V
open Go.RowKit


set_option maxHeartbeats 400000 in
theorem clone_any (w : World) (A : Option Addr) (l : List UInt8) (c : Nat) (hr : Rd w A l) (hb : l.length ≤ 140737488355328) :
    Calls Tryd.prog 45 #[.slice A l.length c] w fun e w' => ∃ v, e = .returned v ∧ OwnB w' (Fresh w) v l ∧ Keep NoB w w' := by
  have qT : ∀ (w : World) (a : Option Addr) (n c n' c' : Nat), (binOp .eql 23 (.slice a n c) (.slice none n' c')).run Tryd.prog w = .ok (.bool a.isNone) w := fun w a n c n' c' => Lib.run_eql_slice_nil w _ _ a n c n' c' Tryd.underlying23
  rcases A with _ | ad
  · have hl : l = [] := by
      rcases Nat.eq_zero_or_pos l.length with h0 | h0
      · exact List.length_eq_zero_iff.1 h0
      · obtain ⟨ad, e, _⟩ := hr h0; cases e
    subst hl
    go_enter Tryd.func45, Tryd.ntmps45
    go_wp2
    go_ret
    exact ⟨_, rfl, OwnB.nil _ _, Keep.refl _ _⟩
  · have hm := World.ownsRow_made (e := 5) (size := 1) (base := 0) w #[] 0 (Nat.zero_le _) (Nat.zero_le _) rfl
    have hr' : Rd (w.alloc (.cells #[] 5)) (some ad) l := hr.keep ((Keep.refl NoB w).alloc _) (fun _ _ _ => id)
    go_enter Tryd.func45, Tryd.ntmps45
    go_wp2_with (at_builtin; refine wpList_append_rd _ rfl _ _ rfl (.slice (some ⟨w.heap.size, 0, none⟩) 0 0) [] l (some ad) c rfl hm rfl hr' (by simpa using hb) ?_; intro v' w1 hown' hg hat)
    go_ret
    refine ⟨v', rfl, ⟨by simpa using hown', fun g e => ?_⟩, ?_⟩
    · rcases hat with h | h <;> rw [h] at e <;> simp [Value.ownBlock] at e <;> subst e <;> simp [Fresh]
    · exact ((Keep.refl NoB w).alloc _).grown hg (fun g e hlt => by simp [Value.ownBlock] at e; omega)

set_option maxHeartbeats 400000 in
theorem twin_any (w : World) (A : Option Addr) (l : List UInt8) (c : Nat) (hr : Rd w A l) (hb : l.length ≤ 140737488355328) :
    Calls Tryd.prog 10 #[.slice A l.length c] w fun e w' => ∃ v, e = .returned v ∧ OwnB w' (Fresh w) v l ∧ Keep NoB w w' := by
  go_enter Tryd.func10, Tryd.ntmps10
  go_wp2_with (at_builtin; refine wpList_append_rd _ rfl _ _ rfl (.slice none 0 0) [] l A c rfl (World.ownsRow_nil _ _ _ _) rfl hr (by simpa using hb) ?_; intro v' w1 hown' hg hat)
  go_ret
  refine ⟨v', rfl, ⟨by simpa using hown', fun g e => ?_⟩, ?_⟩
  · rcases hat with h | h <;> rw [h] at e <;> simp [Value.ownBlock] at e
    subst e; simp [Fresh]
  · exact (Keep.refl NoB w).grown hg (fun g e hlt => by simp [Value.ownBlock] at e)

/-- A Tape at block bt that holds l; all its blocks are of O. -/
def TapeAt (w : World) (bt : Nat) (O : Nat → Prop) (l : List UInt8) : Prop :=
  O bt ∧ ((Blk w bt 114 #[.pointer none, .int .i64 0] ∧ l = []) ∨
    ∃ bs v, O bs ∧ Blk w bt 114 #[.pointer (some ⟨bs, 0, none⟩), .int .i64 l.length] ∧ Blk w bs 141 #[v] ∧ OwnB w O v l)

theorem TapeAt.keep {w w' : World} {bt : Nat} {O O' : Nat → Prop} {l : List UInt8} (h : TapeAt w bt O l) (hk : Keep O' w w') (hn : ∀ k, O k → ¬ O' k) : TapeAt w' bt O l := by
  refine ⟨h.1, ?_⟩
  rcases h.2 with ⟨hb, rfl⟩ | ⟨bs, v, ho, hb, hs, hv⟩
  · exact .inl ⟨hb.keep hk (hn _ h.1), rfl⟩
  · exact .inr ⟨bs, v, ho, hb.keep hk (hn _ h.1), hs.keep hk (hn _ ho), hv.keep hk hn⟩
theorem TapeAt.mono {w : World} {bt : Nat} {O O' : Nat → Prop} {l : List UInt8} (h : TapeAt w bt O l) (hO : ∀ k, O k → k < w.heap.size → O' k) : TapeAt w bt O' l := by
  rcases h.2 with ⟨hb, rfl⟩ | ⟨bs, v, ho, hb, hs, hv⟩
  · exact ⟨hO _ h.1 hb.lt, .inl ⟨hb, rfl⟩⟩
  · exact ⟨hO _ h.1 hb.lt, .inr ⟨bs, v, hO _ ho hs.lt, hb, hs, hv.mono hO⟩⟩

theorem OwnB.le {w : World} {O : Nat → Prop} {v : Value} {l : List UInt8} (h : OwnB w O v l) : l.length ≤ maxLen := by
  obtain ⟨A, c, _, h1, _, _, h2⟩ := h.form
  omega

set_option maxRecDepth 100000 in
set_option maxHeartbeats 1000000 in
theorem all_any (w : World) (bt : Nat) (O : Nat → Prop) (l : List UInt8) (h : TapeAt w bt O l) (hb : l.length ≤ 140737488355328) :
    Calls Tryd.prog 70 #[.pointer (some ⟨bt, 0, none⟩)] w fun e w' => ∃ v, e = .returned v ∧ OwnB w' (Fresh w) v l ∧ Keep NoB w w' := by
  rcases h.2 with ⟨hbt, rfl⟩ | ⟨bs, v, _, hbt, hbs, hv⟩
  · have c0 := hbt.cell 0
    have c1 := hbt.cell 1
    simp at c0 c1
    go_enter Tryd.func70, Tryd.ntmps70
    go_wp2
    go_ret
    exact ⟨_, rfl, OwnB.nil _ _, Keep.refl _ _⟩
  · obtain ⟨A, c, rfl, hc, hr, hA, hm⟩ := hv.form
    have c0 := hbt.cell 0
    have c1 := hbt.cell 1
    have c2 := hbs.cell 0
    simp at c0 c1 c2
    unfold maxLen at hm
    go_enter Tryd.func70, Tryd.ntmps70
    go_wp2
    go_still_tail 12, (by kernel_rfl)
    change wpList _ _ _ _ _ w.drew
    go_wp2_with (go_at_call 45; refine (clone_any w.drew A l c hr hb).mono ?_; rintro e w' ⟨v', rfl, hown', hk'⟩)
    go_ret
    exact ⟨v', rfl, hown', ⟨hk'.os, hk'.tape, hk'.output, hk'.size, hk'.block⟩⟩

/-- The blocks that a Tape has when it has been written on: its own, and new ones. -/
def More (O : Nat → Prop) (w w' : World) : Nat → Prop := fun k => O k ∨ (w.heap.size ≤ k ∧ k < w'.heap.size)

/-- What write leaves: the longer row in the strip, its length in the Tape. -/
theorem write_done {w wq w1 : World} {bt bs m c1 : Nat} {O : Nat → Prop} {v : Value} {A1 : Option Addr} {xs : List UInt8}
    (hk : Keep O w wq) (hbs : Blk wq bs 141 #[v]) (hbt : Blk wq bt 114 #[.pointer (some ⟨bs, 0, none⟩), .int .i64 m])
    (nb1 : v.ownBlock ≠ some bs) (nb2 : v.ownBlock ≠ some bt) (hO1 : O bs ∨ w.heap.size ≤ bs) (hO2 : O bt) (hO3 : ∀ g, v.ownBlock = some g → O g ∨ w.heap.size ≤ g)
    (hown : w1.ownsRow 0 5 1 (.slice A1 xs.length c1) xs.length (bvs xs)) (hgrow : wq.grownBy w1 v.ownBlock)
    (hat : (Value.slice A1 xs.length c1).ownBlock = v.ownBlock ∨ (Value.slice A1 xs.length c1).ownBlock = some wq.heap.size) :
    TapeAt ((w1.setCell ⟨bs, 0, none⟩ (.slice A1 xs.length c1)).setCell ⟨bt, 1, none⟩ (.int .i64 xs.length)) bt
      (More O w ((w1.setCell ⟨bs, 0, none⟩ (.slice A1 xs.length c1)).setCell ⟨bt, 1, none⟩ (.int .i64 xs.length))) xs ∧
    Keep O w ((w1.setCell ⟨bs, 0, none⟩ (.slice A1 xs.length c1)).setCell ⟨bt, 1, none⟩ (.int .i64 xs.length)) := by
  have hs1 := hbs.grown hgrow (Ne.symm nb1)
  have ht1 := hbt.grown hgrow (Ne.symm nb2)
  have hne : bs ≠ bt := Blk.ne hbs hbt (by decide)
  have hs2 := (hs1.put 0 (.slice A1 xs.length c1)).far (p := ⟨bt, 1, none⟩) hne (.int .i64 xs.length)
  have ht2 := (ht1.far (p := ⟨bs, 0, none⟩) (Ne.symm hne) (.slice A1 xs.length c1)).put 1 (.int .i64 xs.length)
  have hk1 : Keep O w w1 := hk.grown hgrow (fun g e hlt => (hO3 g e).resolve_right (by omega))
  have hk2 := (hk1.setCell (p := ⟨bs, 0, none⟩) (fun hlt => hO1.resolve_right (by simp at hlt ⊢; omega)) (.slice A1 xs.length c1)).setCell (p := ⟨bt, 1, none⟩) (fun _ => hO2) (.int .i64 xs.length)
  have hsz : ((w1.setCell ⟨bs, 0, none⟩ (.slice A1 xs.length c1)).setCell ⟨bt, 1, none⟩ (.int .i64 xs.length)).heap.size = w1.heap.size := by simp [World.setCell]
  have hrow : (Value.slice A1 xs.length c1).ownBlock ≠ some bs ∧ (Value.slice A1 xs.length c1).ownBlock ≠ some bt := by
    rcases hat with e | e
    · rw [e]; exact ⟨nb1, nb2⟩
    · rw [e]
      have h1 := hbs.lt
      have h2 := hbt.lt
      exact ⟨fun e => by injection e; omega, fun e => by injection e; omega⟩
  refine ⟨⟨.inl hO2, .inr ⟨bs, _, ?_, ht2, hs2, ?_, ?_⟩⟩, hk2⟩
  · rcases hO1 with h | h
    · exact .inl h
    · refine .inr ⟨h, ?_⟩
      rw [hsz]; exact hs1.lt
  · refine hown.kept (w' := w1.setCell ⟨bs, 0, none⟩ (.slice A1 xs.length c1)) (row := some bs) ⟨rfl, rfl, rfl, by simp [World.setCell], fun k _ hn => Below.heap_setCell _ _ _ _ (fun e => hn (by rw [e]))⟩ (.inr hrow.1) |>.kept (row := some bt) ⟨rfl, rfl, rfl, by simp [World.setCell], fun k _ hn => Below.heap_setCell _ _ _ _ (fun e => hn (by rw [e]))⟩ (.inr hrow.2)
  · intro g e
    have hlt := (hown.lt g e).2
    rcases hat with e' | e'
    · rw [e'] at e
      rcases hO3 g e with h | h
      · exact .inl h
      · exact .inr ⟨h, by rw [hsz]; exact hlt⟩
    · rw [e'] at e
      injection e with e
      refine .inr ⟨?_, by rw [hsz]; exact hlt⟩
      rw [← e]; exact hk.size

theorem write_end {w wq w1 : World} {bt bs m c1 n : Nat} {N : Int} {O : Nat → Prop} {v : Value} {A1 : Option Addr} {xs : List UInt8}
    (hk : Keep O w wq) (hbs : Blk wq bs 141 #[v]) (hbt : Blk wq bt 114 #[.pointer (some ⟨bs, 0, none⟩), .int .i64 m])
    (nb1 : v.ownBlock ≠ some bs) (nb2 : v.ownBlock ≠ some bt) (hO1 : O bs ∨ w.heap.size ≤ bs) (hO2 : O bt) (hO3 : ∀ g, v.ownBlock = some g → O g ∨ w.heap.size ≤ g)
    (hown : w1.ownsRow 0 5 1 (.slice A1 xs.length c1) xs.length (bvs xs)) (hgrow : wq.grownBy w1 v.ownBlock)
    (hat : (Value.slice A1 xs.length c1).ownBlock = v.ownBlock ∨ (Value.slice A1 xs.length c1).ownBlock = some wq.heap.size) (hn : n = xs.length) (hN : N = xs.length) :
    TapeAt ((w1.setCell ⟨bs, 0, none⟩ (.slice A1 n c1)).setCell ⟨bt, 1, none⟩ (.int .i64 N)) bt
      (More O w ((w1.setCell ⟨bs, 0, none⟩ (.slice A1 n c1)).setCell ⟨bt, 1, none⟩ (.int .i64 N))) xs ∧
    Keep O w ((w1.setCell ⟨bs, 0, none⟩ (.slice A1 n c1)).setCell ⟨bt, 1, none⟩ (.int .i64 N)) := by
  subst hn hN
  exact write_done hk hbs hbt nb1 nb2 hO1 hO2 hO3 hown hgrow hat

set_option maxRecDepth 100000 in
set_option maxHeartbeats 2000000 in
theorem write_any (w : World) (bt : Nat) (O : Nat → Prop) (l b : List UInt8) (A : Option Addr) (c : Nat) (h : TapeAt w bt O l) (hr : Rd w A b) (hA : ∀ ad, A = some ad → ¬ O ad.block)
    (hb : l.length + b.length ≤ 140737488355328) :
    Calls Tryd.prog 87 #[.pointer (some ⟨bt, 0, none⟩), .slice A b.length c] w fun e w' => e = .returned (.pointer (some ⟨bt, 0, none⟩)) ∧ TapeAt w' bt (More O w w') (l ++ b) ∧ Keep O w w' := by
  rcases h.2 with ⟨hbt, rfl⟩ | ⟨bs, v, hO, hbt, hbs, hv⟩
  · have c0' := hbt.cell 0
    have c1' := hbt.cell 1
    have f0' := hbt.frozen 0
    simp at c0' c1'
    go_enter Tryd.func87, Tryd.ntmps87
    go_wp2
    go_quiet (fail)
    obtain ⟨wq, hwq⟩ : ∃ wq, w.drewN nq = wq := ⟨_, rfl⟩
    rw [hwq]
    have hkq : Keep NoB w wq := hwq ▸ (Keep.refl NoB w).drewN nq
    have htq : TapeAt wq bt O [] := h.keep hkq (fun _ _ => id)
    clear hwq
    have hbq : Blk wq bt 114 #[.pointer none, .int .i64 0] := hbt.keep hkq id
    have hrq : Rd wq A b := hr.keep hkq (fun _ _ _ => id)
    have hkq' : Keep O w wq := hkq.mono (fun _ hf _ => hf.elim)
    clear hkq
    go_wp2_with (go_at_call 70; refine (all_any wq bt O [] htq (by simp)).mono ?_; rintro e w1 ⟨v, rfl, hv1, hk1⟩; obtain ⟨A0, c0, rfl, hA0⟩ := hv1.form; have hb1 : Blk w1 bt 114 #[.pointer none, .int .i64 0] := hbq.keep hk1 id; have ht1 := hb1.cell 0; have ht2 := hb1.frozen 0; have hlt := hb1.lt; simp at ht1)
    have e3 : (w1.setCell ⟨bt, 0, none⟩ (.pointer (some ⟨w1.heap.size, 0, none⟩))).heap.size = w1.heap.size := by simp [World.setCell]
    have hs3 := Blk.new (w1.setCell ⟨bt, 0, none⟩ (.pointer (some ⟨w1.heap.size, 0, none⟩))) 141 #[.slice A0 0 c0]
    rw [e3] at hs3
    have hb3 := (hb1.put 0 (.pointer (some ⟨w1.heap.size, 0, none⟩))).alloc (.cells #[.slice A0 0 c0] 141)
    have hrow3 := World.ownsRow.alloc (ownsRow_keep (O := fun k => k = bt) hv1.1 ((Keep.refl (fun k => k = bt) _).setCell (p := ⟨bt, 0, none⟩) (fun _ => rfl) (.pointer (some ⟨w1.heap.size, 0, none⟩))) (fun g e hg => hv1.not_blk hb1 (by decide) (hg ▸ e))) (.cells #[.slice A0 0 c0] 141)
    have hk3 : Keep O w ((w1.setCell ⟨bt, 0, none⟩ (.pointer (some ⟨w1.heap.size, 0, none⟩))).alloc (.cells #[.slice A0 0 c0] 141)) :=
      ((hkq'.trans hk1 (fun _ hf _ => hf.elim)).setCell (p := ⟨bt, 0, none⟩) (fun _ => h.1) _).alloc _
    have hr3 : Rd ((w1.setCell ⟨bt, 0, none⟩ (.pointer (some ⟨w1.heap.size, 0, none⟩))).alloc (.cells #[.slice A0 0 c0] 141)) A b := hr.keep hk3 (fun ad e _ => hA ad e)
    have hsz : w.heap.size ≤ w1.heap.size := Nat.le_trans hkq'.size hk1.size
    have hO3 : ∀ g, (Value.slice A0 0 c0).ownBlock = some g → O g ∨ w.heap.size ≤ g := fun g e => .inr (Nat.le_trans hkq'.size (hv1.2 g e))
    have nb2 := hv1.not_blk hb1 (by decide)
    have nb1 : (Value.slice A0 0 c0).ownBlock ≠ some w1.heap.size := fun e => by have := (hv1.1.lt _ e).2; omega
    obtain ⟨bs, hbs⟩ : ∃ bs, w1.heap.size = bs := ⟨_, rfl⟩
    obtain ⟨W, hW⟩ : ∃ W, ((w1.setCell ⟨bt, 0, none⟩ (.pointer (some ⟨w1.heap.size, 0, none⟩))).alloc (.cells #[.slice A0 0 c0] 141)) = W := ⟨_, rfl⟩
    rw [hbs] at hW hs3 hb3 hrow3 hk3 hr3 hsz nb1 ⊢
    rw [hW] at hs3 hb3 hrow3 hk3 hr3 ⊢
    clear hW hbs e3 ht1 ht2 hlt hb1 hk1 hv1 hA0 hkq' hbq hrq htq
    have cs3 := hs3.cell 0
    have fs3 := hs3.frozen 0
    have ct3 := hb3.cell 0
    simp at cs3 ct3
    have hbb : (⟨bs, 0, none⟩ : Addr) ≠ ⟨bt, 0, none⟩ := fun e => by
      have : bs = bt := by injection e
      exact Blk.ne hs3 hb3 (by decide) this
    go_region_law ((refine step_append_rd _ (by rfl) _ _ (by rfl) (.slice A0 0 c0) [] b A c (by rfl) (by exact hrow3) (by rfl) (by exact hr3) hb ?_; intro A1 c1 w1 hown1 hgrow hat; have hs1 := Blk.grown (w' := w1) (by exact hs3) hgrow (Ne.symm nb1); have ht1 := Blk.grown (w' := w1) (by exact hb3) hgrow (Ne.symm nb2); have cs1 := hs1.cell 0; have fs1 := hs1.frozen 0; have ct1 := ht1.cell 0; have ct2 := ht1.cell 1; have ft1 := ht1.frozen 1; simp at cs1 ct1 ct2))
    all_goals go_wp2
    all_goals go_ret
    all_goals exact ⟨rfl, write_end (m := 0) (v := .slice A0 0 c0) (xs := [] ++ b) hk3.drew (by exact hs3) (by exact hb3) nb1 nb2 (.inr hsz) h.1 hO3 hown1 hgrow hat (by simp) (by simp)⟩
  · obtain ⟨A0, c0, rfl, hc, hr0, hA0, hm⟩ := hv.form
    have c0' := hbt.cell 0
    have c1' := hbt.cell 1
    have c2' := hbs.cell 0
    simp at c0' c1' c2'
    unfold maxLen at hm
    have hne : ((l.length : Int) != (l.length : Int)) = false := by simp
    go_enter Tryd.func87, Tryd.ntmps87
    go_wp2
    go_quiet (fail)
    go_wp2
    have hrow := hv.1
    have nb1 := hv.not_blk hbs (by decide)
    have nb2 := hv.not_blk hbt (by decide)
    have hbb : (⟨bs, 0, none⟩ : Addr) ≠ ⟨bt, 0, none⟩ := fun e => by
      have : bs = bt := by injection e
      exact Blk.ne hbs hbt (by decide) this
    go_region_law ((refine step_append_rd _ (by rfl) _ _ (by rfl) (.slice A0 l.length c0) l b A c (by rfl) (by exact hrow) (by rfl) (by exact hr) hb ?_; intro A1 c1 w1 hown1 hgrow hat; have hs1 := Blk.grown (w' := w1) (by exact hbs) hgrow (Ne.symm nb1); have ht1 := Blk.grown (w' := w1) (by exact hbt) hgrow (Ne.symm nb2); have cs1 := hs1.cell 0; have fs1 := hs1.frozen 0; have ct1 := ht1.cell 0; have ct2 := ht1.cell 1; have ft1 := ht1.frozen 1; simp at cs1 ct1 ct2))
    all_goals go_wp2
    all_goals go_ret
    all_goals exact ⟨rfl, write_end (m := l.length) (v := .slice A0 l.length c0) (xs := l ++ b) ((Keep.refl O w).drewN _) (by exact hbs) (by exact hbt) nb1 nb2 (.inl hO) h.1 (fun g e => .inl (hv.2 g e)) hown1 hgrow hat (by simp) (by simp)⟩

end Go.Proofs.YtieejecodfeodaaDoor.V

namespace Go.Proofs.YtieejecodfeodaaDoor.V
open Go.RowKit

theorem encL_len (n : Nat) : (encL n).length ≤ 9 := by
  unfold encL; have := encF_len n (down 9); simpa [down] using this

theorem More.trans {O : Nat → Prop} {w w1 w2 : World} (h : w.heap.size ≤ w1.heap.size) : ∀ k, More O w1 w2 k → k < w2.heap.size → More O w w2 k := by
  rintro k (h1 | ⟨h1, h2⟩) _
  · exact .inl h1
  · exact .inr ⟨by omega, h2⟩

theorem encode_own (n : Nat) (w : World) :
    Calls Tryd.prog 88 #[.int .u64 n] w fun e w' => ∃ v, e = .returned v ∧ OwnB w' (Fresh w) v (encL n) ∧ Keep NoB w w' := by
  refine (encode_any n w).mono ?_
  rintro e w' ⟨v, he, hrow, hb⟩
  refine ⟨v, he, ⟨⟨hrow.1, ?_⟩, fun g hg => (hrow.lt g hg).1⟩, Keep.of_below hb⟩
  rcases hrow.2 with h | ⟨g, cap, cur, h1, _, h2⟩
  · exact .inl h
  · exact .inr ⟨g, cap, cur, h1, Nat.zero_le _, h2⟩

/-- What a Tape's writing method leaves: the Tape itself, with so much more; nothing else has turned. -/
def Wrote (w : World) (bt : Nat) (O : Nat → Prop) (xs : List UInt8) (e : Ending) (w' : World) : Prop :=
  e = .returned (.pointer (some ⟨bt, 0, none⟩)) ∧ TapeAt w' bt (More O w w') xs ∧ Keep O w w'

theorem wrote_from {w w1 w' : World} {bt : Nat} {O : Nat → Prop} {xs : List UInt8} (hk : Keep O w w1) (h : TapeAt w' bt (More O w1 w') xs ∧ Keep O w1 w') :
    TapeAt w' bt (More O w w') xs ∧ Keep O w w' :=
  ⟨h.1.mono (More.trans hk.size), hk.trans h.2 (fun _ ho _ => ho)⟩

set_option maxHeartbeats 400000 in
theorem tnumber_any (w : World) (bt : Nat) (O : Nat → Prop) (l : List UInt8) (n : Nat) (h : TapeAt w bt O l) (hO : ∀ k, O k → k < w.heap.size) (hb : l.length + 9 ≤ 140737488355328) :
    Calls Tryd.prog 69 #[.pointer (some ⟨bt, 0, none⟩), .int .u64 n] w (Wrote w bt O (l ++ encL n)) := by
  have hl := encL_len n
  go_enter Tryd.func69, Tryd.ntmps69
  go_wp2_with (first | (go_at_call 88; refine (encode_own n w).mono ?_; rintro e w1 ⟨v, rfl, hv1, hk1⟩; obtain ⟨A, c, rfl, _, hr1, hA1, _⟩ := hv1.form; have h1 : TapeAt w1 bt O l := h.keep hk1 (fun _ _ => id)) | (go_at_call 87; refine (write_any w1 bt O l (encL n) A c h1 hr1 (fun ad e ho => by have := hO _ ho; have := (hA1 ad e).1; unfold Fresh at this; omega) (by omega)).mono ?_; rintro e w2 ⟨rfl, h2⟩))
  go_ret
  exact ⟨rfl, wrote_from (hk1.mono (fun _ hf _ => hf.elim)) h2⟩

/-- Bytes as a string. -/
abbrev str (l : List UInt8) : ByteArray := ⟨l.toArray⟩

theorem conv_rd {w : World} {A : Option Addr} {l : List UInt8} {c : Nat} (h : Rd w A l) :
    (convert 23 9 (.slice A l.length c)).run Tryd.prog w = .ok (.string (str l)) w := by
  rcases A with _ | ad
  · have hl : l = [] := by
      rcases Nat.eq_zero_or_pos l.length with h0 | h0
      · exact List.length_eq_zero_iff.1 h0
      · obtain ⟨ad, e, _⟩ := h h0; cases e
    subst hl
    exact run_convert_bytes_nil _ _ _ Tryd.underlying23 Tryd.underlying5 0 c _ Tryd.underlying9
  · refine run_convert_bytes_back w _ _ _ ad c l Tryd.underlying23 Tryd.underlying5 Tryd.underlying9 ?_
    intro j hj
    obtain ⟨ad', e, hc⟩ := h (by omega)
    cases e
    exact hc j _ (by simp [hj])

theorem TapeAt.new (w : World) : TapeAt (w.alloc (.cells #[.pointer none, .int .i64 0] 114)) w.heap.size (fun k => k = w.heap.size) [] :=
  ⟨rfl, .inl ⟨Blk.new _ _ _, rfl⟩⟩

end Go.Proofs.YtieejecodfeodaaDoor.V
