/-
  The plain mathematics of layer value: which numbers are types, which values may be, letters, a value's text and the value of a text. No program, no conditions.
  Words for memory that walks share: what a step keeps (Keep), a slice that reads as a list (Rd), one that the call owns (Own), and append. No conditions.
  Words for memory that the walks of vary share: what a step keeps (Keep), a slice of bytes that reads as a list (Rd), one that the call owns (OwnB), and append of the one onto the other. No conditions.
  The Tape: write, Number, Signed, Bytes, All, over a Tape in memory that holds the bytes l; and slices.Clone, Twin. Conditions: no more than 2^47 bytes in all.
  Tape.Number, Signed, Bytes over a Tape in memory; the law's own number: a number's bytes as a string. Conditions: no more than 2^47 bytes in all.
  Plain mathematics of a number's bytes: big-endian digits, their order, what a first byte tells. No program's run is named here. No conditions.
  The keepers of a Reel's look: sum.add gathers bytes as one number, taken.set keeps a copy; told tells a width. Conditions: no more than 2^47 bytes.
  Plain mathematics of reading: what bytes say as a number, and when they are a number's bytes. No program's run is named here. No conditions.
  The law's own alive: the chapter's first examples hold. No conditions.
  The document's own Number and Bytes: a number's bytes by definition, as vary's. Conditions: a uint64; no more than 2^47 bytes.
  A Reel's look with each of its two keepers: too few bytes, or they are handed on. Conditions: no more than 2^47 bytes.
  A Reel's next: what comes next, its width, the error; the place stays. Conditions: no more than 2^47 bytes.
  The Reel: On, bounded, take, Number, Signed, Bytes, Raw, At, End over a Reel in memory. Conditions: no more than 2^47 bytes.
  The Reel's methods: Number, Signed, Bytes, Raw, At, End over a Reel in memory. Conditions: no more than 2^47 bytes.
  The Reel's take, Bytes, Raw over a Reel in memory. Conditions: no more than 2^47 bytes.
  The document's own Reel: look: what comes next, as vary's next tells it. Conditions: no more than 2^47 bytes.
  The document's own Reel: look: what comes next, as vary's next tells it. Conditions: no more than 2^47 bytes.
  The document's own Reel: Number, Signed, Raw, Bytes, End: as vary's. Conditions: no more than 2^47 bytes.
  Reading a number off bytes, and what the walks of shape share. No program, no conditions.
-/
import Derived.BigQuiet
import Derived.Deep.AppendLies
import Derived.Deep.DeepFit
import Derived.Deep.Draws
import Derived.Deep.QuietTactic
import Derived.Deep.RegionHeld3
import Derived.Deep.RegionLaw
import Derived.Laws.OwnMore
import Derived.Lib.Hide
import Derived.Lib.ItoaLen
import Derived.Lib.ParseIntBTie
import Derived.Lib.Strings
import Derived.Maps.AppendAt
import Derived.OwnWalk
import Derived.StillTailTactics
import Derived.WalkKit
import Derived.WalkLawsBesides
import Derived.WalkSpells
import Derived.Test.YtifobiajjhknbaaGreatDoorProg
import Derived.Test.YtifobiajjhknbaaGreatDoorQ1
namespace Go.Proofs.YtifobiajjhknbaaGreatDoor.W
open Go.Lib

abbrev str (l : List UInt8) : ByteArray := ⟨l.toArray⟩

/-- Is the number a type? -/
def knownB (t : Int) : Bool := decide (1 ≤ t ∧ t ≤ 4)
/-- May the value be? -/
def okB (t n : Int) : Bool := decide ((1 ≤ t ∧ t ≤ 4) ∧ (t = 1 ∨ 0 ≤ n))
/-- Is it nil? -/
def nilB (t n : Int) : Bool := decide ((2 ≤ t ∧ t ≤ 4) ∧ n = 0)
/-- A type's letter. -/
def letC (t : Int) : List UInt8 := if t = 1 then [73] else if t = 2 then [82] else if t = 3 then [70] else if t = 4 then [80] else []

theorem known_iff (t : Int) : knownB t = true ↔ 1 ≤ t ∧ t ≤ 4 := by simp [knownB]
theorem known_not (t : Int) : knownB t = false ↔ ¬ (1 ≤ t ∧ t ≤ 4) := by simp [knownB]
theorem known_cases {t : Int} (h : knownB t = true) : t = 1 ∨ t = 2 ∨ t = 3 ∨ t = 4 := by rw [known_iff] at h; omega
theorem letC_none {t : Int} (h : knownB t = false) : letC t = [] := by
  rw [known_not] at h
  unfold letC
  rw [if_neg (by omega), if_neg (by omega), if_neg (by omega), if_neg (by omega)]
/-! ### Texts of lists of types -/

/-- A letter's type; 0: none has it. -/
def unlet (c : UInt8) : Int := if c = 73 then 1 else if c = 82 then 2 else if c = 70 then 3 else if c = 80 then 4 else 0
/-- The types of a text, if it is one. -/
def untxt (s : List UInt8) : Option (List Int) := if s.length ≤ 1024 ∧ (s.all fun c => decide (unlet c ≠ 0)) = true then some (s.map unlet) else none

/-! ### A value's text -/

/-- The sign in front. -/
def sgn (t : Int) : List UInt8 := if t = 2 then [35] else if t = 3 then [64] else if t = 4 then [38] else []
/-- What a value's number is above the one shown. -/
def off (t : Int) : Int := if t = 3 then 1 else 0
/-- A value's text; nothing, if it may not be. -/
def showL (t n : Int) : List UInt8 := if okB t n = false then [] else if nilB t n = true then [110, 105, 108] else if t = 4 then [38] else sgn t ++ itoa (n - off t)

/-! ### Decimal digits there and back -/

theorem dec_ne (u : Nat) : decDigits u ≠ [] := by
  intro h; have h1 := decDigits_length u; have := nDigits_pos u; rw [h] at h1; simp at h1; omega
theorem byte_dig (d : Nat) (h : d < 10) : (UInt8.ofNat (48 + d)).toNat = 48 + d := by rw [UInt8.toNat_ofNat', Nat.mod_eq_of_lt (by omega)]
theorem dec_digits (u : Nat) : ∀ c ∈ decDigits u, 48 ≤ c.toNat ∧ c.toNat ≤ 57 := by
  induction u using Nat.strongRecOn with
  | _ u ih =>
    rw [decDigits]
    split
    · rename_i h
      intro c hc
      simp only [List.mem_singleton] at hc
      rw [hc, byte_dig u h]; omega
    · rename_i h
      intro c hc
      rcases List.mem_append.1 hc with hc | hc
      · exact ih (u / 10) (by omega) c hc
      · simp only [List.mem_singleton] at hc
        rw [hc, byte_dig (u % 10) (by omega)]; omega

/-- What digits spell, on from acc. -/
def spell (acc : Nat) (l : List UInt8) : Nat := l.foldl (fun a c => a * 10 + (c.toNat - 48)) acc
theorem spell_append (acc : Nat) (l r : List UInt8) : spell acc (l ++ r) = spell (spell acc l) r := List.foldl_append
theorem spell_le (l : List UInt8) : ∀ acc, acc ≤ spell acc l := by
  induction l with
  | nil => intro acc; exact Nat.le_refl _
  | cons c r ih =>
    intro acc
    have := ih (acc * 10 + (c.toNat - 48))
    show acc ≤ spell (acc * 10 + (c.toNat - 48)) r
    omega
theorem spell_dec (u : Nat) : spell 0 (decDigits u) = u := by
  induction u using Nat.strongRecOn with
  | _ u ih =>
    rw [decDigits]
    split
    · rename_i h
      show 0 * 10 + ((UInt8.ofNat (48 + u)).toNat - 48) = u
      rw [byte_dig u h]; omega
    · rename_i h
      rw [spell_append, ih (u / 10) (by omega)]
      show u / 10 * 10 + ((UInt8.ofNat (48 + u % 10)).toNat - 48) = u
      rw [byte_dig (u % 10) (by omega)]; omega
theorem parse_spell : ∀ (l : List UInt8) (acc : Nat), (∀ c ∈ l, 48 ≤ c.toNat ∧ c.toNat ≤ 57) → spell acc l < 18446744073709551616 → parseUint10 acc l = .ok (spell acc l)
  | [], acc, _, _ => rfl
  | c :: r, acc, hd, hs => by
    have hc := hd c (List.mem_cons_self ..)
    have hle := spell_le r (acc * 10 + (c.toNat - 48))
    have he : spell acc (c :: r) = spell (acc * 10 + (c.toNat - 48)) r := rfl
    rw [he] at hs ⊢
    unfold parseUint10
    rw [if_pos hc, if_neg (by omega), if_neg (by omega)]
    exact parse_spell r _ (fun c h => hd c (List.mem_cons_of_mem _ h)) hs
theorem mag_dec (u : Nat) (h : u < 18446744073709551616) : parseMag (decDigits u) = .ok u := by
  unfold parseMag
  rw [if_neg (dec_ne u), parse_spell _ 0 (dec_digits u) (by rw [spell_dec]; exact h), spell_dec]

theorem dec_cons (u : Nat) : ∃ c r, decDigits u = c :: r ∧ 48 ≤ c.toNat ∧ c.toNat ≤ 57 := by
  cases h : decDigits u with
  | nil => exact absurd h (dec_ne u)
  | cons c r => exact ⟨c, r, rfl, dec_digits u c (by rw [h]; exact List.mem_cons_self ..)⟩
theorem itoa_pos {n : Int} (h : 0 ≤ n) : itoa n = decDigits n.toNat := by unfold itoa; rw [if_neg (by omega)]
theorem itoa_minus {n : Int} (h : n < 0) : itoa n = 45 :: decDigits n.natAbs := by unfold itoa; rw [if_pos h]
/-- A number's own text is read as the number. -/
theorem atoi_itoa (n : Int) (h0 : -9223372036854775808 ≤ n) (h1 : n ≤ 9223372036854775807) : atoiAll (itoa n) = .ok n := by
  by_cases h : n < 0
  · rw [itoa_minus h]
    unfold atoiAll
    have e : (45 : UInt8).toNat = 45 := rfl
    simp only [e, or_true, if_true]
    rw [mag_dec _ (by omega)]
    simp only [not_true, false_and, if_false, true_and]
    rw [if_neg (by omega)]
    congr 1; omega
  · obtain ⟨c, r, hc, hd⟩ := dec_cons n.toNat
    have hm := mag_dec n.toNat (by omega)
    rw [itoa_pos (by omega)]
    rw [hc] at hm ⊢
    unfold atoiAll
    have e1 : ¬ (c.toNat = 43 ∨ c.toNat = 45) := by omega
    have e2 : ¬ c.toNat = 45 := by omega
    dsimp only
    rw [if_neg e1, hm]
    dsimp only
    rw [if_neg (by omega), if_neg (by omega), if_neg e2]
    congr 1; omega

theorem size_of {S : ByteArray} {s : List UInt8} (h : S.data.toList = s) : S.size = s.length := by rw [← h, Array.length_toList]; rfl
theorem byte_at {S : ByteArray} {s : List UInt8} (h : S.data.toList = s) (i : Nat) (hi : i < S.size) (hj : i < s.length) : S[i] = s[i] := by subst h; simp; rfl
theorem get_at {S : ByteArray} (i : Nat) (hi : i < S.size) : S.get! i = S[i] := by simp [ByteArray.get!, getElem!_pos, hi]; rfl

end Go.Proofs.YtifobiajjhknbaaGreatDoor.W

namespace Go.Proofs.YtifobiajjhknbaaGreatDoor
open Go.RowKit

theorem ret_bool {a b : Bool} (h : a = b) : Ending.returned (.bool a) = .returned (.bool b) := by rw [h]
theorem ret_int {k : IntKind} {a b : Int} (h : a = b) : Ending.returned (.int k a) = .returned (.int k b) := by rw [h]

/-- What lay when the step began, and is none of O, lies as it lay. -/
structure Keep (O : Nat → Prop) (w w' : World) : Prop where
  os : w'.os = w.os
  tape : w'.tape = w.tape
  output : w'.output = w.output
  size : w.heap.size ≤ w'.heap.size
  block : ∀ k, k < w.heap.size → ¬ O k → w'.heap[k]? = w.heap[k]?

/-- No block at all. -/
def NoB : Nat → Prop := fun _ => False
/-- Blocks that were not yet there. -/
def Fresh (w : World) : Nat → Prop := fun k => w.heap.size ≤ k

section
variable {O O' : Nat → Prop} {w w1 w2 : World}
theorem Keep.refl (O : Nat → Prop) (w : World) : Keep O w w := ⟨rfl, rfl, rfl, Nat.le_refl _, fun _ _ _ => rfl⟩
theorem Keep.trans (h : Keep O w w1) (h' : Keep O' w1 w2) (hO : ∀ k, O' k → k < w.heap.size → O k) : Keep O w w2 :=
  ⟨h'.os.trans h.os, h'.tape.trans h.tape, h'.output.trans h.output, Nat.le_trans h.size h'.size,
    fun k hk hn => (h'.block k (Nat.lt_of_lt_of_le hk h.size) (fun ho => hn (hO k ho hk))).trans (h.block k hk hn)⟩
theorem Keep.mono (h : Keep O w w1) (hO : ∀ k, O k → k < w.heap.size → O' k) : Keep O' w w1 :=
  ⟨h.os, h.tape, h.output, h.size, fun k hk hn => h.block k hk (fun ho => hn (hO k ho hk))⟩
theorem Keep.drew (h : Keep O w w1) : Keep O w w1.drew := ⟨h.os, h.tape, h.output, h.size, h.block⟩
theorem Keep.drewN (h : Keep O w w1) (n : Nat) : Keep O w (w1.drewN n) := ⟨h.os, h.tape, h.output, h.size, h.block⟩
theorem Keep.alloc (h : Keep O w w1) (o : Obj) : Keep O w (w1.alloc o) :=
  h.trans (O' := NoB) ⟨rfl, rfl, rfl, by simp, fun k hk _ => Below.heap_alloc _ _ _ hk⟩ (fun _ hf => hf.elim)
theorem Keep.setCell (h : Keep O w w1) {p : Addr} (hp : p.block < w.heap.size → O p.block) (u : Value) : Keep O w (w1.setCell p u) :=
  h.trans (O' := fun k => k = p.block) ⟨rfl, rfl, rfl, by simp [World.setCell], fun k _ hn => Below.heap_setCell _ _ _ _ hn⟩ (fun k e hk => by rw [e] at hk ⊢; exact hp hk)
theorem Keep.grown {row : Option Nat} (h : Keep O w w1) (hg : w1.grownBy w2 row) (hr : ∀ g, row = some g → g < w.heap.size → O g) : Keep O w w2 :=
  h.trans (O' := fun k => some k = row) ⟨hg.os, hg.tape, hg.output, hg.size, fun k hk hn => hg.block k hk hn⟩ (fun k e hk => hr k e.symm hk)
theorem Keep.below (h : Keep O w w1) (hO : ∀ k, O k → w.heap.size ≤ k) : Below w.heap.size w w1 :=
  ⟨h.os, h.tape, h.output, h.size, fun k hk => h.block k hk (fun ho => by have := hO k ho; omega)⟩
theorem Keep.of_below (h : Below w.heap.size w w1) : Keep O w w1 := ⟨h.os, h.tape, h.output, h.size, fun k hk _ => h.block k hk⟩
theorem Keep.cell (h : Keep O w w1) {p : Addr} {v : Value} (hc : w.cell? p = some v) (hp : ¬ O p.block) : w1.cell? p = some v :=
  (World.cell?_of_block (h.block _ (World.block_lt_of_cell? w p hc) hp)).trans hc
theorem keepN (h : Keep NoB w w1) (h' : Keep NoB w1 w2) : Keep NoB w w2 := h.trans h' (fun _ hf _ => hf.elim)
theorem Keep.toBelow (h : Keep NoB w w1) : Below w.heap.size w w1 := h.below (fun _ hf => hf.elim)
end

/-- A slice's address, from which the cells xs stand. -/
def Rd (w : World) (A : Option Addr) (xs : List Value) : Prop :=
  0 < xs.length → ∃ g off, A = some ⟨g, off, none⟩ ∧ ∀ j u, xs[j]? = some u → w.cell? ⟨g, off + j, none⟩ = some u
theorem Rd.none_ (w : World) (A : Option Addr) : Rd w A [] := fun h => by simp at h
theorem Rd.keep {O : Nat → Prop} {w w' : World} {A : Option Addr} {xs : List Value} (h : Rd w A xs) (hk : Keep O w w') (hA : ∀ ad, A = some ad → ¬ O ad.block) : Rd w' A xs := fun h0 => by
  obtain ⟨g, off, e, hc⟩ := h h0
  exact ⟨g, off, e, fun j u hu => hk.cell (hc j u hu) (by have := hA _ e; exact this)⟩
theorem Rd.keepN {w w' : World} {A : Option Addr} {xs : List Value} (h : Rd w A xs) (hk : Keep NoB w w') : Rd w' A xs := h.keep hk (fun _ _ => id)

/-- Numbers, and values, as cells. -/
abbrev ivs (l : List Int) : List Value := l.map (.int .i64)
theorem rdI_at {w : World} {A : Option Addr} {l : List Int} (h : Rd w A (ivs l)) (h0 : 0 < l.length) : ∃ g off, A = some ⟨g, off, none⟩ ∧ ∀ (i : Nat) (hi : i < l.length), w.cell? ⟨g, off + i, none⟩ = some (.int .i64 l[i]) := by
  obtain ⟨g, off, e, hc⟩ := h (by simpa using h0)
  exact ⟨g, off, e, fun i hi => hc i _ (by simp [hi])⟩
/-- A slice that the call owns: so many elements, so many cells each, in a block of O. -/
def Own (w : World) (E size : Nat) (O : Nat → Prop) (v : Value) (n : Nat) (xs : List Value) : Prop :=
  w.ownsRow 0 E size v n xs ∧ ∀ g, v.ownBlock = some g → O g
section
variable {w w' : World} {E size n : Nat} {O O' : Nat → Prop} {v : Value} {xs : List Value}
theorem Own.nil (w : World) (E size : Nat) (O : Nat → Prop) : Own w E size O (.slice none 0 0) 0 [] := ⟨World.ownsRow_nil _ _ _ _, by simp [Value.ownBlock]⟩
theorem Own.mono (h : Own w E size O v n xs) (hO : ∀ k, O k → k < w.heap.size → O' k) : Own w E size O' v n xs := ⟨h.1, fun g e => hO g (h.2 g e) (h.1.lt g e).2⟩
theorem ownsRow_keep {base : Nat} (h : w.ownsRow base E size v n xs) (hk : Keep O w w') (hn : ∀ g, v.ownBlock = some g → ¬ O g) : w'.ownsRow base E size v n xs := by
  refine ⟨h.1, ?_⟩
  rcases h.2 with h2 | ⟨g, cap, cur, rfl, hb, hh, r⟩
  · exact .inl h2
  · exact .inr ⟨g, cap, cur, rfl, hb, (hk.block g (Array.getElem?_eq_some_iff.1 hh).1 (hn g rfl)).trans hh, r⟩
theorem Own.keep (h : Own w E size O v n xs) (hk : Keep O' w w') (hn : ∀ k, O k → ¬ O' k) : Own w' E size O v n xs := ⟨ownsRow_keep h.1 hk (fun g e => hn g (h.2 g e)), h.2⟩
theorem Own.keepN (h : Own w E size O v n xs) (hk : Keep NoB w w') : Own w' E size O v n xs := h.keep hk (fun _ _ => id)
/-- The slice written out; it reads as its cells. -/
theorem Own.form (h : Own w E size O v n xs) : ∃ A c, v = .slice A n c ∧ n ≤ c ∧ c ≤ maxLen ∧ Rd w A xs ∧ (∀ ad, A = some ad → O ad.block ∧ ad = ⟨ad.block, 0, none⟩) := by
  rcases h.1.2 with ⟨rfl, hn⟩ | ⟨g, cap, cur, rfl, _, hh, hc, hm, _⟩
  · have hx : xs = [] := List.length_eq_zero_iff.1 (by rw [h.1.1, hn, Nat.zero_mul])
    subst hx
    exact ⟨none, 0, by rw [hn], Nat.le_of_eq hn, Nat.zero_le _, Rd.none_ _ _, by simp⟩
  · refine ⟨_, cap, rfl, hc, hm, fun _ => ⟨g, 0, rfl, fun j u hu => ?_⟩, ?_⟩
    · have := h.1.cells (g := g) rfl j u hu
      have ea : (⟨g, 0, none⟩ : Addr).add j = ⟨g, 0 + j, none⟩ := by unfold Addr.add; by_cases hj : j = 0 <;> simp [hj]
      rwa [ea] at this
    · intro ad e
      cases e
      exact ⟨h.2 g rfl, rfl⟩
/-- A row of new blocks, as a contract of the shelf, or of make, hands it out. -/
theorem Own.of_row {base : Nat} (h : w.ownsRow base E size v n xs) (hb : ∀ k, base ≤ k → O k) : Own w E size O v n xs := by
  refine ⟨⟨h.1, ?_⟩, fun g e => hb g (h.lt g e).1⟩
  rcases h.2 with h2 | ⟨g, cap, cur, h1, _, h2⟩
  · exact .inl h2
  · exact .inr ⟨g, cap, cur, h1, Nat.zero_le _, h2⟩
end

theorem own_form {w : World} {E size base n : Nat} {v : Value} {xs : List Value} (h : w.ownsRow base E size v n xs) : ∃ A c, v = .slice A n c := by
  rcases h.2 with ⟨rfl, rfl⟩ | ⟨g, cap, cur, rfl, _⟩
  · exact ⟨_, _, rfl⟩
  · exact ⟨_, _, rfl⟩

/-- append of cells that are read onto a row that is owned. -/
theorem run_append_rd (w : World) (S E size bytes : Nat) (i0 : TypeInfo) (z : Value) (hS : Tryz.prog.underlying S = some (.slice E)) (hi : Tryz.prog.info? E = some i0) (hz0 : i0.zero = some z) (hz1 : i0.size = size) (hz2 : i0.bytes = bytes) (hzs : z.cells.size = size) (hsz : 0 < size)
    (v : Value) (n : Nat) (xs : List Value) (A : Option Addr) (m c : Nat) (ys : List Value) (ty : TypeId)
    (hown : w.ownsRow 0 E size v n xs) (hr : Rd w A ys) (hl : ys.length = m * size) (h1 : ∀ u ∈ ys, u.oneCell' = true) (h63 : n + m ≤ maxLen) (hb : (n + m) * bytes ≤ 140737488355328) :
    ∃ v' w', (Builtin.append_ #[S, S] ty #[v, .slice A m c]).run Tryz.prog w = .ok v' w' ∧ w'.ownsRow 0 E size v' (n + m) (xs ++ ys) ∧ w.grownBy w' v.ownBlock ∧
      (v'.ownBlock = v.ownBlock ∨ v'.ownBlock = some w.heap.size) := by
  have hm0 : m = 0 → ys = [] := fun e => List.length_eq_zero_iff.1 (by rw [hl, e, Nat.zero_mul])
  rcases A with _ | ad
  · have hy : ys = [] := by
      rcases Nat.eq_zero_or_pos ys.length with h0 | h0
      · exact List.length_eq_zero_iff.1 h0
      · obtain ⟨g, off, e, _⟩ := hr h0; cases e
    subst hy
    have hm : m = 0 := by
      rcases Nat.eq_zero_or_pos m with h | h
      · exact h
      · have := Nat.mul_pos h hsz; simp at hl; omega
    subst hm
    refine ⟨v, w, ?_, by simpa using hown, World.grownBy.refl w _, .inl rfl⟩
    rcases hown.2 with ⟨rfl, h0⟩ | ⟨g, cap, cur, rfl, _, _, hnc, _⟩
    · simp [Builtin.append_, run_underlying hS, sizeOf, typeInfo, hi, Builtin.lenOf, Builtin.firstCells]
    · simp [Builtin.append_, run_underlying hS, sizeOf, typeInfo, hi, Builtin.lenOf, Builtin.firstCells, hnc, storeCells]
  · have hcells : ∀ j u, ys[j]? = some u → w.cell? (ad.add j) = some u := by
      intro j u hu
      rcases Nat.eq_zero_or_pos ys.length with h0 | h0
      · have : ys = [] := List.length_eq_zero_iff.1 h0
        subst this; simp at hu
      · obtain ⟨g, off, e, hc⟩ := hr h0
        cases e
        have ea : (⟨g, off, none⟩ : Addr).add j = ⟨g, off + j, none⟩ := by unfold Addr.add; by_cases hj : j = 0 <;> simp [hj]
        rw [ea]; exact hc j u hu
    obtain ⟨v', w', hrun, h2, h3, _, h5⟩ := run_append_own_at (P := Tryz.prog) w 0 S ty E i0 z size bytes hS hi hz0 hz1 hz2 hzs hsz v n xs hown ad m c ys hl hcells h1 h63 hb (Nat.zero_le _)
    exact ⟨v', w', hrun, h2, h3, h5⟩

theorem wp_append_rd {o : Oper} {a : Act} {K : Act → World → Prop} {Q : Exit → Act → World → Prop} (w : World) (s x : Operand) (S : TypeId)
    (ho : o.op = .call { callee := .builtin .append, args := #[s, x], argTypes := #[S, S] })
    (E size bytes : Nat) (i0 : TypeInfo) (z : Value) (hS : Tryz.prog.underlying S = some (.slice E)) (hi : Tryz.prog.info? E = some i0) (hz0 : i0.zero = some z) (hz1 : i0.size = size) (hz2 : i0.bytes = bytes) (hzs : z.cells.size = size) (hsz : 0 < size)
    (v : Value) (n : Nat) (xs : List Value) (A : Option Addr) (m c : Nat) (ys : List Value) (hs : a.eval s = v) (hown : w.ownsRow 0 E size v n xs) (hx : a.eval x = .slice A m c) (hr : Rd w A ys)
    (hl : ys.length = m * size) (h1 : ∀ u ∈ ys, u.oneCell' = true) (h63 : n + m ≤ maxLen) (hb : (n + m) * bytes ≤ 140737488355328)
    (h : ∀ A' c' w', w'.ownsRow 0 E size (.slice A' (n + m) c') (n + m) (xs ++ ys) → w.grownBy w' v.ownBlock → ((Value.slice A' (n + m) c').ownBlock = v.ownBlock ∨ (Value.slice A' (n + m) c').ownBlock = some w.heap.size) → K (a.put o.dst (.slice A' (n + m) c')) w') : o.wp Tryz.prog a w K Q := by
  obtain ⟨v', w', hrun, h2, h3, h4⟩ := run_append_rd w S E size bytes i0 z hS hi hz0 hz1 hz2 hzs hsz v n xs A m c ys o.type hown hr hl h1 h63 hb
  obtain ⟨A', c', rfl⟩ := own_form h2
  unfold Oper.wp execOp
  simp only [ho, resolve, invoke, builtin, Sem.run_bind, Sem.run_pure, Result.andThen_ok, List.map_toArray, List.map_cons, List.map_nil, hs, hx, hrun]
  exact h A' c' w' h2 h3 h4

theorem wpList_append_rd {ops : Array Oper} {rest : List Oper} {o : Oper} {a : Act} {Q : Exit → Act → World → Prop} (w : World) (hgd : o.guard = none) (s x : Operand) (S : TypeId)
    (ho : o.op = .call { callee := .builtin .append, args := #[s, x], argTypes := #[S, S] })
    (E size bytes : Nat) (i0 : TypeInfo) (z : Value) (hS : Tryz.prog.underlying S = some (.slice E)) (hi : Tryz.prog.info? E = some i0) (hz0 : i0.zero = some z) (hz1 : i0.size = size) (hz2 : i0.bytes = bytes) (hzs : z.cells.size = size) (hsz : 0 < size)
    (v : Value) (n : Nat) (xs : List Value) (A : Option Addr) (m c : Nat) (ys : List Value) (hs : a.eval s = v) (hown : w.ownsRow 0 E size v n xs) (hx : a.eval x = .slice A m c) (hr : Rd w A ys)
    (hl : ys.length = m * size) (h1 : ∀ u ∈ ys, u.oneCell' = true) (h63 : n + m ≤ maxLen) (hb : (n + m) * bytes ≤ 140737488355328)
    (h : ∀ A' c' w', w'.ownsRow 0 E size (.slice A' (n + m) c') (n + m) (xs ++ ys) → w.grownBy w' v.ownBlock → ((Value.slice A' (n + m) c').ownBlock = v.ownBlock ∨ (Value.slice A' (n + m) c').ownBlock = some w.heap.size) → wpList Tryz.prog ops Q rest (a.put o.dst (.slice A' (n + m) c')) w') :
    wpList Tryz.prog ops Q (o :: rest) a w :=
  wpList_plain hgd fun _ hK => wp_append_rd w s x S ho E size bytes i0 z hS hi hz0 hz1 hz2 hzs hsz v n xs A m c ys hs hown hx hr hl h1 h63 hb fun A' c' w' h2 h3 h4 => hK _ _ (h A' c' w' h2 h3 h4)


theorem int_info : (Tryz.prog.info? 3).map (fun i => (i.zero, i.size, i.bytes)) = some (some (.int .i64 0), 1, 8) := by kernel_rfl
/-- Block g is just the cells cs of type t, none of them frozen. -/
def Blk (w : World) (g : Nat) (t : TypeId) (cs : Array Value) : Prop := w.heap[g]? = some (.cells cs t (0, 0))
section
variable {w w' : World} {g : Nat} {t : TypeId} {cs : Array Value}
theorem Blk.lt (h : Blk w g t cs) : g < w.heap.size := (Array.getElem?_eq_some_iff.1 h).1
theorem Blk.cell (h : Blk w g t cs) (i : Nat) : w.cell? ⟨g, i, none⟩ = cs[i]? := cell_of_row w g i cs t (0, 0) h
theorem Blk.frozen (h : Blk w g t cs) (i : Nat) : w.frozen? ⟨g, i, none⟩ = false := by unfold Blk at h; simp [World.frozen?, h]
theorem Blk.new (w : World) (t : TypeId) (cs : Array Value) : Blk (w.alloc (.cells cs t)) w.heap.size t cs := heap_alloc_new w _
theorem Blk.alloc (h : Blk w g t cs) (o : Obj) : Blk (w.alloc o) g t cs := (Below.heap_alloc w o g h.lt).trans h
theorem Blk.put (h : Blk w g t cs) (i : Nat) (u : Value) : Blk (w.setCell ⟨g, i, none⟩ u) g t (cs.setIfInBounds i u) := by
  unfold Blk at h ⊢; simp [World.setCell, Array.getElem?_modify, h]
theorem Blk.far (h : Blk w g t cs) {p : Addr} (hp : g ≠ p.block) (u : Value) : Blk (w.setCell p u) g t cs := (Below.heap_setCell w p u g hp).trans h
theorem Blk.grown {row : Option Nat} (h : Blk w g t cs) (hb : w.grownBy w' row) (hg : some g ≠ row) : Blk w' g t cs := (hb.block g h.lt hg).trans h
theorem Blk.ne {g' : Nat} {t' : TypeId} {cs' : Array Value} (h : Blk w g t cs) (h' : Blk w g' t' cs') (hne : t ≠ t') : g ≠ g' := by
  rintro rfl
  have e := (show w.heap[g]? = _ from h).symm.trans h'
  simp at e
  exact hne e.2
theorem Blk.keep {O : Nat → Prop} (h : Blk w g t cs) (hk : Keep O w w') (hg : ¬ O g) : Blk w' g t cs := (hk.block g h.lt hg).trans h
end

end Go.Proofs.YtifobiajjhknbaaGreatDoor

namespace Go.Proofs.YtifobiajjhknbaaGreatDoor.V
open Go.RowKit

/-- A slice's address, from which the bytes l stand. -/
def Rd (w : World) (A : Option Addr) (l : List UInt8) : Prop :=
  0 < l.length → ∃ ad, A = some ad ∧ ∀ j u, (bvs l)[j]? = some u → w.cell? (ad.add j) = some u
theorem block_add (a : Addr) (n : Nat) : (a.add n).block = a.block := by unfold Addr.add; split <;> rfl
theorem add_add (a : Addr) (i j : Nat) : (a.add i).add j = a.add (i + j) := by
  unfold Addr.add
  by_cases hi : i = 0 <;> by_cases hj : j = 0 <;> simp [hi, hj, Nat.add_assoc]
theorem Rd.none_ (w : World) (A : Option Addr) : Rd w A [] := fun h => by simp at h
theorem Rd.keep {O : Nat → Prop} {w w' : World} {A : Option Addr} {l : List UInt8} (h : Rd w A l) (hk : Keep O w w') (hA : ∀ ad, A = some ad → 0 < l.length → ¬ O ad.block) : Rd w' A l := fun h0 => by
  obtain ⟨ad, e, hc⟩ := h h0
  exact ⟨ad, e, fun j u hu => hk.cell (hc j u hu) (by rw [block_add]; exact hA ad e h0)⟩
theorem Rd.lt {w : World} {A : Option Addr} {l : List UInt8} (h : Rd w A l) {ad : Addr} (e : A = some ad) (h0 : 0 < l.length) : ad.block < w.heap.size := by
  obtain ⟨ad', e', hc⟩ := h h0
  rw [e] at e'; cases e'
  have := World.block_lt_of_cell? w _ (hc 0 (bv l[0]) (by simp [h0]))
  rwa [block_add] at this

/-- The slice v of bytes l is the call's own, in a block of O. -/
def OwnB (w : World) (O : Nat → Prop) (v : Value) (l : List UInt8) : Prop :=
  w.ownsRow 0 5 1 v l.length (bvs l) ∧ ∀ g, v.ownBlock = some g → O g
section
variable {w w' : World} {O O' : Nat → Prop} {v : Value} {l : List UInt8}
theorem OwnB.nil (w : World) (O : Nat → Prop) : OwnB w O (.slice none 0 0) [] := ⟨World.ownsRow_nil _ _ _ _, by simp [Value.ownBlock]⟩
theorem OwnB.mono (h : OwnB w O v l) (hO : ∀ k, O k → k < w.heap.size → O' k) : OwnB w O' v l := ⟨h.1, fun g e => hO g (h.2 g e) (h.1.lt g e).2⟩
theorem ownsRow_keep {base n : Nat} {xs : List Value} (h : w.ownsRow base 5 1 v n xs) (hk : Keep O w w') (hn : ∀ g, v.ownBlock = some g → ¬ O g) : w'.ownsRow base 5 1 v n xs := by
  refine ⟨h.1, ?_⟩
  rcases h.2 with h2 | ⟨g, cap, cur, rfl, hb, hh, r⟩
  · exact .inl h2
  · exact .inr ⟨g, cap, cur, rfl, hb, (hk.block g (Array.getElem?_eq_some_iff.1 hh).1 (hn g rfl)).trans hh, r⟩
theorem OwnB.keep (h : OwnB w O v l) (hk : Keep O' w w') (hn : ∀ k, O k → ¬ O' k) : OwnB w' O v l := ⟨ownsRow_keep h.1 hk (fun g e => hn g (h.2 g e)), h.2⟩
theorem OwnB.form (h : OwnB w O v l) : ∃ A c, v = .slice A l.length c ∧ l.length ≤ c ∧ Rd w A l ∧ (∀ ad, A = some ad → O ad.block ∧ ad = ⟨ad.block, 0, none⟩) ∧ c ≤ maxLen := by
  rcases h.1.2 with ⟨rfl, hn⟩ | ⟨g, cap, cur, rfl, _, hh, hc, hm, _⟩
  · have : l = [] := List.length_eq_zero_iff.1 hn
    subst this
    exact ⟨none, 0, rfl, Nat.le_refl _, Rd.none_ _ _, by simp, by simp⟩
  · refine ⟨_, cap, rfl, hc, fun _ => ⟨_, rfl, h.1.cells (g := g) rfl⟩, ?_, hm⟩
    intro ad e
    cases e
    exact ⟨h.2 g rfl, rfl⟩
theorem OwnB.not_blk {g : Nat} {t : TypeId} {cs : Array Value} (h : OwnB w O v l) (hb : Blk w g t cs) (ht : t ≠ 5) : v.ownBlock ≠ some g := by
  rcases h.1.2 with ⟨rfl, _⟩ | ⟨g', cap, cur, rfl, _, hh, _⟩
  · simp [Value.ownBlock]
  · intro e
    obtain rfl : g' = g := by simpa [Value.ownBlock] using e
    exact Blk.ne hb (t' := 5) hh ht rfl
end

theorem bvs_one (l : List UInt8) : ∀ u ∈ bvs l, u.oneCell' = true := by
  intro u hu
  obtain ⟨b, _, rfl⟩ := List.mem_map.1 hu
  rfl

/-- append of bytes that are read onto bytes that are owned. -/
theorem run_append_rd (w : World) (v : Value) (xs l : List UInt8) (A : Option Addr) (c : Nat) (ty : TypeId)
    (hown : w.ownsRow 0 5 1 v xs.length (bvs xs)) (hr : Rd w A l) (hb : xs.length + l.length ≤ 140737488355328) :
    ∃ v' w', (Builtin.append_ #[50, 50] ty #[v, .slice A l.length c]).run Tryz.prog w = .ok v' w' ∧ w'.ownsRow 0 5 1 v' (xs ++ l).length (bvs (xs ++ l)) ∧ w.grownBy w' v.ownBlock ∧
      (v'.ownBlock = v.ownBlock ∨ v'.ownBlock = some w.heap.size) ∧ (v = .slice none 0 0 → 0 < l.length → v'.ownBlock = some w.heap.size) := by
  obtain ⟨i0, hi, hz0, hz1, hz2⟩ := info_parts u8_info
  rcases A with _ | ad
  · have hl : l = [] := by
      rcases Nat.eq_zero_or_pos l.length with h0 | h0
      · exact List.length_eq_zero_iff.1 h0
      · obtain ⟨ad, e, _⟩ := hr h0; cases e
    subst hl
    refine ⟨v, w, ?_, by simpa using hown, World.grownBy.refl w _, .inl rfl, fun _ h => by simp at h⟩
    rcases hown.2 with ⟨rfl, h0⟩ | ⟨g, cap, cur, rfl, _, _, hnc, _⟩
    · simp [Builtin.append_, run_underlying Tryz.underlying50, sizeOf, typeInfo, hi, Builtin.lenOf, Builtin.firstCells]
    · simp [Builtin.append_, run_underlying Tryz.underlying50, sizeOf, typeInfo, hi, Builtin.lenOf, Builtin.firstCells, hnc, storeCells]
  · have hcells : ∀ j u, (bvs l)[j]? = some u → w.cell? (ad.add j) = some u := by
      intro j u hu
      rcases Nat.eq_zero_or_pos l.length with h0 | h0
      · have : l = [] := List.length_eq_zero_iff.1 h0
        subst this; simp at hu
      · obtain ⟨ad', e, hc⟩ := hr h0
        cases e; exact hc j u hu
    obtain ⟨v', w', hrun, h2, h3, h4, h5⟩ := run_append_own_at (P := Tryz.prog) w 0 50 ty 5 i0 (.int .u8 0) 1 1 Tryz.underlying50 hi hz0 hz1 hz2 rfl (by decide) v xs.length (bvs xs) hown ad l.length c (bvs l) (by simp) hcells (bvs_one l) (by unfold maxLen; omega) (by omega) (Nat.zero_le _)
    refine ⟨v', w', hrun, by simpa using h2, h3, h5, fun e h0 => ?_⟩
    subst e
    rcases h5 with h5 | h5
    · exfalso
      have : v' ≠ .slice none 0 0 := fun e => by have := (h4.1 e).2; omega
      rcases h2.2 with ⟨e, _⟩ | ⟨g, cap, cur, e, _⟩
      · exact this e
      · rw [e] at h5; simp [Value.ownBlock] at h5
    · exact h5

theorem wp_append_rd {o : Oper} {a : Act} {K : Act → World → Prop} {Q : Exit → Act → World → Prop} (w : World) (s x : Operand)
    (ho : o.op = .call { callee := .builtin .append, args := #[s, x], argTypes := #[50, 50] })
    (v : Value) (xs l : List UInt8) (A : Option Addr) (c : Nat) (hs : a.eval s = v) (hown : w.ownsRow 0 5 1 v xs.length (bvs xs)) (hx : a.eval x = .slice A l.length c) (hr : Rd w A l)
    (hb : xs.length + l.length ≤ 140737488355328)
    (h : ∀ v' w', w'.ownsRow 0 5 1 v' (xs ++ l).length (bvs (xs ++ l)) → w.grownBy w' v.ownBlock → (v'.ownBlock = v.ownBlock ∨ v'.ownBlock = some w.heap.size) → K (a.put o.dst v') w') : o.wp Tryz.prog a w K Q := by
  obtain ⟨v', w', hrun, h2, h3, h4, _⟩ := run_append_rd w v xs l A c o.type hown hr hb
  unfold Oper.wp execOp
  simp only [ho, resolve, invoke, builtin, Sem.run_bind, Sem.run_pure, Result.andThen_ok, List.map_toArray, List.map_cons, List.map_nil, hs, hx, hrun]
  exact h v' w' h2 h3 h4

theorem wpList_append_rd {ops : Array Oper} {rest : List Oper} {o : Oper} {a : Act} {Q : Exit → Act → World → Prop} (w : World) (hgd : o.guard = none) (s x : Operand)
    (ho : o.op = .call { callee := .builtin .append, args := #[s, x], argTypes := #[50, 50] })
    (v : Value) (xs l : List UInt8) (A : Option Addr) (c : Nat) (hs : a.eval s = v) (hown : w.ownsRow 0 5 1 v xs.length (bvs xs)) (hx : a.eval x = .slice A l.length c) (hr : Rd w A l)
    (hb : xs.length + l.length ≤ 140737488355328)
    (h : ∀ v' w', w'.ownsRow 0 5 1 v' (xs ++ l).length (bvs (xs ++ l)) → w.grownBy w' v.ownBlock → (v'.ownBlock = v.ownBlock ∨ v'.ownBlock = some w.heap.size) → wpList Tryz.prog ops Q rest (a.put o.dst v') w') :
    wpList Tryz.prog ops Q (o :: rest) a w :=
  wpList_plain hgd fun _ hK => wp_append_rd w s x ho v xs l A c hs hown hx hr hb fun v' w' h2 h3 h4 => hK _ _ (h v' w' h2 h3 h4)

theorem own_form {w : World} {base n : Nat} {v : Value} {xs : List Value} (h : w.ownsRow base 5 1 v n xs) : ∃ A c, v = .slice A n c := by
  rcases h.2 with ⟨rfl, rfl⟩ | ⟨g, cap, cur, rfl, _⟩
  · exact ⟨_, _, rfl⟩
  · exact ⟨_, _, rfl⟩

/-- The same as one step of a region that draws its order; the new slice is written out. -/
theorem step_append_rd {ops : Array Oper} {o : Oper} {a : Act} {K : Act → World → Prop} {Q : Exit → Act → World → Prop} {E : Prop} (w : World) (hgd : o.guard = none) (s x : Operand)
    (ho : o.op = .call { callee := .builtin .append, args := #[s, x], argTypes := #[50, 50] })
    (v : Value) (xs l : List UInt8) (A : Option Addr) (c : Nat) (hs : a.eval s = v) (hown : w.ownsRow 0 5 1 v xs.length (bvs xs)) (hx : a.eval x = .slice A l.length c) (hr : Rd w A l)
    (hb : xs.length + l.length ≤ 140737488355328)
    (h : ∀ A' c' w', w'.ownsRow 0 5 1 (.slice A' (xs ++ l).length c') (xs ++ l).length (bvs (xs ++ l)) → w.grownBy w' v.ownBlock → ((Value.slice A' (xs ++ l).length c').ownBlock = v.ownBlock ∨ (Value.slice A' (xs ++ l).length c').ownBlock = some w.heap.size) → K (a.put o.dst (.slice A' (xs ++ l).length c')) w') :
    if Region.wanted o (yielded ops a.tmps) = true then Oper.wp Tryz.prog o a w K Q else E := by
  have hw : Region.wanted o (yielded ops a.tmps) = true := by simp [Region.wanted, hgd]
  rw [if_pos hw]
  refine wp_append_rd w s x ho v xs l A c hs hown hx hr hb fun v' w' h2 h3 h4 => ?_
  obtain ⟨A', c', rfl⟩ := own_form h2
  exact h A' c' w' h2 h3 h4

end Go.Proofs.YtifobiajjhknbaaGreatDoor.V

namespace Go.Proofs.YtifobiajjhknbaaGreatDoor.V
open Go.RowKit


set_option maxHeartbeats 400000 in
theorem clone_any (w : World) (A : Option Addr) (l : List UInt8) (c : Nat) (hr : Rd w A l) (hb : l.length ≤ 140737488355328) :
    Calls Tryz.prog 222 #[.slice A l.length c] w fun e w' => ∃ v, e = .returned v ∧ OwnB w' (Fresh w) v l ∧ Keep NoB w w' := by
  have qT : ∀ (w : World) (a : Option Addr) (n c n' c' : Nat), (binOp .eql 50 (.slice a n c) (.slice none n' c')).run Tryz.prog w = .ok (.bool a.isNone) w := fun w a n c n' c' => Lib.run_eql_slice_nil w _ _ a n c n' c' Tryz.underlying50
  rcases A with _ | ad
  · have hl : l = [] := by
      rcases Nat.eq_zero_or_pos l.length with h0 | h0
      · exact List.length_eq_zero_iff.1 h0
      · obtain ⟨ad, e, _⟩ := hr h0; cases e
    subst hl
    go_enter Tryz.func222, Tryz.ntmps222
    go_wp2
    go_ret
    exact ⟨_, rfl, OwnB.nil _ _, Keep.refl _ _⟩
  · have hm := World.ownsRow_made (e := 5) (size := 1) (base := 0) w #[] 0 (Nat.zero_le _) (Nat.zero_le _) rfl
    have hr' : Rd (w.alloc (.cells #[] 5)) (some ad) l := hr.keep ((Keep.refl NoB w).alloc _) (fun _ _ _ => id)
    go_enter Tryz.func222, Tryz.ntmps222
    go_wp2_with (at_builtin; refine wpList_append_rd _ rfl _ _ rfl (.slice (some ⟨w.heap.size, 0, none⟩) 0 0) [] l (some ad) c rfl hm rfl hr' (by simpa using hb) ?_; intro v' w1 hown' hg hat)
    go_ret
    refine ⟨v', rfl, ⟨by simpa using hown', fun g e => ?_⟩, ?_⟩
    · rcases hat with h | h <;> rw [h] at e <;> simp [Value.ownBlock] at e <;> subst e <;> simp [Fresh]
    · exact ((Keep.refl NoB w).alloc _).grown hg (fun g e hlt => by simp [Value.ownBlock] at e; omega)

/-- A Tape at block bt that holds l; all its blocks are of O. -/
def TapeAt (w : World) (bt : Nat) (O : Nat → Prop) (l : List UInt8) : Prop :=
  O bt ∧ ((Blk w bt 256 #[.pointer none, .int .i64 0] ∧ l = []) ∨
    ∃ bs v, O bs ∧ Blk w bt 256 #[.pointer (some ⟨bs, 0, none⟩), .int .i64 l.length] ∧ Blk w bs 302 #[v] ∧ OwnB w O v l)

theorem TapeAt.keep {w w' : World} {bt : Nat} {O O' : Nat → Prop} {l : List UInt8} (h : TapeAt w bt O l) (hk : Keep O' w w') (hn : ∀ k, O k → ¬ O' k) : TapeAt w' bt O l := by
  refine ⟨h.1, ?_⟩
  rcases h.2 with ⟨hb, rfl⟩ | ⟨bs, v, ho, hb, hs, hv⟩
  · exact .inl ⟨hb.keep hk (hn _ h.1), rfl⟩
  · exact .inr ⟨bs, v, ho, hb.keep hk (hn _ h.1), hs.keep hk (hn _ ho), hv.keep hk hn⟩
theorem TapeAt.mono {w : World} {bt : Nat} {O O' : Nat → Prop} {l : List UInt8} (h : TapeAt w bt O l) (hO : ∀ k, O k → k < w.heap.size → O' k) : TapeAt w bt O' l := by
  rcases h.2 with ⟨hb, rfl⟩ | ⟨bs, v, ho, hb, hs, hv⟩
  · exact ⟨hO _ h.1 hb.lt, .inl ⟨hb, rfl⟩⟩
  · exact ⟨hO _ h.1 hb.lt, .inr ⟨bs, v, hO _ ho hs.lt, hb, hs, hv.mono hO⟩⟩

set_option maxRecDepth 100000 in
set_option maxHeartbeats 1000000 in
theorem all_any (w : World) (bt : Nat) (O : Nat → Prop) (l : List UInt8) (h : TapeAt w bt O l) (hb : l.length ≤ 140737488355328) :
    Calls Tryz.prog 172 #[.pointer (some ⟨bt, 0, none⟩)] w fun e w' => ∃ v, e = .returned v ∧ OwnB w' (Fresh w) v l ∧ Keep NoB w w' := by
  rcases h.2 with ⟨hbt, rfl⟩ | ⟨bs, v, _, hbt, hbs, hv⟩
  · have c0 := hbt.cell 0
    have c1 := hbt.cell 1
    simp at c0 c1
    go_enter Tryz.func172, Tryz.ntmps172
    go_wp2
    go_ret
    exact ⟨_, rfl, OwnB.nil _ _, Keep.refl _ _⟩
  · obtain ⟨A, c, rfl, hc, hr, hA, hm⟩ := hv.form
    have c0 := hbt.cell 0
    have c1 := hbt.cell 1
    have c2 := hbs.cell 0
    simp at c0 c1 c2
    unfold maxLen at hm
    go_enter Tryz.func172, Tryz.ntmps172
    go_wp2
    go_still_tail 12, (by kernel_rfl)
    change wpList _ _ _ _ _ w.drew
    go_wp2_with (go_at_call 222; refine (clone_any w.drew A l c hr hb).mono ?_; rintro e w' ⟨v', rfl, hown', hk'⟩)
    go_ret
    exact ⟨v', rfl, hown', ⟨hk'.os, hk'.tape, hk'.output, hk'.size, hk'.block⟩⟩

/-- The blocks that a Tape has when it has been written on: its own, and new ones. -/
def More (O : Nat → Prop) (w w' : World) : Nat → Prop := fun k => O k ∨ (w.heap.size ≤ k ∧ k < w'.heap.size)

/-- What write leaves: the longer row in the strip, its length in the Tape. -/
theorem write_done {w wq w1 : World} {bt bs m c1 : Nat} {O : Nat → Prop} {v : Value} {A1 : Option Addr} {xs : List UInt8}
    (hk : Keep O w wq) (hbs : Blk wq bs 302 #[v]) (hbt : Blk wq bt 256 #[.pointer (some ⟨bs, 0, none⟩), .int .i64 m])
    (nb1 : v.ownBlock ≠ some bs) (nb2 : v.ownBlock ≠ some bt) (hO1 : O bs ∨ w.heap.size ≤ bs) (hO2 : O bt) (hO3 : ∀ g, v.ownBlock = some g → O g ∨ w.heap.size ≤ g)
    (hown : w1.ownsRow 0 5 1 (.slice A1 xs.length c1) xs.length (bvs xs)) (hgrow : wq.grownBy w1 v.ownBlock)
    (hat : (Value.slice A1 xs.length c1).ownBlock = v.ownBlock ∨ (Value.slice A1 xs.length c1).ownBlock = some wq.heap.size) :
    TapeAt ((w1.setCell ⟨bs, 0, none⟩ (.slice A1 xs.length c1)).setCell ⟨bt, 1, none⟩ (.int .i64 xs.length)) bt
      (More O w ((w1.setCell ⟨bs, 0, none⟩ (.slice A1 xs.length c1)).setCell ⟨bt, 1, none⟩ (.int .i64 xs.length))) xs ∧
    Keep O w ((w1.setCell ⟨bs, 0, none⟩ (.slice A1 xs.length c1)).setCell ⟨bt, 1, none⟩ (.int .i64 xs.length)) := by
  have hs1 := hbs.grown hgrow (Ne.symm nb1)
  have ht1 := hbt.grown hgrow (Ne.symm nb2)
  have hne : bs ≠ bt := Blk.ne hbs hbt (by decide)
  have hs2 := (hs1.put 0 (.slice A1 xs.length c1)).far (p := ⟨bt, 1, none⟩) hne (.int .i64 xs.length)
  have ht2 := (ht1.far (p := ⟨bs, 0, none⟩) (Ne.symm hne) (.slice A1 xs.length c1)).put 1 (.int .i64 xs.length)
  have hk1 : Keep O w w1 := hk.grown hgrow (fun g e hlt => (hO3 g e).resolve_right (by omega))
  have hk2 := (hk1.setCell (p := ⟨bs, 0, none⟩) (fun hlt => hO1.resolve_right (by simp at hlt ⊢; omega)) (.slice A1 xs.length c1)).setCell (p := ⟨bt, 1, none⟩) (fun _ => hO2) (.int .i64 xs.length)
  have hsz : ((w1.setCell ⟨bs, 0, none⟩ (.slice A1 xs.length c1)).setCell ⟨bt, 1, none⟩ (.int .i64 xs.length)).heap.size = w1.heap.size := by simp [World.setCell]
  have hrow : (Value.slice A1 xs.length c1).ownBlock ≠ some bs ∧ (Value.slice A1 xs.length c1).ownBlock ≠ some bt := by
    rcases hat with e | e
    · rw [e]; exact ⟨nb1, nb2⟩
    · rw [e]
      have h1 := hbs.lt
      have h2 := hbt.lt
      exact ⟨fun e => by injection e; omega, fun e => by injection e; omega⟩
  refine ⟨⟨.inl hO2, .inr ⟨bs, _, ?_, ht2, hs2, ?_, ?_⟩⟩, hk2⟩
  · rcases hO1 with h | h
    · exact .inl h
    · refine .inr ⟨h, ?_⟩
      rw [hsz]; exact hs1.lt
  · refine hown.kept (w' := w1.setCell ⟨bs, 0, none⟩ (.slice A1 xs.length c1)) (row := some bs) ⟨rfl, rfl, rfl, by simp [World.setCell], fun k _ hn => Below.heap_setCell _ _ _ _ (fun e => hn (by rw [e]))⟩ (.inr hrow.1) |>.kept (row := some bt) ⟨rfl, rfl, rfl, by simp [World.setCell], fun k _ hn => Below.heap_setCell _ _ _ _ (fun e => hn (by rw [e]))⟩ (.inr hrow.2)
  · intro g e
    have hlt := (hown.lt g e).2
    rcases hat with e' | e'
    · rw [e'] at e
      rcases hO3 g e with h | h
      · exact .inl h
      · exact .inr ⟨h, by rw [hsz]; exact hlt⟩
    · rw [e'] at e
      injection e with e
      refine .inr ⟨?_, by rw [hsz]; exact hlt⟩
      rw [← e]; exact hk.size

theorem write_end {w wq w1 : World} {bt bs m c1 n : Nat} {N : Int} {O : Nat → Prop} {v : Value} {A1 : Option Addr} {xs : List UInt8}
    (hk : Keep O w wq) (hbs : Blk wq bs 302 #[v]) (hbt : Blk wq bt 256 #[.pointer (some ⟨bs, 0, none⟩), .int .i64 m])
    (nb1 : v.ownBlock ≠ some bs) (nb2 : v.ownBlock ≠ some bt) (hO1 : O bs ∨ w.heap.size ≤ bs) (hO2 : O bt) (hO3 : ∀ g, v.ownBlock = some g → O g ∨ w.heap.size ≤ g)
    (hown : w1.ownsRow 0 5 1 (.slice A1 xs.length c1) xs.length (bvs xs)) (hgrow : wq.grownBy w1 v.ownBlock)
    (hat : (Value.slice A1 xs.length c1).ownBlock = v.ownBlock ∨ (Value.slice A1 xs.length c1).ownBlock = some wq.heap.size) (hn : n = xs.length) (hN : N = xs.length) :
    TapeAt ((w1.setCell ⟨bs, 0, none⟩ (.slice A1 n c1)).setCell ⟨bt, 1, none⟩ (.int .i64 N)) bt
      (More O w ((w1.setCell ⟨bs, 0, none⟩ (.slice A1 n c1)).setCell ⟨bt, 1, none⟩ (.int .i64 N))) xs ∧
    Keep O w ((w1.setCell ⟨bs, 0, none⟩ (.slice A1 n c1)).setCell ⟨bt, 1, none⟩ (.int .i64 N)) := by
  subst hn hN
  exact write_done hk hbs hbt nb1 nb2 hO1 hO2 hO3 hown hgrow hat

set_option maxRecDepth 100000 in
set_option maxHeartbeats 2000000 in
theorem write_any (w : World) (bt : Nat) (O : Nat → Prop) (l b : List UInt8) (A : Option Addr) (c : Nat) (h : TapeAt w bt O l) (hr : Rd w A b) (hA : ∀ ad, A = some ad → ¬ O ad.block)
    (hb : l.length + b.length ≤ 140737488355328) :
    Calls Tryz.prog 220 #[.pointer (some ⟨bt, 0, none⟩), .slice A b.length c] w fun e w' => e = .returned (.pointer (some ⟨bt, 0, none⟩)) ∧ TapeAt w' bt (More O w w') (l ++ b) ∧ Keep O w w' := by
  rcases h.2 with ⟨hbt, rfl⟩ | ⟨bs, v, hO, hbt, hbs, hv⟩
  · have c0' := hbt.cell 0
    have c1' := hbt.cell 1
    have f0' := hbt.frozen 0
    simp at c0' c1'
    go_enter Tryz.func220, Tryz.ntmps220
    go_wp2
    go_quiet (fail)
    obtain ⟨wq, hwq⟩ : ∃ wq, w.drewN nq = wq := ⟨_, rfl⟩
    rw [hwq]
    have hkq : Keep NoB w wq := hwq ▸ (Keep.refl NoB w).drewN nq
    have htq : TapeAt wq bt O [] := h.keep hkq (fun _ _ => id)
    clear hwq
    have hbq : Blk wq bt 256 #[.pointer none, .int .i64 0] := hbt.keep hkq id
    have hrq : Rd wq A b := hr.keep hkq (fun _ _ _ => id)
    have hkq' : Keep O w wq := hkq.mono (fun _ hf _ => hf.elim)
    clear hkq
    go_wp2_with (go_at_call 172; refine (all_any wq bt O [] htq (by simp)).mono ?_; rintro e w1 ⟨v, rfl, hv1, hk1⟩; obtain ⟨A0, c0, rfl, hA0⟩ := hv1.form; have hb1 : Blk w1 bt 256 #[.pointer none, .int .i64 0] := hbq.keep hk1 id; have ht1 := hb1.cell 0; have ht2 := hb1.frozen 0; have hlt := hb1.lt; simp at ht1)
    have e3 : (w1.setCell ⟨bt, 0, none⟩ (.pointer (some ⟨w1.heap.size, 0, none⟩))).heap.size = w1.heap.size := by simp [World.setCell]
    have hs3 := Blk.new (w1.setCell ⟨bt, 0, none⟩ (.pointer (some ⟨w1.heap.size, 0, none⟩))) 302 #[.slice A0 0 c0]
    rw [e3] at hs3
    have hb3 := (hb1.put 0 (.pointer (some ⟨w1.heap.size, 0, none⟩))).alloc (.cells #[.slice A0 0 c0] 302)
    have hrow3 := World.ownsRow.alloc (ownsRow_keep (O := fun k => k = bt) hv1.1 ((Keep.refl (fun k => k = bt) _).setCell (p := ⟨bt, 0, none⟩) (fun _ => rfl) (.pointer (some ⟨w1.heap.size, 0, none⟩))) (fun g e hg => hv1.not_blk hb1 (by decide) (hg ▸ e))) (.cells #[.slice A0 0 c0] 302)
    have hk3 : Keep O w ((w1.setCell ⟨bt, 0, none⟩ (.pointer (some ⟨w1.heap.size, 0, none⟩))).alloc (.cells #[.slice A0 0 c0] 302)) :=
      ((hkq'.trans hk1 (fun _ hf _ => hf.elim)).setCell (p := ⟨bt, 0, none⟩) (fun _ => h.1) _).alloc _
    have hr3 : Rd ((w1.setCell ⟨bt, 0, none⟩ (.pointer (some ⟨w1.heap.size, 0, none⟩))).alloc (.cells #[.slice A0 0 c0] 302)) A b := hr.keep hk3 (fun ad e _ => hA ad e)
    have hsz : w.heap.size ≤ w1.heap.size := Nat.le_trans hkq'.size hk1.size
    have hO3 : ∀ g, (Value.slice A0 0 c0).ownBlock = some g → O g ∨ w.heap.size ≤ g := fun g e => .inr (Nat.le_trans hkq'.size (hv1.2 g e))
    have nb2 := hv1.not_blk hb1 (by decide)
    have nb1 : (Value.slice A0 0 c0).ownBlock ≠ some w1.heap.size := fun e => by have := (hv1.1.lt _ e).2; omega
    obtain ⟨bs, hbs⟩ : ∃ bs, w1.heap.size = bs := ⟨_, rfl⟩
    obtain ⟨W, hW⟩ : ∃ W, ((w1.setCell ⟨bt, 0, none⟩ (.pointer (some ⟨w1.heap.size, 0, none⟩))).alloc (.cells #[.slice A0 0 c0] 302)) = W := ⟨_, rfl⟩
    rw [hbs] at hW hs3 hb3 hrow3 hk3 hr3 hsz nb1 ⊢
    rw [hW] at hs3 hb3 hrow3 hk3 hr3 ⊢
    clear hW hbs e3 ht1 ht2 hlt hb1 hk1 hv1 hA0 hkq' hbq hrq htq
    have cs3 := hs3.cell 0
    have fs3 := hs3.frozen 0
    have ct3 := hb3.cell 0
    simp at cs3 ct3
    have hbb : (⟨bs, 0, none⟩ : Addr) ≠ ⟨bt, 0, none⟩ := fun e => by
      have : bs = bt := by injection e
      exact Blk.ne hs3 hb3 (by decide) this
    go_region_law ((refine step_append_rd _ (by rfl) _ _ (by rfl) (.slice A0 0 c0) [] b A c (by rfl) (by exact hrow3) (by rfl) (by exact hr3) hb ?_; intro A1 c1 w1 hown1 hgrow hat; have hs1 := Blk.grown (w' := w1) (by exact hs3) hgrow (Ne.symm nb1); have ht1 := Blk.grown (w' := w1) (by exact hb3) hgrow (Ne.symm nb2); have cs1 := hs1.cell 0; have fs1 := hs1.frozen 0; have ct1 := ht1.cell 0; have ct2 := ht1.cell 1; have ft1 := ht1.frozen 1; simp at cs1 ct1 ct2))
    all_goals go_wp2
    all_goals go_ret
    all_goals exact ⟨rfl, write_end (m := 0) (v := .slice A0 0 c0) (xs := [] ++ b) hk3.drew (by exact hs3) (by exact hb3) nb1 nb2 (.inr hsz) h.1 hO3 hown1 hgrow hat (by simp) (by simp)⟩
  · obtain ⟨A0, c0, rfl, hc, hr0, hA0, hm⟩ := hv.form
    have c0' := hbt.cell 0
    have c1' := hbt.cell 1
    have c2' := hbs.cell 0
    simp at c0' c1' c2'
    unfold maxLen at hm
    have hne : ((l.length : Int) != (l.length : Int)) = false := by simp
    go_enter Tryz.func220, Tryz.ntmps220
    go_wp2
    go_quiet (fail)
    go_wp2
    have hrow := hv.1
    have nb1 := hv.not_blk hbs (by decide)
    have nb2 := hv.not_blk hbt (by decide)
    have hbb : (⟨bs, 0, none⟩ : Addr) ≠ ⟨bt, 0, none⟩ := fun e => by
      have : bs = bt := by injection e
      exact Blk.ne hbs hbt (by decide) this
    go_region_law ((refine step_append_rd _ (by rfl) _ _ (by rfl) (.slice A0 l.length c0) l b A c (by rfl) (by exact hrow) (by rfl) (by exact hr) hb ?_; intro A1 c1 w1 hown1 hgrow hat; have hs1 := Blk.grown (w' := w1) (by exact hbs) hgrow (Ne.symm nb1); have ht1 := Blk.grown (w' := w1) (by exact hbt) hgrow (Ne.symm nb2); have cs1 := hs1.cell 0; have fs1 := hs1.frozen 0; have ct1 := ht1.cell 0; have ct2 := ht1.cell 1; have ft1 := ht1.frozen 1; simp at cs1 ct1 ct2))
    all_goals go_wp2
    all_goals go_ret
    all_goals exact ⟨rfl, write_end (m := l.length) (v := .slice A0 l.length c0) (xs := l ++ b) ((Keep.refl O w).drewN _) (by exact hbs) (by exact hbt) nb1 nb2 (.inl hO) h.1 (fun g e => .inl (hv.2 g e)) hown1 hgrow hat (by simp) (by simp)⟩

end Go.Proofs.YtifobiajjhknbaaGreatDoor.V

namespace Go.Proofs.YtifobiajjhknbaaGreatDoor.V
open Go.RowKit

theorem encL_len (n : Nat) : (encL n).length ≤ 9 := by
  unfold encL; have := encF_len n (down 9); simpa [down] using this

theorem More.trans {O : Nat → Prop} {w w1 w2 : World} (h : w.heap.size ≤ w1.heap.size) : ∀ k, More O w1 w2 k → k < w2.heap.size → More O w w2 k := by
  rintro k (h1 | ⟨h1, h2⟩) _
  · exact .inl h1
  · exact .inr ⟨by omega, h2⟩

theorem encode_own (n : Nat) (w : World) :
    Calls Tryz.prog 221 #[.int .u64 n] w fun e w' => ∃ v, e = .returned v ∧ OwnB w' (Fresh w) v (encL n) ∧ Keep NoB w w' := by
  refine (encode_any n w).mono ?_
  rintro e w' ⟨v, he, hrow, hb⟩
  refine ⟨v, he, ⟨⟨hrow.1, ?_⟩, fun g hg => (hrow.lt g hg).1⟩, Keep.of_below hb⟩
  rcases hrow.2 with h | ⟨g, cap, cur, h1, _, h2⟩
  · exact .inl h
  · exact .inr ⟨g, cap, cur, h1, Nat.zero_le _, h2⟩

/-- What a Tape's writing method leaves: the Tape itself, with so much more; nothing else has turned. -/
def Wrote (w : World) (bt : Nat) (O : Nat → Prop) (xs : List UInt8) (e : Ending) (w' : World) : Prop :=
  e = .returned (.pointer (some ⟨bt, 0, none⟩)) ∧ TapeAt w' bt (More O w w') xs ∧ Keep O w w'

theorem wrote_from {w w1 w' : World} {bt : Nat} {O : Nat → Prop} {xs : List UInt8} (hk : Keep O w w1) (h : TapeAt w' bt (More O w1 w') xs ∧ Keep O w1 w') :
    TapeAt w' bt (More O w w') xs ∧ Keep O w w' :=
  ⟨h.1.mono (More.trans hk.size), hk.trans h.2 (fun _ ho _ => ho)⟩

set_option maxHeartbeats 400000 in
theorem tnumber_any (w : World) (bt : Nat) (O : Nat → Prop) (l : List UInt8) (n : Nat) (h : TapeAt w bt O l) (hO : ∀ k, O k → k < w.heap.size) (hb : l.length + 9 ≤ 140737488355328) :
    Calls Tryz.prog 171 #[.pointer (some ⟨bt, 0, none⟩), .int .u64 n] w (Wrote w bt O (l ++ encL n)) := by
  have hl := encL_len n
  go_enter Tryz.func171, Tryz.ntmps171
  go_wp2_with (first | (go_at_call 221; refine (encode_own n w).mono ?_; rintro e w1 ⟨v, rfl, hv1, hk1⟩; obtain ⟨A, c, rfl, _, hr1, hA1, _⟩ := hv1.form; have h1 : TapeAt w1 bt O l := h.keep hk1 (fun _ _ => id)) | (go_at_call 220; refine (write_any w1 bt O l (encL n) A c h1 hr1 (fun ad e ho => by have := hO _ ho; have := (hA1 ad e).1; unfold Fresh at this; omega) (by omega)).mono ?_; rintro e w2 ⟨rfl, h2⟩))
  go_ret
  exact ⟨rfl, wrote_from (hk1.mono (fun _ hf _ => hf.elim)) h2⟩

set_option maxHeartbeats 400000 in
theorem tsigned_any (w : World) (bt : Nat) (O : Nat → Prop) (l : List UInt8) (n : Int) (h1 : -9223372036854775808 ≤ n) (h2 : n ≤ 9223372036854775807) (h : TapeAt w bt O l) (hO : ∀ k, O k → k < w.heap.size) (hb : l.length + 9 ≤ 140737488355328) :
    Calls Tryz.prog 242 #[.pointer (some ⟨bt, 0, none⟩), .int .i64 n] w (Wrote w bt O (l ++ encL (zig n))) := by
  go_enter Tryz.func242, Tryz.ntmps242
  go_wp2_with (first | (go_at_call 253; refine (zig_any n _ h1 h2).mono ?_; rintro e w1 ⟨rfl, rfl⟩) | (go_at_call 171; refine (tnumber_any w bt O l (zig n) h hO hb).mono ?_; rintro e w2 ⟨rfl, h3⟩))
  go_ret
  exact ⟨rfl, h3⟩

/-- Bytes as a string. -/
abbrev str (l : List UInt8) : ByteArray := ⟨l.toArray⟩

theorem TapeAt.new (w : World) : TapeAt (w.alloc (.cells #[.pointer none, .int .i64 0] 256)) w.heap.size (fun k => k = w.heap.size) [] :=
  ⟨rfl, .inl ⟨Blk.new _ _ _, rfl⟩⟩

end Go.Proofs.YtifobiajjhknbaaGreatDoor.V

namespace Go.Proofs.YtifobiajjhknbaaGreatDoor.V
open Go.RowKit

/-- The k lowest digits, the highest first. -/
def be : Nat → Nat → List UInt8
  | 0, _ => []
  | k + 1, m => UInt8.ofNat (m / 256 ^ k) :: be k m

theorem be_len : ∀ k m, (be k m).length = k
  | 0, _ => rfl
  | k + 1, m => by simp [be, be_len k m]

theorem u8_eq {x y : Nat} (h : x % 256 = y % 256) : UInt8.ofNat x = UInt8.ofNat y := by
  apply UInt8.toNat_inj.1
  rw [UInt8.toNat_ofNat', UInt8.toNat_ofNat']
  exact h

theorem be_add : ∀ k m c, be k (m + c * 256 ^ k) = be k m
  | 0, _, _ => rfl
  | k + 1, m, c => by
    have e : m + c * 256 ^ (k + 1) = m + (c * 256) * 256 ^ k := by rw [Nat.pow_succ]; ac_rfl
    simp only [be]
    rw [e, be_add k m (c * 256), Nat.add_mul_div_right _ _ (Nat.pow_pos (by omega))]
    congr 1
    exact u8_eq (by omega)
/-- A number with its mark. -/
def nb (n : Nat) : Nat := mk (wd n) * 256 ^ (wd n - 1) + n

theorem or_add (i x y : Nat) (hx : x < 2 ^ i) (hy : y % 2 ^ i = 0) : x ||| y = y + x := by
  rw [Nat.or_comm]; exact nat_join i y x hy hx

theorem head_eq (x y m i : Nat) (hx : x < 2 ^ i) (hm : m % 2 ^ i = 0) (hs : m + x < 256) (hy : y % 256 = m + x) : UInt8.ofNat x ||| UInt8.ofNat m = UInt8.ofNat y := by
  apply UInt8.toNat_inj.1
  rw [UInt8.toNat_or, UInt8.toNat_ofNat', UInt8.toNat_ofNat', UInt8.toNat_ofNat', Nat.mod_eq_of_lt (show x < 2 ^ 8 by omega), Nat.mod_eq_of_lt (show m < 2 ^ 8 by omega), or_add i x m hx hm]
  exact hy.symm

theorem mk_vals : mk 1 = 0 ∧ mk 2 = 128 ∧ mk 3 = 192 ∧ mk 4 = 224 ∧ mk 5 = 240 ∧ mk 6 = 248 ∧ mk 7 = 252 ∧ mk 8 = 254 ∧ mk 9 = 255 := by decide

theorem encL_be (n : Nat) (hn : n < 18446744073709551616) : encL n = be (wd n) (nb n) := by
  obtain ⟨m1, m2, m3, m4, m5, m6, m7, m8, m9⟩ := mk_vals
  have hw1 := wd_pos n
  have hw9 := wd_le n
  have hlt := wd_lt n
  have hc : wd n = 1 ∨ wd n = 2 ∨ wd n = 3 ∨ wd n = 4 ∨ wd n = 5 ∨ wd n = 6 ∨ wd n = 7 ∨ wd n = 8 ∨ wd n = 9 := by omega
  have ed : down 9 = [8, 7, 6, 5, 4, 3, 2, 1, 0] := by decide
  unfold encL encF nb
  rw [ed]
  rcases hc with h | h | h | h | h | h | h | h | h
  all_goals
    rw [h] at hlt
    simp [encB, dgt, be, h, m1, m2, m3, m4, m5, m6, m7, m8, m9]
  · exact u8_eq (by omega)
  all_goals
    repeat' apply And.intro
  all_goals first
    | exact u8_eq (by omega)
    | exact head_eq _ _ 128 6 (by omega) (by decide) (by omega) (by omega)
    | exact head_eq _ _ 192 5 (by omega) (by decide) (by omega) (by omega)
    | exact head_eq _ _ 224 4 (by omega) (by decide) (by omega) (by omega)
    | exact head_eq _ _ 240 3 (by omega) (by decide) (by omega) (by omega)
    | exact head_eq _ _ 248 2 (by omega) (by decide) (by omega) (by omega)
    | exact head_eq _ _ 252 1 (by omega) (by decide) (by omega) (by omega)
    | exact head_eq _ _ 254 0 (by omega) (by decide) (by omega) (by omega)
    | exact head_eq _ _ 255 0 (by omega) (by decide) (by omega) (by omega)

theorem encL_length (n : Nat) (hn : n < 18446744073709551616) : (encL n).length = wd n := by rw [encL_be n hn, be_len]

/-- The first byte, as a number. -/
def hd (n : Nat) : Nat := mk (wd n) + n / 256 ^ (wd n - 1)

end Go.Proofs.YtifobiajjhknbaaGreatDoor.V

namespace Go.Proofs.YtifobiajjhknbaaGreatDoor.V
open Go.RowKit

/-- Bytes gathered onto a number, as add does. -/
def acc (s : Nat) (l : List UInt8) : Nat := l.foldl (fun s d => s * 256 % 18446744073709551616 + d.toNat) s
theorem acc_snoc (s : Nat) (l : List UInt8) (d : UInt8) : acc s (l ++ [d]) = acc s l * 256 % 18446744073709551616 + d.toNat := by simp [acc]
theorem add_form (s d : Nat) (hd : d < 256) :
    bits .or .u64 (IntKind.u64.wrap ((s : Int) * 256)) (d : Int) = ((s * 256 % 18446744073709551616 + d : Nat) : Int) := by
  have e : IntKind.u64.wrap ((s : Int) * 256) = ((s * 256 % 18446744073709551616 : Nat) : Int) := by rw [IntKind.wrap_u64]; omega
  rw [e, u64_or_nat _ _ (by omega) (by omega), nat_join 8 _ _ (by omega) (by omega)]

set_option maxRecDepth 100000 in
set_option maxHeartbeats 1000000 in
theorem add_any (w : World) (sb n0 : Nat) (A : Option Addr) (b : List UInt8) (c : Nat) (hs : Blk w sb 344 #[.int .u64 n0]) (hr : Rd w A b) (hA : ∀ ad, A = some ad → ad.block ≠ sb) (hlen : b.length ≤ 140737488355328) :
    Calls Tryz.prog 251 #[.pointer (some ⟨sb, 0, none⟩), .slice A b.length c] w fun e w' => e = .returned (.tuple #[]) ∧ Blk w' sb 344 #[.int .u64 (acc n0 b)] ∧ Keep (fun k => k = sb) w w' := by
  go_enter Tryz.func251, Tryz.ntmps251
  go_wp2
  go_loopw [8] (fun i wr => ∃ k : Nat, k ≤ b.length ∧ i = .int .i64 k ∧ Blk wr sb 344 #[.int .u64 (acc n0 (b.take k))] ∧ Keep (fun k => k = sb) w wr) (fun i _ => b.length - (intOf i).toNat)
  case atStart => exact ⟨0, Nat.zero_le _, rfl, by simpa [acc] using hs, Keep.refl _ _⟩
  case round =>
    obtain ⟨k, hk, rfl, hsr, hkr⟩ := hrel
    by_cases hlt : k < b.length
    · obtain ⟨ad, rfl, hc⟩ := hr (by omega)
      have hcell : wr.cell? (ad.add k) = some (.int .u8 ((b[k]).toNat : Int)) := hkr.cell (hc k _ (by simp [hlt])) (by rw [block_add]; exact hA ad rfl)
      have cs := hsr.cell 0
      have fs := hsr.frozen 0
      simp at cs
      have hd : (b[k]).toNat < 256 := (b[k]).toNat_lt
      have HF := Lib.hid (add_form (acc n0 (b.take k)) (b[k]).toNat hd)
      have HT : Hid (acc n0 (b.take (k + 1)) = acc n0 (b.take k) * 256 % 18446744073709551616 + (b[k]).toNat) := by
        show acc n0 (b.take (k + 1)) = _
        rw [List.take_succ_eq_append_getElem hlt, acc_snoc]
      generalize acc n0 (b.take k) = s at *
      generalize hdd : (b[k]).toNat = d at *
      clear hdd
      go_wp2
      go_roundw
      case rel =>
        refine ⟨k + 1, by omega, by go_num, ?_, hkr.setCell (p := ⟨sb, 0, none⟩) (fun _ => rfl) _⟩
        rw [HT.out, ← HF.out]
        exact hsr.put 0 _
      case measure => simp [intOf]; omega
    · obtain rfl : k = b.length := by omega
      go_wp2
      go_end0
      exact ⟨rfl, by simpa using hsr, hkr⟩

/-- The width that a first byte tells. -/
def td (b : Nat) : Nat := if b < 128 then 1 else if b < 192 then 2 else if b < 224 then 3 else if b < 240 then 4 else if b < 248 then 5 else if b < 252 then 6 else if b < 254 then 7 else if b < 255 then 8 else 9

theorem td_form (b : Nat) (h : b < 256) : 8 - (Lib.bitLen (255 - b) : Int) + 1 = (td b : Int) := by
  have : ∀ b : Fin 256, 8 - (Lib.bitLen (255 - b.1) : Int) + 1 = (td b.1 : Int) := by decide +kernel
  exact this ⟨b, h⟩

theorem not_form (b : Nat) (h : b < 256) : bits .xor .u8 IntKind.u8.max (b : Int) = ((255 - b : Nat) : Int) := by
  have e : IntKind.u8.max = ((255 : Nat) : Int) := by decide
  rw [e, u8_xor_nat 255 b (by omega) h]
  have h2 : ∀ b : Fin 256, 255 ^^^ b.1 = 255 - b.1 := by decide +kernel
  exact congrArg _ (h2 ⟨b, h⟩)

theorem told_any (b : Nat) (w : World) (h : b < 256) :
    Calls Tryz.prog 252 #[.int .u8 b] w fun e w' => e = .returned (.int .i64 (td b)) ∧ w = w' := by
  have hf := Lib.hid (td_form b h)
  have hsg : IntKind.u8.signed = false := rfl
  have hx := Lib.hid (not_form b h)
  go_enter Tryz.func252, Tryz.ntmps252
  go_wp2_with fail
  rw [hx.out]
  refine (Tryz.bits_LeadingZeros8 _ _ (by omega) (by omega)).mono ?_
  rintro e w1 ⟨rfl, rfl⟩
  rw [Int.toNat_natCast]
  have hb1 : (Lib.bitLen (255 - b) : Int) ≤ 8 := by
    have h1 := hf.out
    have h2 : 1 ≤ td b := by unfold td; repeat' split
                             all_goals omega
    omega
  go_wp2
  go_ret
  exact ⟨ret_int hf.out, rfl⟩

end Go.Proofs.YtifobiajjhknbaaGreatDoor.V

namespace Go.Proofs.YtifobiajjhknbaaGreatDoor.V
open Go.RowKit

/-- Bytes as a number, the highest first. -/
def vl (l : List UInt8) : Nat := l.foldl (fun s d => s * 256 + d.toNat) 0
theorem foldl_add (l : List UInt8) : ∀ s, l.foldl (fun s d => s * 256 + d.toNat) s = s * 256 ^ l.length + vl l := by
  induction l with
  | nil => intro s; simp [vl]
  | cons d l ih =>
    intro s
    have h0 := ih (s * 256 + d.toNat)
    have h1 : vl (d :: l) = d.toNat * 256 ^ l.length + vl l := by
      have := ih (0 * 256 + d.toNat)
      simpa [vl] using this
    simp only [List.foldl_cons, List.length_cons]
    rw [h0, h1, Nat.pow_succ, Nat.add_mul]
    have e : s * 256 * 256 ^ l.length = s * (256 ^ l.length * 256) := by ac_rfl
    rw [e, Nat.add_assoc]
theorem vl_cons (d : UInt8) (l : List UInt8) : vl (d :: l) = d.toNat * 256 ^ l.length + vl l := by
  have := foldl_add l d.toNat
  simpa [vl] using this
theorem vl_lt (l : List UInt8) : vl l < 256 ^ l.length := by
  induction l with
  | nil => simp [vl]
  | cons d l ih =>
    rw [vl_cons, List.length_cons, Nat.pow_succ]
    have hd := d.toNat_lt
    have : d.toNat * 256 ^ l.length + 256 ^ l.length ≤ 256 ^ l.length * 256 := by
      have h : (d.toNat + 1) * 256 ^ l.length ≤ 256 * 256 ^ l.length := Nat.mul_le_mul_right _ (by omega)
      rw [Nat.add_mul] at h
      omega
    omega
theorem mod_step (K s t d : Nat) (hK : 0 < K) (hd : d < 256) (h : s = t % (K * 256)) : s * 256 % (K * 256) + d = (t * 256 + d) % (K * 256) := by
  have e1 : s * 256 % (K * 256) = (s % K) * 256 := Nat.mul_mod_mul_right 256 s K
  have e3 : s % K = t % K := by rw [h, Nat.mod_mul_right_mod]
  have hr := Nat.mod_lt t hK
  have e2 : t * 256 + d = ((t % K) * 256 + d) + (t / K) * (K * 256) := by
    have := Nat.mod_add_div' t K
    have e : (t / K) * (K * 256) = (t / K * K) * 256 := by ac_rfl
    rw [e]
    generalize t / K * K = q at *
    omega
  have hlt : (t % K) * 256 + d < K * 256 := by
    have : (t % K + 1) * 256 ≤ K * 256 := Nat.mul_le_mul_right _ hr
    omega
  rw [e1, e3, e2, Nat.add_mul_mod_self_right, Nat.mod_eq_of_lt hlt]
theorem acc_fold (l : List UInt8) : ∀ s t, s = t % 18446744073709551616 → l.foldl (fun s d => s * 256 % 18446744073709551616 + d.toNat) s = l.foldl (fun s d => s * 256 + d.toNat) t % 18446744073709551616 := by
  induction l with
  | nil => intro s t h; exact h
  | cons d l ih =>
    intro s t h
    exact ih _ _ (mod_step 72057594037927936 s t d.toNat (by omega) (by simpa using d.toNat_lt) h)
theorem acc_vl (l : List UInt8) : acc 0 l = vl l % 18446744073709551616 := acc_fold l 0 0 rfl

theorem be_vl (l : List UInt8) : be l.length (vl l) = l := by
  induction l with
  | nil => rfl
  | cons d l ih =>
    have hlt := vl_lt l
    simp only [List.length_cons, be]
    rw [vl_cons, Nat.add_comm, Nat.add_mul_div_right _ _ (Nat.pow_pos (by omega)), Nat.div_eq_of_lt hlt, be_add, ih, Nat.zero_add]
    simp
/-- The number that w bytes tell, the mark taken off. -/
def dc (w : Nat) (l : List UInt8) : Nat := vl l - mk w * 256 ^ (w - 1)

theorem td_rng (b : Nat) (h : b < 256) : 1 ≤ td b ∧ td b ≤ 9 ∧ mk (td b) ≤ b ∧ b - mk (td b) < 2 ^ (8 - td b) ∧ (b - mk (td b)) % 2 ^ (8 - td b) = b - mk (td b) ∧ mk (td b) % 2 ^ (8 - td b) = 0 := by
  have : ∀ b : Fin 256, 1 ≤ td b.1 ∧ td b.1 ≤ 9 ∧ mk (td b.1) ≤ b.1 ∧ b.1 - mk (td b.1) < 2 ^ (8 - td b.1) ∧ (b.1 - mk (td b.1)) % 2 ^ (8 - td b.1) = b.1 - mk (td b.1) ∧ mk (td b.1) % 2 ^ (8 - td b.1) = 0 := by decide +kernel
  exact this ⟨b, h⟩

/-- w bytes whose first one tells w. -/
theorem vl_split (b : UInt8) (l : List UInt8) (w : Nat) (hw : w = td b.toNat) (hl : l.length + 1 = w) : vl (b :: l) = mk w * 256 ^ (w - 1) + dc w (b :: l) ∧ dc w (b :: l) < 18446744073709551616 ∧ (w < 9 → dc w (b :: l) < 2 ^ (7 * w)) := by
  have hb := b.toNat_lt
  obtain ⟨h1, h9, hm, hr, _, _⟩ := td_rng b.toNat (by simpa using hb)
  rw [← hw] at h1 h9 hm hr
  have hlt := vl_lt l
  have hlen : l.length = w - 1 := by omega
  rw [hlen] at hlt
  have hge : mk w * 256 ^ (w - 1) ≤ vl (b :: l) := by
    rw [vl_cons, hlen]
    exact Nat.le_trans (Nat.mul_le_mul_right _ hm) (Nat.le_add_right _ _)
  have hsub : dc w (b :: l) = (b.toNat - mk w) * 256 ^ (w - 1) + vl l := by
    unfold dc
    rw [vl_cons, hlen, Nat.sub_mul]
    have := Nat.mul_le_mul_right (256 ^ (w - 1)) hm
    omega
  refine ⟨by unfold dc; omega, ?_, ?_⟩
  · rw [hsub]
    obtain ⟨r, hr'⟩ : ∃ r, r = b.toNat - mk w := ⟨_, rfl⟩
    rw [← hr'] at hr ⊢
    have hc : w = 1 ∨ w = 2 ∨ w = 3 ∨ w = 4 ∨ w = 5 ∨ w = 6 ∨ w = 7 ∨ w = 8 ∨ w = 9 := by omega
    clear hsub hge hw hl hlen hm
    rcases hc with rfl | rfl | rfl | rfl | rfl | rfl | rfl | rfl | rfl <;> simp only [Nat.reduceSub, Nat.reducePow] at hr hlt ⊢ <;> omega
  · intro hw9
    rw [hsub]
    obtain ⟨r, hr'⟩ : ∃ r, r = b.toNat - mk w := ⟨_, rfl⟩
    rw [← hr'] at hr ⊢
    have hc : w = 1 ∨ w = 2 ∨ w = 3 ∨ w = 4 ∨ w = 5 ∨ w = 6 ∨ w = 7 ∨ w = 8 := by omega
    clear hsub hge hw hl hlen hm
    rcases hc with rfl | rfl | rfl | rfl | rfl | rfl | rfl | rfl <;> simp only [Nat.reduceSub, Nat.reducePow, Nat.reduceMul] at hr hlt ⊢ <;> omega

/-- The width of what w bytes tell is w at most; it is w just if they are that number's bytes. -/
theorem dc_width (b : UInt8) (l : List UInt8) (w : Nat) (hw : w = td b.toNat) (hl : l.length + 1 = w) : wd (dc w (b :: l)) ≤ w ∧ (wd (dc w (b :: l)) = w ↔ encL (dc w (b :: l)) = b :: l) := by
  obtain ⟨h1, h2, h3⟩ := vl_split b l w hw hl
  have hb := b.toNat_lt
  have h9 := (td_rng b.toNat (by simpa using hb)).2.1
  rw [← hw] at h9
  have hle : wd (dc w (b :: l)) ≤ w := by
    rcases Nat.lt_or_ge w 9 with h | h
    · rcases Nat.lt_or_ge w (wd (dc w (b :: l))) with h' | h'
      · have := wd_min _ w h' (by omega)
        have := h3 h
        omega
      · exact h'
    · have := wd_le (dc w (b :: l)); omega
  refine ⟨hle, fun h => ?_, fun h => ?_⟩
  · rw [encL_be _ h2]
    unfold nb
    rw [h, ← h1]
    have := be_vl (b :: l)
    rw [List.length_cons, hl] at this
    exact this
  · have := encL_length _ h2
    rw [h, List.length_cons] at this
    omega

/-- What comes next: the number, its width, the error. -/
def nx (l : List UInt8) : Nat × Nat × Nat :=
  match l with
  | [] => (0, 0, 10)
  | b :: r => if r.length + 1 < td b.toNat then (0, 0, 10) else
      if wd (dc (td b.toNat) ((b :: r).take (td b.toNat))) < td b.toNat then (0, 0, 11) else (dc (td b.toNat) ((b :: r).take (td b.toNat)), td b.toNat, 0)

theorem nx_cons (b : UInt8) (r : List UInt8) : nx (b :: r) = if r.length + 1 < td b.toNat then (0, 0, 10) else
      if wd (dc (td b.toNat) ((b :: r).take (td b.toNat))) < td b.toNat then (0, 0, 11) else (dc (td b.toNat) ((b :: r).take (td b.toNat)), td b.toNat, 0) := rfl

theorem andnot_disj (M D k : Nat) (hD : D < 2 ^ k) (hM : M % 2 ^ k = 0) (h64 : M < 2 ^ 64) (hk : k ≤ 64) : (M + D) &&& (2 ^ 64 - (M + 1)) = D := by
  rw [← or_add k D M hD hM]
  apply Nat.eq_of_testBit_eq
  intro i
  rw [Nat.testBit_and, Nat.testBit_or, Nat.testBit_two_pow_sub_succ h64]
  obtain ⟨q, hq⟩ : ∃ q, M = 2 ^ k * q := ⟨M / 2 ^ k, by have := Nat.div_add_mod M (2 ^ k); omega⟩
  by_cases hi : i < k
  · have h1 : M.testBit i = false := by rw [hq, Nat.testBit_two_pow_mul]; simp; omega
    rw [h1]
    simp; omega
  · have h2 : D.testBit i = false := Nat.testBit_lt_two_pow (Nat.lt_of_lt_of_le hD (Nat.pow_le_pow_right (by omega) (by omega)))
    rw [h2]
    cases M.testBit i <;> simp

theorem p256 (k : Nat) : (256 : Nat) ^ k = 2 ^ (8 * k) := by rw [Nat.pow_mul]

theorem mk_mult (t : Nat) (h1 : 1 ≤ t) (h9 : t < 9) : mk t * 2 ^ (8 * (t - 1)) % 2 ^ (7 * t) = 0 ∧ mk t * 2 ^ (8 * (t - 1)) < 2 ^ 64 := by
  have : ∀ t : Fin 9, 1 ≤ t.1 → mk t.1 * 2 ^ (8 * (t.1 - 1)) % 2 ^ (7 * t.1) = 0 ∧ mk t.1 * 2 ^ (8 * (t.1 - 1)) < 2 ^ 64 := by decide +kernel
  exact this ⟨t, h9⟩ h1

theorem nx_form (b : UInt8) (r : List UInt8) (t : Nat) (hw : td b.toNat = t) (hl : t ≤ r.length + 1) :
    bits .andNot .u64 ((acc 0 ((b :: r).take t) : Nat) : Int) (IntKind.u64.wrap ((mk t : Int) * 2 ^ (8 * (t - 1)))) = ((dc t ((b :: r).take t) : Nat) : Int) := by
  have hb := b.toNat_lt
  obtain ⟨h1, h9, _⟩ := td_rng b.toNat (by simpa using hb)
  rw [hw] at h1 h9
  obtain ⟨k, rfl⟩ : ∃ k, t = k + 1 := ⟨t - 1, by omega⟩
  rw [List.take_succ_cons]
  have hlen : (r.take k).length + 1 = k + 1 := by simp; omega
  obtain ⟨e1, e2, e3⟩ := vl_split b (r.take k) (k + 1) hw.symm hlen
  rw [acc_vl]
  generalize dc (k + 1) (b :: r.take k) = D at *
  generalize vl (b :: r.take k) = V at *
  rw [p256] at e1
  rcases Nat.lt_or_ge (k + 1) 9 with h | h
  · obtain ⟨m1, m2⟩ := mk_mult (k + 1) h1 h
    have hD := e3 h
    generalize hM : mk (k + 1) * 2 ^ (8 * (k + 1 - 1)) = M at *
    have hc : ((mk (k + 1) : Nat) : Int) * 2 ^ (8 * (k + 1 - 1)) = (M : Int) := by rw [← hM]; push_cast; rfl
    rw [hc]
    have hw64 : IntKind.u64.wrap (M : Int) = (M : Int) := by rw [IntKind.wrap_u64]; omega
    have hV : V < 18446744073709551616 := by
      have hp : 2 ^ (7 * (k + 1)) ≤ 2 ^ 56 := Nat.pow_le_pow_right (by omega) (by omega)
      have hx : M ≤ 2 ^ 64 - 2 ^ 56 := by
        rw [← hM]
        have : ∀ t : Fin 9, 1 ≤ t.1 → mk t.1 * 2 ^ (8 * (t.1 - 1)) ≤ 2 ^ 64 - 2 ^ 56 := by decide +kernel
        exact this ⟨k + 1, h⟩ h1
      omega
    rw [hw64, Nat.mod_eq_of_lt hV, u64_andNot_nat _ _ hV (by omega), e1]
    congr 1
    rw [show 18446744073709551615 - M = 2 ^ 64 - (M + 1) by omega]
    exact andnot_disj M D (7 * (k + 1)) hD m1 m2 (by omega)
  · obtain rfl : k = 8 := by omega
    have m9 : mk 9 = 255 := mk_vals.2.2.2.2.2.2.2.2
    have hw64 : IntKind.u64.wrap (((mk (8 + 1) : Nat) : Int) * 2 ^ (8 * (8 + 1 - 1))) = ((0 : Nat) : Int) := by
      show IntKind.u64.wrap (((mk 9 : Nat) : Int) * 2 ^ 64) = _
      rw [m9, IntKind.wrap_u64]; omega
    rw [hw64, u64_andNot_nat _ _ (Nat.mod_lt _ (by omega)) (by omega)]
    congr 1
    have e4 : V % 18446744073709551616 = D := by
      rw [e1]
      show (mk 9 * 2 ^ 64 + D) % 18446744073709551616 = D
      rw [m9]; omega
    rw [e4]
    have := andnot_disj 0 D 64 e2 (by omega) (by omega) (Nat.le_refl _)
    simpa using this

end Go.Proofs.YtifobiajjhknbaaGreatDoor.V

namespace Go.Proofs.YtifobiajjhknbaaGreatDoor.V
open Go.RowKit

theorem keepN {w w1 w2 : World} (h : Keep NoB w w1) (h' : Keep NoB w1 w2) : Keep NoB w w2 := h.trans h' (fun _ hf _ => hf.elim)

end Go.Proofs.YtifobiajjhknbaaGreatDoor.V

namespace Go.Proofs.YtifobiajjhknbaaGreatDoor.V
open Go.RowKit

end Go.Proofs.YtifobiajjhknbaaGreatDoor.V

namespace Go.Proofs.YtifobiajjhknbaaGreatDoor.V
open Go.RowKit

/-- A part of the bytes that a slice reads as. -/
theorem Rd.part {w : World} {A : Option Addr} {l : List UInt8} {c k m : Nat} (h : Rd w A l) (hc : l.length ≤ c) : Rd w (if c = k then A else A.map (·.add k)) ((l.drop k).take m) := fun h0 => by
  have h0' : k < l.length ∧ 0 < m := by simp at h0; omega
  obtain ⟨ad, rfl, hcell⟩ := h (by omega)
  rw [if_neg (by omega)]
  refine ⟨ad.add k, rfl, fun j u hu => ?_⟩
  rw [add_add]
  have hj : j < ((l.drop k).take m).length := by
    have := List.getElem?_eq_some_iff.1 hu
    obtain ⟨h1, _⟩ := this
    simpa using h1
  have hjl : k + j < l.length := by simp at hj; omega
  apply hcell
  rw [← hu]
  simp at hj
  simp [hj]
  exact ⟨_, List.getElem?_eq_getElem hjl, rfl⟩

/-- The address of a part is in the same block. -/
theorem part_block {A : Option Addr} {c k : Nat} {ad : Addr} (h : (if c = k then A else A.map (·.add k)) = some ad) : ∃ ad', A = some ad' ∧ ad.block = ad'.block := by
  split at h
  · exact ⟨ad, h, rfl⟩
  · cases A with
    | none => simp at h
    | some a => simp at h; exact ⟨a, rfl, by rw [← h, block_add]⟩

theorem add_at (w : World) (sb n0 : Nat) (A : Option Addr) (b : List UInt8) (c n : Nat) (hn : n = b.length) (hs : Blk w sb 344 #[.int .u64 n0]) (hr : Rd w A b) (hA : ∀ ad, A = some ad → ad.block ≠ sb) (hlen : b.length ≤ 140737488355328) :
    Calls Tryz.prog 251 #[.pointer (some ⟨sb, 0, none⟩), .slice A n c] w fun e w' => e = .returned (.tuple #[]) ∧ Blk w' sb 344 #[.int .u64 (acc n0 b)] ∧ Keep (fun k => k = sb) w w' := by
  subst hn; exact add_any w sb n0 A b c hs hr hA hlen
/-- What look leaves: too few bytes; or they were handed on. -/
def Looked (w : World) (l : List UInt8) (fr : Nat) (S : Int) (Q : List UInt8 → World → Prop) (e : Ending) (w' : World) : Prop :=
  ((l.length : Int) - fr < S ∧ e = .returned (.int .i64 10) ∧ Keep NoB w w') ∨
  (S ≤ (l.length : Int) - fr ∧ e = .returned (.int .i64 0) ∧ Q ((l.drop fr).take S.toNat) w')
/-- The sum holds the bytes; nothing else has turned. -/
def Summed (w : World) (sb n0 : Nat) (b : List UInt8) (w' : World) : Prop := Blk w' sb 344 #[.int .u64 (acc n0 b)] ∧ Keep (fun k => k = sb) w w'
set_option maxRecDepth 100000 in
set_option maxHeartbeats 1000000 in
theorem look_add (w : World) (br sb n0 at_ fr : Nat) (S : Int) (A : Option Addr) (l : List UInt8) (c : Nat) (hb : Blk w br 306 #[.slice A l.length c, .int .i64 at_]) (hr : Rd w A l) (hc : l.length ≤ c) (hA : ∀ ad, A = some ad → ad.block ≠ sb)
    (hs : Blk w sb 344 #[.int .u64 n0]) (hlen : l.length ≤ 140737488355328) (hcm : c ≤ 9223372036854775807) (hfr : fr ≤ l.length) (hS0 : 0 ≤ S) (hS1 : S ≤ 9223372036854775807) :
    Calls Tryz.prog 239 #[.pointer (some ⟨br, 0, none⟩), .int .i64 fr, .agg #[.int .i64 S, .func (.func 251) #[.pointer (some ⟨sb, 0, none⟩)] #[]]] w (Looked w l fr S (Summed w sb n0)) := by
  have c0 := hb.cell 0
  have c1 := hb.cell 1
  have hlt := hb.lt
  simp at c0 c1
  by_cases hsh : (l.length : Int) - fr < S
  · go_enter Tryz.func239, Tryz.ntmps239
    go_wp2
    go_quiet (fail)
    go_wp2
    go_ret
    exact .inl ⟨hsh, rfl, ((Keep.refl NoB w).alloc _).drewN _⟩
  · obtain ⟨s, rfl⟩ := Int.eq_ofNat_of_zero_le hS0
    have hle : (s : Int) ≤ (l.length : Int) - fr := by omega
    go_enter Tryz.func239, Tryz.ntmps239
    go_wp2
    go_quiet (fail)
    go_wp2
    obtain ⟨wq, hwq⟩ : ∃ wq, (w.alloc (.cells #[.int .i64 s, .func (.func 251) #[.pointer (some ⟨sb, 0, none⟩)] #[]] 330)).drewN nq = wq := ⟨_, rfl⟩
    rw [hwq]
    have hkq : Keep NoB w wq := hwq ▸ ((Keep.refl NoB w).alloc _).drewN nq
    have hbx : Blk wq w.heap.size 330 #[.int .i64 s, .func (.func 251) #[.pointer (some ⟨sb, 0, none⟩)] #[]] := hwq ▸ Blk.new w _ _
    clear hwq
    have hbq := hb.keep hkq id
    have hsq := hs.keep hkq id
    have hrq := (hr.keep hkq (fun _ _ _ => id)).part (c := c) (k := fr) (m := s) hc
    have q0 := hbq.cell 0
    have q1 := hbx.cell 0
    have q2 := hbx.cell 1
    simp at q0 q1 q2
    have hpl : ((l.drop fr).take s).length = s := by simp; omega
    have hA2 : ∀ ad, (if c = fr then A else A.map (·.add fr)) = some ad → ad.block ≠ sb := fun ad e => by
      obtain ⟨ad', e1, e2⟩ := part_block e
      rw [e2]; exact hA ad' e1
    have hcs : (c : Int) ≤ 9223372036854775807 := by omega
    have hs0 : (0 : Int) ≤ (fr : Int) + s := by omega
    have hs1 : (fr : Int) + s ≤ c := by omega
    have hs2 : ((fr : Int) + s).toNat = fr + s := by omega
    have hs3 : IntKind.i64.wrap ((fr : Int) + s) = (fr : Int) + s := IntWalk.i64_in _ (by omega)
    go_still_tail 12, (by kernel_rfl)
    change wpList _ _ _ _ _ wq.drew
    go_wp2_with (go_at_call 251; refine (add_at wq.drew sb n0 _ ((l.drop fr).take s) _ s hpl.symm hsq hrq hA2 (by omega)).mono ?_; rintro e w2 ⟨rfl, hs2, hk2⟩)
    all_goals go_ret
    all_goals exact .inr ⟨hle, rfl, hs2, ((hkq.mono (fun _ hf _ => hf.elim)).drew).trans hk2 (fun _ h _ => h)⟩

end Go.Proofs.YtifobiajjhknbaaGreatDoor.V

namespace Go.Proofs.YtifobiajjhknbaaGreatDoor.V
open Go.RowKit

/-- A Reel at block br that has the bytes l and the place p; all its blocks are of O. -/
def ReelAt (w : World) (br : Nat) (O : Nat → Prop) (l : List UInt8) (p : Nat) : Prop :=
  O br ∧ p ≤ l.length ∧ ∃ A c, Blk w br 306 #[.slice A l.length c, .int .i64 p] ∧ Rd w A l ∧ l.length ≤ c ∧ c ≤ maxLen ∧ ∀ ad, A = some ad → O ad.block ∧ ad.block < w.heap.size

theorem ReelAt.keep {w w' : World} {br p : Nat} {O O' : Nat → Prop} {l : List UInt8} (h : ReelAt w br O l p) (hk : Keep O' w w') (hn : ∀ k, O k → ¬ O' k) : ReelAt w' br O l p := by
  obtain ⟨h1, h2, A, c, hb, hr, hc, hm, hA⟩ := h
  exact ⟨h1, h2, A, c, hb.keep hk (hn _ h1), hr.keep hk (fun ad e _ => hn _ (hA ad e).1), hc, hm, fun ad e => ⟨(hA ad e).1, Nat.lt_of_lt_of_le (hA ad e).2 hk.size⟩⟩
theorem ReelAt.mono {w : World} {br p : Nat} {O O' : Nat → Prop} {l : List UInt8} (h : ReelAt w br O l p) (hO : ∀ k, O k → k < w.heap.size → O' k) : ReelAt w br O' l p := by
  obtain ⟨h1, h2, A, c, hb, hr, hc, hm, hA⟩ := h
  exact ⟨hO _ h1 hb.lt, h2, A, c, hb, hr, hc, hm, fun ad e => ⟨hO _ (hA ad e).1 (hA ad e).2, (hA ad e).2⟩⟩

/-- What next hands back. -/
def NxR (r : Nat × Nat × Nat) : Ending := .returned (.tuple #[.int .u64 r.1, .int .i64 r.2.1, .int .i64 r.2.2])

theorem drop_cons {l : List UInt8} {p : Nat} (h : p < l.length) : l.drop p = l[p] :: l.drop (p + 1) := List.drop_eq_getElem_cons h

set_option maxRecDepth 100000 in
set_option maxHeartbeats 1000000 in
theorem next_any (w : World) (br : Nat) (O : Nat → Prop) (l : List UInt8) (p : Nat) (h : ReelAt w br O l p) (hlen : l.length ≤ 140737488355328) :
    Calls Tryz.prog 238 #[.pointer (some ⟨br, 0, none⟩)] w fun e w' => e = NxR (nx (l.drop p)) ∧ Keep NoB w w' := by
  obtain ⟨_, hp, A, c, hb, hr, hc, hm, hA⟩ := h
  unfold maxLen at hm
  have hlt := hb.lt
  have q0 := hb.cell 0
  have q1 := hb.cell 1
  simp at q0 q1
  have hA1 : ∀ ad, A = some ad → ad.block ≠ w.heap.size := fun ad e => by have := (hA ad e).2; omega
  have hA2 : ∀ ad, A = some ad → ad.block ≠ w.heap.size + 1 := fun ad e => by have := (hA ad e).2; omega
  have hk0 : Keep NoB w ((w.alloc (.cells #[.int .u64 0] 344)).alloc (.cells #[.int .u64 0] 344)) := ((Keep.refl NoB w).alloc _).alloc _
  have hb0 := hb.keep hk0 id
  have hr0 := hr.keep hk0 (fun _ _ _ => id)
  have hs0 := (Blk.new w 344 #[.int .u64 0]).alloc (.cells #[.int .u64 0] 344)
  have hs1 := Blk.new (w.alloc (.cells #[.int .u64 0] 344)) 344 #[.int .u64 0]
  rw [World.size_alloc] at hs1
  go_enter Tryz.func238, Tryz.ntmps238
  go_wp2_with fail
  refine (look_add _ br w.heap.size 0 p p 1 A l c hb0 hr0 hc hA1 hs0 hlen hm hp (by omega) (by omega)).mono ?_
  rintro e w1 (⟨hsh, rfl, hk1⟩ | ⟨hle, rfl, hsum1, hk1⟩)
  · have hd : l.drop p = [] := List.drop_eq_nil_of_le (by omega)
    go_wp2
    go_ret3
    exact ⟨by rw [hd]; rfl, hk0.trans hk1 (fun _ hf _ => hf.elim)⟩
  · have hpl : p < l.length := by omega
    obtain ⟨b, hbd⟩ : ∃ b, b = l[p] := ⟨_, rfl⟩
    have hdc := drop_cons hpl
    rw [← hbd] at hdc
    have hb256 := b.toNat_lt
    have hsb : Blk w1 w.heap.size 344 #[.int .u64 (b.toNat : Nat)] := by
      have e : acc 0 (List.take (Int.toNat 1) (l.drop p)) = b.toNat := by rw [hdc]; simp [acc]
      rw [e] at hsum1; exact hsum1
    have hne : ¬ br = w.heap.size := by omega
    have hb1 := hb0.keep hk1 hne
    have hr1 := hr0.keep hk1 (fun ad e _ => hA1 ad e)
    have hs2 := hs1.keep hk1 (by omega)
    have hk01 := hk0.trans hk1 (fun k e hk => by omega)
    obtain ⟨m, hm'⟩ : ∃ m, w.heap.size = m := ⟨_, rfl⟩
    rw [hm'] at hsb hs2 hA2 ⊢
    have hmw : w.heap.size ≤ m := by omega
    clear hsum1 hk1 hb0 hr0 hs0 hs1 hk0 hA1 hb hr hA q0 q1 hbd hm'
    have q0 := hb1.cell 0
    have q1 := hb1.cell 1
    have q2 := hsb.cell 0
    simp at q0 q1 q2
    go_wp2_with fail
    refine (told_any b.toNat _ (by omega)).mono ?_
    rintro e w2 ⟨rfl, rfl⟩
    obtain ⟨t1, t9, _⟩ := td_rng b.toNat (by omega)
    go_wp2_with fail
    refine (look_add _ br (m + 1) 0 p p (td b.toNat) A l c hb1 hr1 hc hA2 hs2 hlen hm hp (by omega) (by omega)).mono ?_
    rintro e w2 (⟨hsh, rfl, hk2⟩ | ⟨hle2, rfl, hsum2, hk2⟩)
    · go_wp2
      go_ret3
      refine ⟨?_, (hk01.trans hk2 (fun _ hf _ => hf.elim))⟩
      have hx : nx (l.drop p) = (0, 0, 10) := by
        rw [hdc, nx_cons, if_pos (by rw [List.length_drop]; omega)]
      rw [hx]; rfl
    · have q3 := hsum2.cell 0
      simp at q3
      have hkk := hk01.trans hk2 (O := NoB) (fun k e hk => by omega)
      go_wp2_with fail
      have hmk := mk_lt (td b.toNat)
      have hq := fun (n : Nat) => Calls.quiet_of_same ((mark_any (td b.toNat) (w2.drewN n) t1 t9).mono fun e w' h => (⟨h.1, h.2.symm⟩ : e = .returned (.int .u8 (mk (td b.toNat))) ∧ w' = w2.drewN n))
      obtain ⟨t, ht⟩ : ∃ t, td b.toNat = t := ⟨_, rfl⟩
      rw [ht] at t1 t9 hmk hq hsum2 q3 hle2 ⊢
      have HT := Lib.hid ht
      clear ht
      have htl : t ≤ (l.drop (p + 1)).length + 1 := by rw [List.length_drop]; omega
      have HF := Lib.hid (nx_form b (l.drop (p + 1)) t HT.out htl)
      have e1 : IntKind.i64.wrap ((t : Int) - 1) = (t : Int) - 1 := IntWalk.i64_in _ (by omega)
      have e2 : IntKind.i64.wrap (8 * ((t : Int) - 1)) = 8 * ((t : Int) - 1) := IntWalk.i64_in _ (by omega)
      have e3 : (0 : Int) ≤ 8 * ((t : Int) - 1) := by omega
      have e4 : (8 * ((t : Int) - 1)).toNat = 8 * (t - 1) := by omega
      have e5 : IntKind.u64.wrap ((mk t : Nat) : Int) = ((mk t : Nat) : Int) := by rw [IntKind.wrap_u64]; omega
      go_quiet ((go_at_call 237; exact hq _))
      clear e1 e2 e3 e4 e5 hq
      rw [HF.out]
      generalize hD : dc t ((b :: l.drop (p + 1)).take t) = D at *
      have HD := Lib.hid hD
      clear hD
      have hnx : Hid (nx (l.drop p) = if wd D < t then (0, 0, 11) else (D, t, 0)) := by
        show nx (l.drop p) = _
        rw [hdc, nx_cons, HT.out, HD.out, if_neg (by omega)]
      go_wp2_with fail
      refine (width_any D _).mono ?_
      rintro e w3 ⟨rfl, rfl⟩
      by_cases hwd : wd D < t
      · go_wp2
        go_ret3
        exact ⟨by rw [hnx.out, if_pos hwd]; rfl, hkk.drewN _⟩
      · go_wp2
        go_ret3
        exact ⟨by rw [hnx.out, if_neg hwd]; rfl, hkk.drewN _⟩

end Go.Proofs.YtifobiajjhknbaaGreatDoor.V

namespace Go.Proofs.YtifobiajjhknbaaGreatDoor.V
open Go.RowKit

/-- The number that comes next, if it is at most so great. -/
def bnd (r : Nat × Nat × Nat) (most : Nat) : Nat × Nat × Nat := if r.2.2 ≠ 0 then (0, 0, r.2.2) else if most < r.1 then (0, 0, 12) else r

theorem nx_width (l : List UInt8) : (nx l).2.1 ≤ l.length ∧ (nx l).2.1 ≤ 9 ∧ (nx l).2.2 ≤ 11 ∧ (nx l).1 < 18446744073709551616 := by
  rcases l with _ | ⟨b, r⟩
  · simp [nx]
  · rw [nx_cons]
    have hb := b.toNat_lt
    have h9 := (td_rng b.toNat (by simpa using hb))
    split
    · simp
    · rename_i hl
      split
      · simp
      · obtain ⟨k, hk⟩ : ∃ k, td b.toNat = k + 1 := ⟨td b.toNat - 1, by omega⟩
        have h2 := (vl_split b (r.take k) (td b.toNat) rfl (by simp; omega)).2.1
        rw [hk] at h2 hl h9 ⊢
        rw [List.take_succ_cons]
        simp only [List.length_cons]
        exact ⟨by omega, by omega, by omega, h2⟩
theorem bnd_width (l : List UInt8) (most : Nat) : (bnd (nx l) most).2.1 ≤ l.length ∧ (bnd (nx l) most).2.1 ≤ 9 ∧ (bnd (nx l) most).1 < 18446744073709551616 ∧ (bnd (nx l) most).2.2 ≤ 12 := by
  have h := nx_width l
  unfold bnd
  split
  · simp; omega
  · split
    · simp
    · omega

set_option maxRecDepth 100000 in
set_option maxHeartbeats 1000000 in
theorem bounded_any (w : World) (br : Nat) (O : Nat → Prop) (l : List UInt8) (p most : Nat) (h : ReelAt w br O l p) (hlen : l.length ≤ 140737488355328) :
    Calls Tryz.prog 223 #[.pointer (some ⟨br, 0, none⟩), .int .u64 most] w fun e w' => e = NxR (bnd (nx (l.drop p)) most) ∧ Keep NoB w w' := by
  have hx := nx_width (l.drop p)
  go_enter Tryz.func223, Tryz.ntmps223
  go_wp2_with fail
  refine (next_any w br O l p h hlen).mono ?_
  rintro e w1 ⟨he, hk1⟩
  obtain ⟨⟨n, d, r⟩, hn⟩ : ∃ t, nx (l.drop p) = t := ⟨_, rfl⟩
  rw [hn] at he hx
  have HN := Lib.hid hn
  clear hn
  unfold NxR at he
  subst he
  by_cases hr : r = 0
  · have hr1 : ((r : Int) != 0) = false := by rw [bne_eq_false_iff_eq]; omega
    by_cases hm : most < n
    · go_wp2
      go_ret3
      exact ⟨by rw [HN.out]; unfold bnd NxR; simp [hr, hm], hk1⟩
    · go_wp2
      go_ret3
      exact ⟨by rw [HN.out]; unfold bnd NxR; simp [hr, hm], hk1⟩
  · have hr1 : ((r : Int) != 0) = true := by rw [bne_iff_ne]; omega
    go_wp2
    go_ret3
    exact ⟨by rw [HN.out]; unfold bnd NxR; simp [hr], hk1⟩

end Go.Proofs.YtifobiajjhknbaaGreatDoor.V

namespace Go.Proofs.YtifobiajjhknbaaGreatDoor.V
open Go.RowKit

/-- The Reel stands at another place; nothing else has turned. -/
theorem ReelAt.moved {w w1 : World} {br p : Nat} {O : Nat → Prop} {l : List UInt8} {q : Nat} {Q : Int} (h : ReelAt w br O l p) (hk : Keep NoB w w1) (hq : q ≤ l.length) (hQ : Q = q) :
    ReelAt (w1.setCell ⟨br, 1, none⟩ (.int .i64 Q)) br O l q ∧ Keep (fun k => k = br) w (w1.setCell ⟨br, 1, none⟩ (.int .i64 Q)) := by
  subst hQ
  obtain ⟨h1, h2, A, c, hb, hr, hc, hm, hA⟩ := h
  have hb1 := hb.keep hk id
  have hk2 : Keep (fun k => k = br) w (w1.setCell ⟨br, 1, none⟩ (.int .i64 q)) := (hk.mono (O' := fun k => k = br) (fun _ hf _ => hf.elim)).setCell (p := ⟨br, 1, none⟩) (fun _ => rfl) _
  refine ⟨⟨h1, hq, A, c, hb1.put 1 _, ?_, hc, hm, fun ad e => ⟨(hA ad e).1, Nat.lt_of_lt_of_le (hA ad e).2 hk2.size⟩⟩, hk2⟩
  intro h0
  obtain ⟨ad, e, hcell⟩ := hr h0
  refine ⟨ad, e, fun j u hu => ?_⟩
  have hcu := hk.cell (hcell j u hu) id
  have hne : (⟨br, 1, none⟩ : Addr) ≠ ad.add j := by
    intro e'
    rw [← e'] at hcu
    have hb2 := hb1.cell 1
    rw [hb2] at hcu
    simp at hcu
    subst hcu
    have := (List.getElem?_eq_some_iff.1 hu)
    obtain ⟨hj, hju⟩ := this
    simp at hju
  exact (World.cell?_setCell_other _ _ _ _ hne).trans hcu

/-- What Number answers, and the place behind it. -/
def NumR (l : List UInt8) (p most : Nat) : Nat × Nat × Nat := ((bnd (nx (l.drop p)) most).1, (bnd (nx (l.drop p)) most).2.2, p + (bnd (nx (l.drop p)) most).2.1)

/-- A reading method's end. -/
def Reads (w : World) (br : Nat) (O : Nat → Prop) (l : List UInt8) (q : Nat) (v : Value) (er : Nat) (e : Ending) (w' : World) : Prop :=
  e = .returned (.tuple #[v, .int .i64 er]) ∧ ReelAt w' br O l q ∧ Keep (fun k => k = br) w w'

theorem bnd_zero (l : List UInt8) (most : Nat) (h : (bnd (nx l) most).2.2 ≠ 0) : (bnd (nx l) most).1 = 0 ∧ (bnd (nx l) most).2.1 = 0 := by
  unfold bnd at h ⊢
  split
  · exact ⟨rfl, rfl⟩
  · rename_i h1
    split
    · exact ⟨rfl, rfl⟩
    · rename_i h2
      rw [if_neg h1, if_neg h2] at h
      exact absurd h h1

theorem ReelAt.cells {w : World} {br p : Nat} {O : Nat → Prop} {l : List UInt8} (h : ReelAt w br O l p) : ∃ A c, Blk w br 306 #[.slice A l.length c, .int .i64 p] ∧ Rd w A l ∧ l.length ≤ c ∧ c ≤ maxLen ∧ ∀ ad, A = some ad → O ad.block ∧ ad.block < w.heap.size := h.2.2

set_option maxRecDepth 100000 in
set_option maxHeartbeats 1000000 in
theorem rnumber_any (w : World) (br : Nat) (O : Nat → Prop) (l : List UInt8) (p most : Nat) (h : ReelAt w br O l p) (hlen : l.length ≤ 140737488355328) :
    Calls Tryz.prog 174 #[.pointer (some ⟨br, 0, none⟩), .int .u64 most] w (Reads w br O l (NumR l p most).2.2 (.int .u64 (NumR l p most).1) (NumR l p most).2.1) := by
  have hx := bnd_width (l.drop p) most
  have hz := bnd_zero (l.drop p) most
  have hp := h.2.1
  rw [List.length_drop] at hx
  have hbd := bounded_any w br O l p most h hlen
  unfold NumR
  obtain ⟨⟨n, d, r⟩, hn⟩ : ∃ t, bnd (nx (l.drop p)) most = t := ⟨_, rfl⟩
  rw [hn] at hx hz hbd ⊢
  clear hn
  dsimp only at hx hz ⊢
  unfold NxR at hbd
  dsimp only at hbd
  have HB := Lib.hid hbd
  clear hbd
  by_cases hr : r = 0
  · subst hr
    clear hz
    go_enter Tryz.func174, Tryz.ntmps174
    go_wp2_with fail
    refine HB.out.mono ?_
    rintro e w1 ⟨rfl, hk1⟩
    have h1 := h.keep hk1 (fun _ _ => id)
    obtain ⟨A, c, hb1, _⟩ := h1.cells
    have q1 := hb1.cell 1
    have f1 := hb1.frozen 1
    simp at q1
    go_wp2
    go_ret2
    exact ⟨rfl, h.moved hk1 (by omega) (by omega)⟩
  · have hr1 : ((r : Int) != 0) = true := by rw [bne_iff_ne]; omega
    obtain ⟨rfl, rfl⟩ := hz hr
    clear hz
    go_enter Tryz.func174, Tryz.ntmps174
    go_wp2_with fail
    refine HB.out.mono ?_
    rintro e w1 ⟨rfl, hk1⟩
    go_wp2
    go_ret2
    exact ⟨rfl, h.keep hk1 (fun _ _ => id), hk1.mono (fun _ hf _ => hf.elim)⟩

/-- What Signed answers, and the place behind it. -/
def SigR (l : List UInt8) (p : Nat) (lo hi : Int) : Int × Nat × Nat :=
  if (nx (l.drop p)).2.2 ≠ 0 then (0, (nx (l.drop p)).2.2, p) else if zag (nx (l.drop p)).1 < lo ∨ hi < zag (nx (l.drop p)).1 then (0, 12, p) else (zag (nx (l.drop p)).1, 0, p + (nx (l.drop p)).2.1)

set_option maxRecDepth 100000 in
set_option maxHeartbeats 1000000 in
theorem rsigned_any (w : World) (br : Nat) (O : Nat → Prop) (l : List UInt8) (p : Nat) (lo hi : Int) (h : ReelAt w br O l p) (hlen : l.length ≤ 140737488355328) :
    Calls Tryz.prog 243 #[.pointer (some ⟨br, 0, none⟩), .int .i64 lo, .int .i64 hi] w (Reads w br O l (SigR l p lo hi).2.2 (.int .i64 (SigR l p lo hi).1) (SigR l p lo hi).2.1) := by
  have hx := nx_width (l.drop p)
  have hp := h.2.1
  rw [List.length_drop] at hx
  have hnx := next_any w br O l p h hlen
  unfold SigR
  obtain ⟨⟨n, d, r⟩, hn⟩ : ∃ t, nx (l.drop p) = t := ⟨_, rfl⟩
  rw [hn] at hx hnx ⊢
  clear hn
  dsimp only at hx ⊢
  unfold NxR at hnx
  dsimp only at hnx
  have HB := Lib.hid hnx
  clear hnx
  by_cases hr : r = 0
  · subst hr
    obtain ⟨hx1, hx2, _, hn64⟩ := hx
    have hz1 := zag_ge n hn64
    have hz2 := zag_le n hn64
    have HZ := Lib.hid (fun w => zag_any n w hn64)
    clear hn64
    rw [if_neg (by simp)]
    by_cases hlo : zag n < lo
    · rw [if_pos (.inl hlo)]
      go_enter Tryz.func243, Tryz.ntmps243
      go_wp2_with fail
      refine HB.out.mono ?_
      rintro e w1 ⟨rfl, hk1⟩
      go_wp2_with fail
      refine (HZ.out _).mono ?_
      rintro e w2 ⟨rfl, rfl⟩
      go_wp2
      go_ret2
      exact ⟨rfl, h.keep hk1 (fun _ _ => id), hk1.mono (fun _ hf _ => hf.elim)⟩
    · by_cases hhi : hi < zag n
      · rw [if_pos (.inr hhi)]
        go_enter Tryz.func243, Tryz.ntmps243
        go_wp2_with fail
        refine HB.out.mono ?_
        rintro e w1 ⟨rfl, hk1⟩
        go_wp2_with fail
        refine (HZ.out _).mono ?_
        rintro e w2 ⟨rfl, rfl⟩
        go_wp2
        go_ret2
        exact ⟨rfl, h.keep hk1 (fun _ _ => id), hk1.mono (fun _ hf _ => hf.elim)⟩
      · rw [if_neg (by omega)]
        go_enter Tryz.func243, Tryz.ntmps243
        go_wp2_with fail
        refine HB.out.mono ?_
        rintro e w1 ⟨rfl, hk1⟩
        have h1 := h.keep hk1 (fun _ _ => id)
        obtain ⟨A, c, hb1, _⟩ := h1.cells
        have q1 := hb1.cell 1
        have f1 := hb1.frozen 1
        simp at q1
        go_wp2_with fail
        refine (HZ.out _).mono ?_
        rintro e w2 ⟨rfl, rfl⟩
        go_wp2
        go_ret2
        exact ⟨rfl, h.moved hk1 (by omega) (by omega)⟩
  · have hr1 : ((r : Int) != 0) = true := by rw [bne_iff_ne]; omega
    rw [if_pos hr]
    go_enter Tryz.func243, Tryz.ntmps243
    go_wp2_with fail
    refine HB.out.mono ?_
    rintro e w1 ⟨rfl, hk1⟩
    go_wp2
    go_ret2
    exact ⟨rfl, h.keep hk1 (fun _ _ => id), hk1.mono (fun _ hf _ => hf.elim)⟩

end Go.Proofs.YtifobiajjhknbaaGreatDoor.V

namespace Go.Proofs.YtifobiajjhknbaaGreatDoor.V
open Go.RowKit

/-- Bytes were taken, or there were too few of them. -/
def Taken (w : World) (br : Nat) (O : Nat → Prop) (l : List UInt8) (p fr : Nat) (S : Int) (e : Ending) (w' : World) : Prop :=
  ((l.length : Int) - fr < S ∧ e = .returned (.tuple #[.slice none 0 0, .int .i64 10]) ∧ ReelAt w' br O l p ∧ Keep NoB w w') ∨
  (S ≤ (l.length : Int) - fr ∧ ∃ A c, e = .returned (.tuple #[.slice A S.toNat c, .int .i64 0]) ∧ OwnB w' (Fresh w) (.slice A S.toNat c) ((l.drop fr).take S.toNat) ∧ ReelAt w' br O l (fr + S.toNat) ∧ Keep (fun k => k = br) w w')

theorem Taken.from {w w1 w' : World} {br : Nat} {O : Nat → Prop} {l : List UInt8} {p fr : Nat} {S : Int} {e : Ending} (hk : Keep NoB w w1) (h : Taken w1 br O l p fr S e w') : Taken w br O l p fr S e w' := by
  rcases h with ⟨h1, h2, h3, h4⟩ | ⟨h1, A, c, h2, h3, h4, h5⟩
  · exact .inl ⟨h1, h2, h3, keepN hk h4⟩
  · exact .inr ⟨h1, A, c, h2, h3.mono (fun k hk' _ => Nat.le_trans hk.size hk'), h4, hk.mono (O' := fun k => k = br) (fun _ hf _ => hf.elim) |>.trans h5 (fun k e _ => e)⟩

end Go.Proofs.YtifobiajjhknbaaGreatDoor.V

namespace Go.Proofs.YtifobiajjhknbaaGreatDoor.V
open Go.RowKit

end Go.Proofs.YtifobiajjhknbaaGreatDoor.V

namespace Go.Proofs.YtifobiajjhknbaaGreatDoor.V
open Go.RowKit

end Go.Proofs.YtifobiajjhknbaaGreatDoor.V

namespace Go.Proofs.YtifobiajjhknbaaGreatDoor.V
open Go.RowKit

end Go.Proofs.YtifobiajjhknbaaGreatDoor.V

namespace Go.Proofs.YtifobiajjhknbaaGreatDoor.S
open Go.RowKit

theorem own_rdI {w : World} {O : Nat → Prop} {v : Value} {n : Nat} {xs : List Value} (h : Own w 3 1 O v n xs) : ∃ A c, v = .slice A n c ∧ Rd w A xs := by
  obtain ⟨A, c, e, _, _, hr, _⟩ := h.form
  exact ⟨A, c, e, hr⟩

end Go.Proofs.YtifobiajjhknbaaGreatDoor.S
