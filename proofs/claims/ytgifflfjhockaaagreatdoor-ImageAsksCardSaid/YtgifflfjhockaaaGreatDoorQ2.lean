/-
  The plain mathematics of layer value: which numbers are types, which values may be, letters, a value's text and the value of a text. No program, no conditions.
  Words for memory that walks share: what a step keeps (Keep), a slice that reads as a list (Rd), one that the call owns (Own), and append. No conditions.
  Words for memory that the walks of vary share: what a step keeps (Keep), a slice of bytes that reads as a list (Rd), one that the call owns (OwnB), and append of the one onto the other. No conditions.
  The Tape: write, Number, Signed, Bytes, All, over a Tape in memory that holds the bytes l; and slices.Clone, Twin. Conditions: no more than 2^47 bytes in all.
  Tape.Number, Signed, Bytes over a Tape in memory; the law's own number: a number's bytes as a string. Conditions: no more than 2^47 bytes in all.
  Plain mathematics of a number's bytes: big-endian digits, their order, what a first byte tells. No program's run is named here. No conditions.
  The keepers of a Reel's look: sum.add gathers bytes as one number, taken.set keeps a copy; told tells a width. Conditions: no more than 2^47 bytes.
  Plain mathematics of reading: what bytes say as a number, and when they are a number's bytes. No program's run is named here. No conditions.
  The law's own alive: the chapter's first examples hold. No conditions.
  The document's own Number and Bytes: a number's bytes by definition, as vary's. Conditions: a uint64; no more than 2^47 bytes.
  A Reel's look with each of its two keepers: too few bytes, or they are handed on. Conditions: no more than 2^47 bytes.
  A Reel's next: what comes next, its width, the error; the place stays. Conditions: no more than 2^47 bytes.
  The Reel: On, bounded, take, Number, Signed, Bytes, Raw, At, End over a Reel in memory. Conditions: no more than 2^47 bytes.
  The Reel's methods: Number, Signed, Bytes, Raw, At, End over a Reel in memory. Conditions: no more than 2^47 bytes.
  The Reel's take, Bytes, Raw over a Reel in memory. Conditions: no more than 2^47 bytes.
  The document's own Reel: look: what comes next, as vary's next tells it. Conditions: no more than 2^47 bytes.
  The document's own Reel: look: what comes next, as vary's next tells it. Conditions: no more than 2^47 bytes.
  The document's own Reel: Number, Signed, Raw, Bytes, End: as vary's. Conditions: no more than 2^47 bytes.
  Reading a number off bytes, and what the walks of shape share. No program, no conditions.
  The plain mathematics of shapes and signatures: which may be, their bytes, four types to one, and what is read of bytes. No program, no conditions.
  The document's own lists of names, what is found in them, and what stands in them. No conditions but bounds.
  The document's lists of names; AluCalled's walk. Conditions: what the project's names answer (NmC, OfC), in worlds of a class that making memory keeps.
  The plain mathematics of layer opcode: the rows of instructions, the ranges of operands, which instructions may be, what an operand and an instruction are as text and as bytes. No program, no conditions.
  The array of rows, and the row of a number, as the project hands them out. No conditions.
  A region that draws its order, whose operations read, and whose calls may make memory but leave all that lay as it lay: one walk in the order of the text serves every order. No program, no conditions.
  A region that draws its order, whose operations read, call what may make memory, and make memory themselves, none of them writing what lay: one walk, in an order of one's own choice, serves every order. What was made is known by its block alone. No program, no conditions.
  The steps of a walk through a region by WMix. No program, no conditions.
  What operandOf hands out, and has. Conditions: the kind is from 0 to 10.
  What rowOf and has answer. Conditions: none but that a kind's operand is one.
  What rowFor answers. No conditions.
  What Check, Ends, Goes, Kinds, Name and Effect answer. Conditions: none but that numbers fit an int64.
  The plain mathematics of layer code: instructions as triples, lists of them as cells, which lists are bodies, heads and stretches, what one more and one fewer make, how many have an op. No program, no conditions.
  The plain mathematics of functions: names, which may be, their bytes, their slots. No program, no conditions.
  An instruction's bytes, and its text, tell it: plain mathematics. No program, no conditions.
  The plain mathematics of reading an instruction from bytes: what is read, and that an instruction's bytes, whatever stands behind them, are read as it was. No program, no conditions.
  The plain mathematics of reading a body: what so many instructions one behind the other are, and what is read of a body's bytes. No program, no conditions.
  The plain mathematics of reading a function: what is read of bytes at a place. No program, no conditions.
  The plain mathematics of images: which may be, their sum, their bytes, and what is read of bytes. No program, no conditions.
  What Check, Count, ifBody and hasPlace of layer code answer: is a list a body, and how many have an op? Conditions: the list lies in memory.
  What Count, ifBody and hasPlace of layer code answer. Conditions: the list lies in memory.
  The document's Kinds, least, most, in and Check. Conditions: none but that numbers fit an int64.
  What Known, Check, Zero and Nil answer, the code's and the document's. No conditions.
  What Nil answers, the code's and the document's; great. No conditions.
  What the document's Ints and Same answer: are two lists the same? Conditions: the lists lie in memory.
  What Zeros and Of answer: new lists. Conditions: the lists lie in memory, no more than 4096 long.
  What Fits answers. Conditions: the lists lie in memory.
  What the listed package-level variables hold, carried from world to world; Letter and lettered. Conditions: the variables hold what their initialisers lay.
  What Show answers. Conditions: the variables that it reads hold what their initialisers lay; the value's number fits an int64.
  An array of strings among the listed package-level variables, as a list of texts. No conditions.
  What the project's own names of operations and codes answer, and what those that look a name up do. Conditions: the listed package-level variables hold the names.
  What the functions in an operand's fields tell: an operand's text. Conditions: the listed package-level variables hold what their initialisers lay.
  The document's in and Check. Conditions: none but that numbers fit an int64.
  The document's Ends and Goes. Conditions: none but that numbers fit an int64.
  What the document's Check, Count and Head of layer code answer, and its Lists: are two lists the same? Conditions: lists lie in memory; numbers fit an int64.
  A function in memory: its value, its cells, what it reads as. No conditions.
  A region that draws its order and has a neck: an operation that waits for all ahead of it, and for which all behind it wait. What lies ahead is walked in an order of one's own choice (KMix); then the neck comes up alone, and may write what was made. No program, no conditions.
  Which types shapes and signatures may have: what held and all answer, and the document's held. Conditions: the list lies in memory.
  Which shapes and signatures may be: what Check, CheckSignature, Cell and Same answer, the program's and the document's; what the laws' Great and Copy answer. Conditions: the lists lie in memory.
  What pack answers: types' bytes. Conditions: the list lies in memory, holds types, no more than 64.
  What the document's Types answers: types' bytes. Conditions: the list lies in memory, holds types, no more than 64.
  What Encode and EncodeSignature answer, the program's and the document's: their bytes, if they may be. Conditions: the lists lie in memory.
  A range over a function that is never left ahead of its end, whose iterator brings things of which something is known in the world in which each comes (En). No program, no conditions.
  The iterator of the pieces of bytes, two bits each, from the lowest of each byte on. Conditions: the bytes lie in memory; a round keeps them.
  What types answers: the types that were laid into bytes, if nothing is behind them. Conditions: the bytes lie in memory.
  What unpack and Decode of layer shape answer: the types, and the shape, at a Reel's place. Conditions: the Reel reads bytes in memory, no more than 2^47.
  What DecodeSignature answers: the signature at a Reel's place. Conditions: the Reel reads bytes in memory, no more than 2^47.
  Names and locals at a Reel's place: what decodeName and decodeLocals answer. Conditions: the Reel reads bytes in memory, no more than 2^47.
  Names: what letter, digit and Named answer, and the document's letter and Named. No conditions but that the name's length fits an int64.
  every: questions that lie in memory are asked in turn, up to the first no. Conditions: each question answers by its contract.
  What the closures of passes answer; few and taking. Conditions: what is asked answers by its contract.
  What reads and its closures do: what stands next is read and kept. Conditions: what decodes answers by its contract.
  A region that draws its order, by what each of its values is: whatever order is picked, each operation finds what it stands behind. No program, no conditions.
  A region that draws its order, by what each of its values is: whatever order is picked, each operation finds what it stands behind. Operations may be guarded; one of them, number c, may write what lay in the blocks of O, which the others' words don't speak of. No program, no conditions.
  Which functions may be: what Check answers. Conditions: the function's lists lie in memory, and are no longer than statements go through.
  What the laws ask ahead: whether a function is more than statements go through; and the laws' own function. No conditions but those of each statement.
  The plain mathematics of heads and stretches: which places are noted as heads, how often, and where a stretch ends. No program, no conditions.
  The plain mathematics of what is put in and taken out, of counts, and of stretches one behind the other. No program, no conditions.
  What shifted of layer code answers: a new list, in which those that go to a place behind one go so much farther. Conditions: the list lies in memory, of 1 to 512 instructions; by 1, or -1.
  What Insert of layer code answers: a new body with one more, or ErrCode. Conditions: the list lies in memory.
  What Delete of layer code answers: a new body without one, or ErrCode. Conditions: the list lies in memory.
  What the program's Decode answers. Conditions: a Reel stands on the bytes; they are not too many.
  What the document's Decode answers. Conditions: its Reel stands on the bytes; they are not too many.
  What Decode of layer code answers, the program's and the document's: the body at a Reel's place, and the place behind it. Conditions: the Reel reads bytes in memory, no more than 2^47.
  What the document's Decode of layer code answers: the body at its Reel's place, and the place behind it. Conditions: the Reel reads bytes in memory, no more than 2^47.
  Functions at a Reel's place: what Decode answers. Conditions: the Reel reads bytes in memory, no more than 2^47.
  What Decode of layer function answers: the function at a Reel's place, and the place behind it. Conditions: the Reel reads bytes in memory, no more than 2^47.
  An argument that is a slice of bytes, opened: an address from which a list of bytes stands. No conditions.
  Functions that are no greater than statements go through; small facts that the laws share. No conditions.
  An image in memory: its value, its cells, what it reads as; an image that is owned. No conditions.
-/
import Derived.BigQuiet
import Derived.Deep.AppendLies
import Derived.Deep.DeepFit
import Derived.Deep.Draws
import Derived.Deep.QuietTactic
import Derived.Deep.RegionHeld3
import Derived.Deep.RegionLaw
import Derived.Deep.RegionWith
import Derived.Deep.WholeRow
import Derived.IntWalk
import Derived.LaidLaws
import Derived.LaidMore
import Derived.Laws.BitsAllLaws
import Derived.Laws.CopyOwn
import Derived.Laws.EntriesVeiled
import Derived.Laws.OwnMore
import Derived.Laws.ResultCell
import Derived.Laws.Rows
import Derived.Lib.AppendIntMem
import Derived.Lib.Hide
import Derived.Lib.ItoaLen
import Derived.Lib.ParseIntBTie
import Derived.Lib.SmallJoins
import Derived.Lib.Strings
import Derived.LoopIn
import Derived.LoopNIn
import Derived.Maps.AppendAt
import Derived.OpenShut
import Derived.OwnWalk
import Derived.OwnWalkIn
import Derived.ProofKit
import Derived.RangeFuncBound
import Derived.RangeFuncCalls
import Derived.RangeFuncLeaves
import Derived.RangeFuncNested
import Derived.Shelf.Abstract
import Derived.Shelf.RegionOpen
import Derived.SizedLaws
import Derived.StillTail
import Derived.StillTailTactics
import Derived.TacticsInMore
import Derived.WalkKit
import Derived.WalkLawsBesides
import Derived.WalkSpells
import Derived.Test.YtgifflfjhockaaaGreatDoorProg
import Derived.Test.YtgifflfjhockaaaGreatDoorQ1
import Derived.Test.YtgifflfjhockaaaGreatDoorShelf
namespace Go.Proofs.YtgifflfjhockaaaGreatDoor.W
open Go.Lib

abbrev str (l : List UInt8) : ByteArray := ⟨l.toArray⟩

/-- May the value be? -/
def okB (t n : Int) : Bool := decide ((1 ≤ t ∧ t ≤ 4) ∧ (t = 1 ∨ 0 ≤ n))
/-! ### Texts of lists of types -/

/-! ### A value's text -/

/-- What a value's number is above the one shown. -/
def off (t : Int) : Int := if t = 3 then 1 else 0
/-! ### Decimal digits there and back -/

end Go.Proofs.YtgifflfjhockaaaGreatDoor.W

namespace Go.Proofs.YtgifflfjhockaaaGreatDoor
open Go.RowKit

/-- What lay when the step began, and is none of O, lies as it lay. -/
structure Keep (O : Nat → Prop) (w w' : World) : Prop where
  os : w'.os = w.os
  tape : w'.tape = w.tape
  output : w'.output = w.output
  size : w.heap.size ≤ w'.heap.size
  block : ∀ k, k < w.heap.size → ¬ O k → w'.heap[k]? = w.heap[k]?

/-- No block at all. -/
def NoB : Nat → Prop := fun _ => False
/-- Blocks that were not yet there. -/
def Fresh (w : World) : Nat → Prop := fun k => w.heap.size ≤ k

section
variable {O O' : Nat → Prop} {w w1 w2 : World}
theorem Keep.refl (O : Nat → Prop) (w : World) : Keep O w w := ⟨rfl, rfl, rfl, Nat.le_refl _, fun _ _ _ => rfl⟩
theorem Keep.trans (h : Keep O w w1) (h' : Keep O' w1 w2) (hO : ∀ k, O' k → k < w.heap.size → O k) : Keep O w w2 :=
  ⟨h'.os.trans h.os, h'.tape.trans h.tape, h'.output.trans h.output, Nat.le_trans h.size h'.size,
    fun k hk hn => (h'.block k (Nat.lt_of_lt_of_le hk h.size) (fun ho => hn (hO k ho hk))).trans (h.block k hk hn)⟩
theorem Keep.mono (h : Keep O w w1) (hO : ∀ k, O k → k < w.heap.size → O' k) : Keep O' w w1 :=
  ⟨h.os, h.tape, h.output, h.size, fun k hk hn => h.block k hk (fun ho => hn (hO k ho hk))⟩
theorem Keep.drew (h : Keep O w w1) : Keep O w w1.drew := ⟨h.os, h.tape, h.output, h.size, h.block⟩
theorem Keep.drewN (h : Keep O w w1) (n : Nat) : Keep O w (w1.drewN n) := ⟨h.os, h.tape, h.output, h.size, h.block⟩
theorem Keep.alloc (h : Keep O w w1) (o : Obj) : Keep O w (w1.alloc o) :=
  h.trans (O' := NoB) ⟨rfl, rfl, rfl, by simp, fun k hk _ => Below.heap_alloc _ _ _ hk⟩ (fun _ hf => hf.elim)
theorem Keep.setCell (h : Keep O w w1) {p : Addr} (hp : p.block < w.heap.size → O p.block) (u : Value) : Keep O w (w1.setCell p u) :=
  h.trans (O' := fun k => k = p.block) ⟨rfl, rfl, rfl, by simp [World.setCell], fun k _ hn => Below.heap_setCell _ _ _ _ hn⟩ (fun k e hk => by rw [e] at hk ⊢; exact hp hk)
theorem Keep.grown {row : Option Nat} (h : Keep O w w1) (hg : w1.grownBy w2 row) (hr : ∀ g, row = some g → g < w.heap.size → O g) : Keep O w w2 :=
  h.trans (O' := fun k => some k = row) ⟨hg.os, hg.tape, hg.output, hg.size, fun k hk hn => hg.block k hk hn⟩ (fun k e hk => hr k e.symm hk)
theorem Keep.below (h : Keep O w w1) (hO : ∀ k, O k → w.heap.size ≤ k) : Below w.heap.size w w1 :=
  ⟨h.os, h.tape, h.output, h.size, fun k hk => h.block k hk (fun ho => by have := hO k ho; omega)⟩
theorem Keep.of_below (h : Below w.heap.size w w1) : Keep O w w1 := ⟨h.os, h.tape, h.output, h.size, fun k hk _ => h.block k hk⟩
theorem Keep.cell (h : Keep O w w1) {p : Addr} {v : Value} (hc : w.cell? p = some v) (hp : ¬ O p.block) : w1.cell? p = some v :=
  (World.cell?_of_block (h.block _ (World.block_lt_of_cell? w p hc) hp)).trans hc
theorem keepN (h : Keep NoB w w1) (h' : Keep NoB w1 w2) : Keep NoB w w2 := h.trans h' (fun _ hf _ => hf.elim)
theorem Keep.toBelow (h : Keep NoB w w1) : Below w.heap.size w w1 := h.below (fun _ hf => hf.elim)
end

/-- A slice's address, from which the cells xs stand. -/
def Rd (w : World) (A : Option Addr) (xs : List Value) : Prop :=
  0 < xs.length → ∃ g off, A = some ⟨g, off, none⟩ ∧ ∀ j u, xs[j]? = some u → w.cell? ⟨g, off + j, none⟩ = some u
theorem Rd.none_ (w : World) (A : Option Addr) : Rd w A [] := fun h => by simp at h
theorem Rd.keep {O : Nat → Prop} {w w' : World} {A : Option Addr} {xs : List Value} (h : Rd w A xs) (hk : Keep O w w') (hA : ∀ ad, A = some ad → ¬ O ad.block) : Rd w' A xs := fun h0 => by
  obtain ⟨g, off, e, hc⟩ := h h0
  exact ⟨g, off, e, fun j u hu => hk.cell (hc j u hu) (by have := hA _ e; exact this)⟩
theorem Rd.keepN {w w' : World} {A : Option Addr} {xs : List Value} (h : Rd w A xs) (hk : Keep NoB w w') : Rd w' A xs := h.keep hk (fun _ _ => id)

/-- Numbers, and values, as cells. -/
abbrev ivs (l : List Int) : List Value := l.map (.int .i64)
theorem ivs_one (l : List Int) : ∀ u ∈ ivs l, u.oneCell' = true := by
  intro u hu
  obtain ⟨b, _, rfl⟩ := List.mem_map.1 hu
  rfl
theorem rdI_at {w : World} {A : Option Addr} {l : List Int} (h : Rd w A (ivs l)) (h0 : 0 < l.length) : ∃ g off, A = some ⟨g, off, none⟩ ∧ ∀ (i : Nat) (hi : i < l.length), w.cell? ⟨g, off + i, none⟩ = some (.int .i64 l[i]) := by
  obtain ⟨g, off, e, hc⟩ := h (by simpa using h0)
  exact ⟨g, off, e, fun i hi => hc i _ (by simp [hi])⟩
/-- A slice that the call owns: so many elements, so many cells each, in a block of O. -/
def Own (w : World) (E size : Nat) (O : Nat → Prop) (v : Value) (n : Nat) (xs : List Value) : Prop :=
  w.ownsRow 0 E size v n xs ∧ ∀ g, v.ownBlock = some g → O g
section
variable {w w' : World} {E size n : Nat} {O O' : Nat → Prop} {v : Value} {xs : List Value}
theorem Own.nil (w : World) (E size : Nat) (O : Nat → Prop) : Own w E size O (.slice none 0 0) 0 [] := ⟨World.ownsRow_nil _ _ _ _, by simp [Value.ownBlock]⟩
theorem Own.mono (h : Own w E size O v n xs) (hO : ∀ k, O k → k < w.heap.size → O' k) : Own w E size O' v n xs := ⟨h.1, fun g e => hO g (h.2 g e) (h.1.lt g e).2⟩
theorem ownsRow_keep {base : Nat} (h : w.ownsRow base E size v n xs) (hk : Keep O w w') (hn : ∀ g, v.ownBlock = some g → ¬ O g) : w'.ownsRow base E size v n xs := by
  refine ⟨h.1, ?_⟩
  rcases h.2 with h2 | ⟨g, cap, cur, rfl, hb, hh, r⟩
  · exact .inl h2
  · exact .inr ⟨g, cap, cur, rfl, hb, (hk.block g (Array.getElem?_eq_some_iff.1 hh).1 (hn g rfl)).trans hh, r⟩
theorem Own.keep (h : Own w E size O v n xs) (hk : Keep O' w w') (hn : ∀ k, O k → ¬ O' k) : Own w' E size O v n xs := ⟨ownsRow_keep h.1 hk (fun g e => hn g (h.2 g e)), h.2⟩
theorem Own.keepN (h : Own w E size O v n xs) (hk : Keep NoB w w') : Own w' E size O v n xs := h.keep hk (fun _ _ => id)
/-- The slice written out; it reads as its cells. -/
theorem Own.form (h : Own w E size O v n xs) : ∃ A c, v = .slice A n c ∧ n ≤ c ∧ c ≤ maxLen ∧ Rd w A xs ∧ (∀ ad, A = some ad → O ad.block ∧ ad = ⟨ad.block, 0, none⟩) := by
  rcases h.1.2 with ⟨rfl, hn⟩ | ⟨g, cap, cur, rfl, _, hh, hc, hm, _⟩
  · have hx : xs = [] := List.length_eq_zero_iff.1 (by rw [h.1.1, hn, Nat.zero_mul])
    subst hx
    exact ⟨none, 0, by rw [hn], Nat.le_of_eq hn, Nat.zero_le _, Rd.none_ _ _, by simp⟩
  · refine ⟨_, cap, rfl, hc, hm, fun _ => ⟨g, 0, rfl, fun j u hu => ?_⟩, ?_⟩
    · have := h.1.cells (g := g) rfl j u hu
      have ea : (⟨g, 0, none⟩ : Addr).add j = ⟨g, 0 + j, none⟩ := by unfold Addr.add; by_cases hj : j = 0 <;> simp [hj]
      rwa [ea] at this
    · intro ad e
      cases e
      exact ⟨h.2 g rfl, rfl⟩
/-- A row of new blocks, as a contract of the shelf, or of make, hands it out. -/
theorem Own.of_row {base : Nat} (h : w.ownsRow base E size v n xs) (hb : ∀ k, base ≤ k → O k) : Own w E size O v n xs := by
  refine ⟨⟨h.1, ?_⟩, fun g e => hb g (h.lt g e).1⟩
  rcases h.2 with h2 | ⟨g, cap, cur, h1, _, h2⟩
  · exact .inl h2
  · exact .inr ⟨g, cap, cur, h1, Nat.zero_le _, h2⟩
end

theorem own_form {w : World} {E size base n : Nat} {v : Value} {xs : List Value} (h : w.ownsRow base E size v n xs) : ∃ A c, v = .slice A n c := by
  rcases h.2 with ⟨rfl, rfl⟩ | ⟨g, cap, cur, rfl, _⟩
  · exact ⟨_, _, rfl⟩
  · exact ⟨_, _, rfl⟩

/-- append of cells that are read onto a row that is owned. -/
theorem run_append_rd (w : World) (S E size bytes : Nat) (i0 : TypeInfo) (z : Value) (hS : Tryz.prog.underlying S = some (.slice E)) (hi : Tryz.prog.info? E = some i0) (hz0 : i0.zero = some z) (hz1 : i0.size = size) (hz2 : i0.bytes = bytes) (hzs : z.cells.size = size) (hsz : 0 < size)
    (v : Value) (n : Nat) (xs : List Value) (A : Option Addr) (m c : Nat) (ys : List Value) (ty : TypeId)
    (hown : w.ownsRow 0 E size v n xs) (hr : Rd w A ys) (hl : ys.length = m * size) (h1 : ∀ u ∈ ys, u.oneCell' = true) (h63 : n + m ≤ maxLen) (hb : (n + m) * bytes ≤ 140737488355328) :
    ∃ v' w', (Builtin.append_ #[S, S] ty #[v, .slice A m c]).run Tryz.prog w = .ok v' w' ∧ w'.ownsRow 0 E size v' (n + m) (xs ++ ys) ∧ w.grownBy w' v.ownBlock ∧
      (v'.ownBlock = v.ownBlock ∨ v'.ownBlock = some w.heap.size) := by
  have hm0 : m = 0 → ys = [] := fun e => List.length_eq_zero_iff.1 (by rw [hl, e, Nat.zero_mul])
  rcases A with _ | ad
  · have hy : ys = [] := by
      rcases Nat.eq_zero_or_pos ys.length with h0 | h0
      · exact List.length_eq_zero_iff.1 h0
      · obtain ⟨g, off, e, _⟩ := hr h0; cases e
    subst hy
    have hm : m = 0 := by
      rcases Nat.eq_zero_or_pos m with h | h
      · exact h
      · have := Nat.mul_pos h hsz; simp at hl; omega
    subst hm
    refine ⟨v, w, ?_, by simpa using hown, World.grownBy.refl w _, .inl rfl⟩
    rcases hown.2 with ⟨rfl, h0⟩ | ⟨g, cap, cur, rfl, _, _, hnc, _⟩
    · simp [Builtin.append_, run_underlying hS, sizeOf, typeInfo, hi, Builtin.lenOf, Builtin.firstCells]
    · simp [Builtin.append_, run_underlying hS, sizeOf, typeInfo, hi, Builtin.lenOf, Builtin.firstCells, hnc, storeCells]
  · have hcells : ∀ j u, ys[j]? = some u → w.cell? (ad.add j) = some u := by
      intro j u hu
      rcases Nat.eq_zero_or_pos ys.length with h0 | h0
      · have : ys = [] := List.length_eq_zero_iff.1 h0
        subst this; simp at hu
      · obtain ⟨g, off, e, hc⟩ := hr h0
        cases e
        have ea : (⟨g, off, none⟩ : Addr).add j = ⟨g, off + j, none⟩ := by unfold Addr.add; by_cases hj : j = 0 <;> simp [hj]
        rw [ea]; exact hc j u hu
    obtain ⟨v', w', hrun, h2, h3, _, h5⟩ := run_append_own_at (P := Tryz.prog) w 0 S ty E i0 z size bytes hS hi hz0 hz1 hz2 hzs hsz v n xs hown ad m c ys hl hcells h1 h63 hb (Nat.zero_le _)
    exact ⟨v', w', hrun, h2, h3, h5⟩

theorem wp_append_rd {o : Oper} {a : Act} {K : Act → World → Prop} {Q : Exit → Act → World → Prop} (w : World) (s x : Operand) (S : TypeId)
    (ho : o.op = .call { callee := .builtin .append, args := #[s, x], argTypes := #[S, S] })
    (E size bytes : Nat) (i0 : TypeInfo) (z : Value) (hS : Tryz.prog.underlying S = some (.slice E)) (hi : Tryz.prog.info? E = some i0) (hz0 : i0.zero = some z) (hz1 : i0.size = size) (hz2 : i0.bytes = bytes) (hzs : z.cells.size = size) (hsz : 0 < size)
    (v : Value) (n : Nat) (xs : List Value) (A : Option Addr) (m c : Nat) (ys : List Value) (hs : a.eval s = v) (hown : w.ownsRow 0 E size v n xs) (hx : a.eval x = .slice A m c) (hr : Rd w A ys)
    (hl : ys.length = m * size) (h1 : ∀ u ∈ ys, u.oneCell' = true) (h63 : n + m ≤ maxLen) (hb : (n + m) * bytes ≤ 140737488355328)
    (h : ∀ A' c' w', w'.ownsRow 0 E size (.slice A' (n + m) c') (n + m) (xs ++ ys) → w.grownBy w' v.ownBlock → ((Value.slice A' (n + m) c').ownBlock = v.ownBlock ∨ (Value.slice A' (n + m) c').ownBlock = some w.heap.size) → K (a.put o.dst (.slice A' (n + m) c')) w') : o.wp Tryz.prog a w K Q := by
  obtain ⟨v', w', hrun, h2, h3, h4⟩ := run_append_rd w S E size bytes i0 z hS hi hz0 hz1 hz2 hzs hsz v n xs A m c ys o.type hown hr hl h1 h63 hb
  obtain ⟨A', c', rfl⟩ := own_form h2
  unfold Oper.wp execOp
  simp only [ho, resolve, invoke, builtin, Sem.run_bind, Sem.run_pure, Result.andThen_ok, List.map_toArray, List.map_cons, List.map_nil, hs, hx, hrun]
  exact h A' c' w' h2 h3 h4

theorem wpList_append_rd {ops : Array Oper} {rest : List Oper} {o : Oper} {a : Act} {Q : Exit → Act → World → Prop} (w : World) (hgd : o.guard = none) (s x : Operand) (S : TypeId)
    (ho : o.op = .call { callee := .builtin .append, args := #[s, x], argTypes := #[S, S] })
    (E size bytes : Nat) (i0 : TypeInfo) (z : Value) (hS : Tryz.prog.underlying S = some (.slice E)) (hi : Tryz.prog.info? E = some i0) (hz0 : i0.zero = some z) (hz1 : i0.size = size) (hz2 : i0.bytes = bytes) (hzs : z.cells.size = size) (hsz : 0 < size)
    (v : Value) (n : Nat) (xs : List Value) (A : Option Addr) (m c : Nat) (ys : List Value) (hs : a.eval s = v) (hown : w.ownsRow 0 E size v n xs) (hx : a.eval x = .slice A m c) (hr : Rd w A ys)
    (hl : ys.length = m * size) (h1 : ∀ u ∈ ys, u.oneCell' = true) (h63 : n + m ≤ maxLen) (hb : (n + m) * bytes ≤ 140737488355328)
    (h : ∀ A' c' w', w'.ownsRow 0 E size (.slice A' (n + m) c') (n + m) (xs ++ ys) → w.grownBy w' v.ownBlock → ((Value.slice A' (n + m) c').ownBlock = v.ownBlock ∨ (Value.slice A' (n + m) c').ownBlock = some w.heap.size) → wpList Tryz.prog ops Q rest (a.put o.dst (.slice A' (n + m) c')) w') :
    wpList Tryz.prog ops Q (o :: rest) a w :=
  wpList_plain hgd fun _ hK => wp_append_rd w s x S ho E size bytes i0 z hS hi hz0 hz1 hz2 hzs hsz v n xs A m c ys hs hown hx hr hl h1 h63 hb fun A' c' w' h2 h3 h4 => hK _ _ (h A' c' w' h2 h3 h4)


theorem int_info : (Tryz.prog.info? 3).map (fun i => (i.zero, i.size, i.bytes)) = some (some (.int .i64 0), 1, 8) := by kernel_rfl
/-- Block g is just the cells cs of type t, none of them frozen. -/
def Blk (w : World) (g : Nat) (t : TypeId) (cs : Array Value) : Prop := w.heap[g]? = some (.cells cs t (0, 0))
section
variable {w w' : World} {g : Nat} {t : TypeId} {cs : Array Value}
theorem Blk.lt (h : Blk w g t cs) : g < w.heap.size := (Array.getElem?_eq_some_iff.1 h).1
theorem Blk.cell (h : Blk w g t cs) (i : Nat) : w.cell? ⟨g, i, none⟩ = cs[i]? := cell_of_row w g i cs t (0, 0) h
theorem Blk.frozen (h : Blk w g t cs) (i : Nat) : w.frozen? ⟨g, i, none⟩ = false := by unfold Blk at h; simp [World.frozen?, h]
theorem Blk.new (w : World) (t : TypeId) (cs : Array Value) : Blk (w.alloc (.cells cs t)) w.heap.size t cs := heap_alloc_new w _
theorem Blk.alloc (h : Blk w g t cs) (o : Obj) : Blk (w.alloc o) g t cs := (Below.heap_alloc w o g h.lt).trans h
theorem Blk.put (h : Blk w g t cs) (i : Nat) (u : Value) : Blk (w.setCell ⟨g, i, none⟩ u) g t (cs.setIfInBounds i u) := by
  unfold Blk at h ⊢; simp [World.setCell, Array.getElem?_modify, h]
theorem Blk.far (h : Blk w g t cs) {p : Addr} (hp : g ≠ p.block) (u : Value) : Blk (w.setCell p u) g t cs := (Below.heap_setCell w p u g hp).trans h
theorem Blk.grown {row : Option Nat} (h : Blk w g t cs) (hb : w.grownBy w' row) (hg : some g ≠ row) : Blk w' g t cs := (hb.block g h.lt hg).trans h
theorem Blk.ne {g' : Nat} {t' : TypeId} {cs' : Array Value} (h : Blk w g t cs) (h' : Blk w g' t' cs') (hne : t ≠ t') : g ≠ g' := by
  rintro rfl
  have e := (show w.heap[g]? = _ from h).symm.trans h'
  simp at e
  exact hne e.2
theorem Blk.keep {O : Nat → Prop} (h : Blk w g t cs) (hk : Keep O w w') (hg : ¬ O g) : Blk w' g t cs := (hk.block g h.lt hg).trans h
end

end Go.Proofs.YtgifflfjhockaaaGreatDoor

namespace Go.Proofs.YtgifflfjhockaaaGreatDoor.V
open Go.RowKit

/-- A slice's address, from which the bytes l stand. -/
def Rd (w : World) (A : Option Addr) (l : List UInt8) : Prop :=
  0 < l.length → ∃ ad, A = some ad ∧ ∀ j u, (bvs l)[j]? = some u → w.cell? (ad.add j) = some u
theorem block_add (a : Addr) (n : Nat) : (a.add n).block = a.block := by unfold Addr.add; split <;> rfl
theorem Rd.none_ (w : World) (A : Option Addr) : Rd w A [] := fun h => by simp at h
theorem Rd.keep {O : Nat → Prop} {w w' : World} {A : Option Addr} {l : List UInt8} (h : Rd w A l) (hk : Keep O w w') (hA : ∀ ad, A = some ad → 0 < l.length → ¬ O ad.block) : Rd w' A l := fun h0 => by
  obtain ⟨ad, e, hc⟩ := h h0
  exact ⟨ad, e, fun j u hu => hk.cell (hc j u hu) (by rw [block_add]; exact hA ad e h0)⟩
theorem Rd.lt {w : World} {A : Option Addr} {l : List UInt8} (h : Rd w A l) {ad : Addr} (e : A = some ad) (h0 : 0 < l.length) : ad.block < w.heap.size := by
  obtain ⟨ad', e', hc⟩ := h h0
  rw [e] at e'; cases e'
  have := World.block_lt_of_cell? w _ (hc 0 (bv l[0]) (by simp [h0]))
  rwa [block_add] at this

/-- The slice v of bytes l is the call's own, in a block of O. -/
def OwnB (w : World) (O : Nat → Prop) (v : Value) (l : List UInt8) : Prop :=
  w.ownsRow 0 5 1 v l.length (bvs l) ∧ ∀ g, v.ownBlock = some g → O g
section
variable {w w' : World} {O O' : Nat → Prop} {v : Value} {l : List UInt8}
theorem OwnB.nil (w : World) (O : Nat → Prop) : OwnB w O (.slice none 0 0) [] := ⟨World.ownsRow_nil _ _ _ _, by simp [Value.ownBlock]⟩
theorem OwnB.mono (h : OwnB w O v l) (hO : ∀ k, O k → k < w.heap.size → O' k) : OwnB w O' v l := ⟨h.1, fun g e => hO g (h.2 g e) (h.1.lt g e).2⟩
theorem ownsRow_keep {base n : Nat} {xs : List Value} (h : w.ownsRow base 5 1 v n xs) (hk : Keep O w w') (hn : ∀ g, v.ownBlock = some g → ¬ O g) : w'.ownsRow base 5 1 v n xs := by
  refine ⟨h.1, ?_⟩
  rcases h.2 with h2 | ⟨g, cap, cur, rfl, hb, hh, r⟩
  · exact .inl h2
  · exact .inr ⟨g, cap, cur, rfl, hb, (hk.block g (Array.getElem?_eq_some_iff.1 hh).1 (hn g rfl)).trans hh, r⟩
theorem OwnB.keep (h : OwnB w O v l) (hk : Keep O' w w') (hn : ∀ k, O k → ¬ O' k) : OwnB w' O v l := ⟨ownsRow_keep h.1 hk (fun g e => hn g (h.2 g e)), h.2⟩
theorem OwnB.form (h : OwnB w O v l) : ∃ A c, v = .slice A l.length c ∧ l.length ≤ c ∧ Rd w A l ∧ (∀ ad, A = some ad → O ad.block ∧ ad = ⟨ad.block, 0, none⟩) ∧ c ≤ maxLen := by
  rcases h.1.2 with ⟨rfl, hn⟩ | ⟨g, cap, cur, rfl, _, hh, hc, hm, _⟩
  · have : l = [] := List.length_eq_zero_iff.1 hn
    subst this
    exact ⟨none, 0, rfl, Nat.le_refl _, Rd.none_ _ _, by simp, by simp⟩
  · refine ⟨_, cap, rfl, hc, fun _ => ⟨_, rfl, h.1.cells (g := g) rfl⟩, ?_, hm⟩
    intro ad e
    cases e
    exact ⟨h.2 g rfl, rfl⟩
end

end Go.Proofs.YtgifflfjhockaaaGreatDoor.V

namespace Go.Proofs.YtgifflfjhockaaaGreatDoor.V
open Go.RowKit


/-- A Tape at block bt that holds l; all its blocks are of O. -/
def TapeAt (w : World) (bt : Nat) (O : Nat → Prop) (l : List UInt8) : Prop :=
  O bt ∧ ((Blk w bt 134 #[.pointer none, .int .i64 0] ∧ l = []) ∨
    ∃ bs v, O bs ∧ Blk w bt 134 #[.pointer (some ⟨bs, 0, none⟩), .int .i64 l.length] ∧ Blk w bs 171 #[v] ∧ OwnB w O v l)

theorem TapeAt.keep {w w' : World} {bt : Nat} {O O' : Nat → Prop} {l : List UInt8} (h : TapeAt w bt O l) (hk : Keep O' w w') (hn : ∀ k, O k → ¬ O' k) : TapeAt w' bt O l := by
  refine ⟨h.1, ?_⟩
  rcases h.2 with ⟨hb, rfl⟩ | ⟨bs, v, ho, hb, hs, hv⟩
  · exact .inl ⟨hb.keep hk (hn _ h.1), rfl⟩
  · exact .inr ⟨bs, v, ho, hb.keep hk (hn _ h.1), hs.keep hk (hn _ ho), hv.keep hk hn⟩
theorem TapeAt.mono {w : World} {bt : Nat} {O O' : Nat → Prop} {l : List UInt8} (h : TapeAt w bt O l) (hO : ∀ k, O k → k < w.heap.size → O' k) : TapeAt w bt O' l := by
  rcases h.2 with ⟨hb, rfl⟩ | ⟨bs, v, ho, hb, hs, hv⟩
  · exact ⟨hO _ h.1 hb.lt, .inl ⟨hb, rfl⟩⟩
  · exact ⟨hO _ h.1 hb.lt, .inr ⟨bs, v, hO _ ho hs.lt, hb, hs, hv.mono hO⟩⟩

/-- The blocks that a Tape has when it has been written on: its own, and new ones. -/
def More (O : Nat → Prop) (w w' : World) : Nat → Prop := fun k => O k ∨ (w.heap.size ≤ k ∧ k < w'.heap.size)

end Go.Proofs.YtgifflfjhockaaaGreatDoor.V

namespace Go.Proofs.YtgifflfjhockaaaGreatDoor.V
open Go.RowKit

theorem More.trans {O : Nat → Prop} {w w1 w2 : World} (h : w.heap.size ≤ w1.heap.size) : ∀ k, More O w1 w2 k → k < w2.heap.size → More O w w2 k := by
  rintro k (h1 | ⟨h1, h2⟩) _
  · exact .inl h1
  · exact .inr ⟨by omega, h2⟩

theorem TapeAt.new (w : World) : TapeAt (w.alloc (.cells #[.pointer none, .int .i64 0] 134)) w.heap.size (fun k => k = w.heap.size) [] :=
  ⟨rfl, .inl ⟨Blk.new _ _ _, rfl⟩⟩

end Go.Proofs.YtgifflfjhockaaaGreatDoor.V

namespace Go.Proofs.YtgifflfjhockaaaGreatDoor.V
open Go.RowKit

/-- A number with its mark. -/
def nb (n : Nat) : Nat := mk (wd n) * 256 ^ (wd n - 1) + n

end Go.Proofs.YtgifflfjhockaaaGreatDoor.V

namespace Go.Proofs.YtgifflfjhockaaaGreatDoor.V
open Go.RowKit

/-- The width that a first byte tells. -/
def td (b : Nat) : Nat := if b < 128 then 1 else if b < 192 then 2 else if b < 224 then 3 else if b < 240 then 4 else if b < 248 then 5 else if b < 252 then 6 else if b < 254 then 7 else if b < 255 then 8 else 9

end Go.Proofs.YtgifflfjhockaaaGreatDoor.V

namespace Go.Proofs.YtgifflfjhockaaaGreatDoor.V
open Go.RowKit

/-- Bytes as a number, the highest first. -/
def vl (l : List UInt8) : Nat := l.foldl (fun s d => s * 256 + d.toNat) 0
/-- The number that w bytes tell, the mark taken off. -/
def dc (w : Nat) (l : List UInt8) : Nat := vl l - mk w * 256 ^ (w - 1)

/-- What comes next: the number, its width, the error. -/
def nx (l : List UInt8) : Nat × Nat × Nat :=
  match l with
  | [] => (0, 0, 10)
  | b :: r => if r.length + 1 < td b.toNat then (0, 0, 10) else
      if wd (dc (td b.toNat) ((b :: r).take (td b.toNat))) < td b.toNat then (0, 0, 11) else (dc (td b.toNat) ((b :: r).take (td b.toNat)), td b.toNat, 0)

end Go.Proofs.YtgifflfjhockaaaGreatDoor.V

namespace Go.Proofs.YtgifflfjhockaaaGreatDoor.V
open Go.RowKit

theorem keepN {w w1 w2 : World} (h : Keep NoB w w1) (h' : Keep NoB w1 w2) : Keep NoB w w2 := h.trans h' (fun _ hf _ => hf.elim)

end Go.Proofs.YtgifflfjhockaaaGreatDoor.V

namespace Go.Proofs.YtgifflfjhockaaaGreatDoor.V
open Go.RowKit

end Go.Proofs.YtgifflfjhockaaaGreatDoor.V

namespace Go.Proofs.YtgifflfjhockaaaGreatDoor.V
open Go.RowKit

end Go.Proofs.YtgifflfjhockaaaGreatDoor.V

namespace Go.Proofs.YtgifflfjhockaaaGreatDoor.V
open Go.RowKit

/-- A Reel at block br that has the bytes l and the place p; all its blocks are of O. -/
def ReelAt (w : World) (br : Nat) (O : Nat → Prop) (l : List UInt8) (p : Nat) : Prop :=
  O br ∧ p ≤ l.length ∧ ∃ A c, Blk w br 210 #[.slice A l.length c, .int .i64 p] ∧ Rd w A l ∧ l.length ≤ c ∧ c ≤ maxLen ∧ ∀ ad, A = some ad → O ad.block ∧ ad.block < w.heap.size

theorem ReelAt.keep {w w' : World} {br p : Nat} {O O' : Nat → Prop} {l : List UInt8} (h : ReelAt w br O l p) (hk : Keep O' w w') (hn : ∀ k, O k → ¬ O' k) : ReelAt w' br O l p := by
  obtain ⟨h1, h2, A, c, hb, hr, hc, hm, hA⟩ := h
  exact ⟨h1, h2, A, c, hb.keep hk (hn _ h1), hr.keep hk (fun ad e _ => hn _ (hA ad e).1), hc, hm, fun ad e => ⟨(hA ad e).1, Nat.lt_of_lt_of_le (hA ad e).2 hk.size⟩⟩
theorem ReelAt.mono {w : World} {br p : Nat} {O O' : Nat → Prop} {l : List UInt8} (h : ReelAt w br O l p) (hO : ∀ k, O k → k < w.heap.size → O' k) : ReelAt w br O' l p := by
  obtain ⟨h1, h2, A, c, hb, hr, hc, hm, hA⟩ := h
  exact ⟨hO _ h1 hb.lt, h2, A, c, hb, hr, hc, hm, fun ad e => ⟨hO _ (hA ad e).1 (hA ad e).2, (hA ad e).2⟩⟩

end Go.Proofs.YtgifflfjhockaaaGreatDoor.V

namespace Go.Proofs.YtgifflfjhockaaaGreatDoor.V
open Go.RowKit

end Go.Proofs.YtgifflfjhockaaaGreatDoor.V

namespace Go.Proofs.YtgifflfjhockaaaGreatDoor.V
open Go.RowKit

theorem ReelAt.cells {w : World} {br p : Nat} {O : Nat → Prop} {l : List UInt8} (h : ReelAt w br O l p) : ∃ A c, Blk w br 210 #[.slice A l.length c, .int .i64 p] ∧ Rd w A l ∧ l.length ≤ c ∧ c ≤ maxLen ∧ ∀ ad, A = some ad → O ad.block ∧ ad.block < w.heap.size := h.2.2

end Go.Proofs.YtgifflfjhockaaaGreatDoor.V

namespace Go.Proofs.YtgifflfjhockaaaGreatDoor.V
open Go.RowKit

end Go.Proofs.YtgifflfjhockaaaGreatDoor.V

namespace Go.Proofs.YtgifflfjhockaaaGreatDoor.V
open Go.RowKit

/-- The document's own Reel at block br that has the bytes l and the place p; all its blocks are of O. -/
def RefAt (w : World) (br : Nat) (O : Nat → Prop) (l : List UInt8) (p : Nat) : Prop :=
  O br ∧ p ≤ l.length ∧ ∃ A c, Blk w br 104 #[.slice A l.length c, .int .i64 p] ∧ Rd w A l ∧ l.length ≤ c ∧ c ≤ maxLen ∧ ∀ ad, A = some ad → O ad.block ∧ ad.block < w.heap.size

theorem RefAt.keep {w w' : World} {br p : Nat} {O O' : Nat → Prop} {l : List UInt8} (h : RefAt w br O l p) (hk : Keep O' w w') (hn : ∀ k, O k → ¬ O' k) : RefAt w' br O l p := by
  obtain ⟨h1, h2, A, c, hb, hr, hc, hm, hA⟩ := h
  exact ⟨h1, h2, A, c, hb.keep hk (hn _ h1), hr.keep hk (fun ad e _ => hn _ (hA ad e).1), hc, hm, fun ad e => ⟨(hA ad e).1, Nat.lt_of_lt_of_le (hA ad e).2 hk.size⟩⟩
theorem RefAt.mono {w : World} {br p : Nat} {O O' : Nat → Prop} {l : List UInt8} (h : RefAt w br O l p) (hO : ∀ k, O k → k < w.heap.size → O' k) : RefAt w br O' l p := by
  obtain ⟨h1, h2, A, c, hb, hr, hc, hm, hA⟩ := h
  exact ⟨hO _ h1 hb.lt, h2, A, c, hb, hr, hc, hm, fun ad e => ⟨hO _ (hA ad e).1 (hA ad e).2, (hA ad e).2⟩⟩

theorem RefAt.cells {w : World} {br p : Nat} {O : Nat → Prop} {l : List UInt8} (h : RefAt w br O l p) : ∃ A c, Blk w br 104 #[.slice A l.length c, .int .i64 p] ∧ Rd w A l ∧ l.length ≤ c ∧ c ≤ maxLen ∧ ∀ ad, A = some ad → O ad.block ∧ ad.block < w.heap.size := h.2.2

end Go.Proofs.YtgifflfjhockaaaGreatDoor.V

namespace Go.Proofs.YtgifflfjhockaaaGreatDoor.V
open Go.RowKit

end Go.Proofs.YtgifflfjhockaaaGreatDoor.V

namespace Go.Proofs.YtgifflfjhockaaaGreatDoor.V
open Go.RowKit

end Go.Proofs.YtgifflfjhockaaaGreatDoor.V

namespace Go.Proofs.YtgifflfjhockaaaGreatDoor.S
open Go.RowKit

theorem rd_n {w w' : World} {A : Option Addr} {l : List UInt8} (h : V.Rd w A l) (hk : Keep NoB w w') : V.Rd w' A l := h.keep hk (fun _ _ _ => id)
end Go.Proofs.YtgifflfjhockaaaGreatDoor.S

namespace Go.Proofs.YtgifflfjhockaaaGreatDoor.S
open Go.RowKit W

/-- How many bytes so many types are laid into. -/
def sz (n : Nat) : Nat := (n + 3) / 4
end Go.Proofs.YtgifflfjhockaaaGreatDoor.S

namespace Go.Proofs.YtgifflfjhockaaaGreatDoor.A
open Go.RowKit

abbrev str (l : List UInt8) : ByteArray := ⟨l.toArray⟩
/-- Texts as cells. -/
abbrev svs (l : List (List UInt8)) : List Value := l.map fun s => .string (str s)
end Go.Proofs.YtgifflfjhockaaaGreatDoor.A

namespace Go.Proofs.YtgifflfjhockaaaGreatDoor.A
open Go.RowKit

def binNs : List (List UInt8) := [[97, 100, 100], [115, 117, 98], [109, 117, 108], [100, 105, 118], [114, 101, 109], [97, 110, 100], [111, 114], [120, 111, 114], [97, 110, 100, 110, 111, 116], [115, 104, 108], [115, 104, 114], [108, 116], [108, 101], [101, 113]]
def unNs : List (List UInt8) := [[110, 101, 103], [110, 111, 116], [122, 101, 114, 111], [105, 56], [105, 49, 54], [105, 51, 50], [117, 56], [117, 49, 54], [117, 51, 50]]
end Go.Proofs.YtgifflfjhockaaaGreatDoor.A

namespace Go.Proofs.YtgifflfjhockaaaGreatDoor.O

/-- An instruction's row. -/
structure Row where
  name : List UInt8
  ka : Int
  kb : Int
  ta : Int
  tb : Int
  la : Int
  lb : Int
  hop : Bool
  fin : Bool

def rowsL : List Row := [
  ⟨[110, 111, 112], 0, 0, 0, 0, 0, 0, false, false⟩,
  ⟨[105, 110, 116], 1, 0, 0, 0, 1, 0, false, false⟩,
  ⟨[122, 101, 114, 111], 2, 0, 0, 0, -1, 0, false, false⟩,
  ⟨[108, 111, 97, 100], 4, 0, 0, 0, 0, 0, true, false⟩,
  ⟨[115, 116, 111, 114, 101], 4, 0, 0, 0, 0, 0, true, false⟩,
  ⟨[97, 100, 100, 114], 4, 0, 0, 0, 4, 0, false, false⟩,
  ⟨[108, 100, 112], 0, 0, 4, 0, 1, 0, false, false⟩,
  ⟨[115, 116, 112], 0, 0, 4, 1, 0, 0, false, false⟩,
  ⟨[110, 101, 119], 5, 0, 0, 0, 2, 0, false, false⟩,
  ⟨[103, 101, 116], 6, 3, 2, 0, -2, 0, false, false⟩,
  ⟨[115, 101, 116], 6, 3, 2, -2, 0, 0, false, false⟩,
  ⟨[102, 117, 110, 99], 7, 0, 0, 0, 3, 0, false, false⟩,
  ⟨[100, 117, 112], 0, 0, 0, 0, 0, 0, true, false⟩,
  ⟨[100, 114, 111, 112], 0, 0, 0, 0, 0, 0, true, false⟩,
  ⟨[115, 119, 97, 112], 0, 0, 0, 0, 0, 0, true, false⟩,
  ⟨[98, 105, 110], 8, 0, 1, 1, 1, 0, false, false⟩,
  ⟨[117, 110], 9, 0, 1, 0, 1, 0, false, false⟩,
  ⟨[101, 113], 2, 0, -1, -1, 1, 0, false, false⟩,
  ⟨[106, 109, 112], 10, 0, 0, 0, 0, 0, false, true⟩,
  ⟨[106, 122], 10, 0, 1, 0, 0, 0, false, false⟩,
  ⟨[99, 97, 108, 108], 7, 0, 0, 0, 0, 0, true, false⟩,
  ⟨[99, 97, 108, 108, 105], 7, 0, 0, 0, 0, 0, true, false⟩,
  ⟨[100, 101, 102, 101, 114], 7, 0, 0, 0, 0, 0, true, false⟩,
  ⟨[100, 101, 102, 101, 114, 105], 7, 0, 0, 0, 0, 0, true, false⟩,
  ⟨[114, 101, 116], 0, 0, 0, 0, 0, 0, false, true⟩,
  ⟨[112, 97, 110, 105, 99], 0, 0, 1, 0, 0, 0, false, true⟩,
  ⟨[114, 101, 99, 111, 118, 101, 114], 0, 0, 0, 0, 1, 1, false, false⟩,
  ⟨[103, 111, 101, 120, 105, 116], 0, 0, 0, 0, 0, 0, false, true⟩,
  ⟨[112, 114, 105, 110, 116], 0, 0, 1, 0, 0, 0, false, false⟩,
  ⟨[105, 110], 0, 0, 0, 0, 1, 1, false, false⟩]
def row0 : Row := ⟨[], 0, 0, 0, 0, 0, 0, false, false⟩
/-- Is the number an instruction's? -/
def isOp (op : Int) : Bool := decide (0 ≤ op ∧ op < 30)
/-- The row of a number; an empty one, if it is no instruction's. -/
def rowAt (op : Int) : Row := if isOp op = true then rowsL.getD op.toNat row0 else row0

/-- The least and the greatest number of a kind of operands. -/
def lo (k : Int) : Int := if k = 1 then -9223372036854775808 else if k = 2 ∨ k = 3 then 1 else 0
def hi (k : Int) : Int :=
  if k = 1 then 9223372036854775807 else if k = 2 then 4 else if k = 3 then 3 else if k = 4 ∨ k = 5 ∨ k = 7 then 63 else if k = 6 then 15 else if k = 8 then 13 else if k = 9 then 8 else if k = 10 then 511 else 0
def inK (k n : Int) : Bool := decide (lo k ≤ n ∧ n ≤ hi k)
/-- May the instruction be? -/
def okI (op a b : Int) : Bool := isOp op && inK (rowAt op).ka a && inK (rowAt op).kb b

end Go.Proofs.YtgifflfjhockaaaGreatDoor.O

namespace Go.Proofs.YtgifflfjhockaaaGreatDoor.O
open Go.RowKit

abbrev str (l : List UInt8) : ByteArray := ⟨l.toArray⟩
/-- A result that lies in memory whole. -/
theorem results_cell {P : Program} {fn : Func} {tmps : Array Value} {a : Tmp} {t : TypeId} {ad : Addr} {v : Value} {w : World} (hr : fn.results = #[.cell a t]) (ha : tmps.getD a undef = .pointer (some ad))
    (hl : (loadVar t ad).run P w = .ok v w) : (results fn tmps).run P w = .ok v w := by
  have hq : (asAddr (.pointer (some ad))).run P w = .ok ad w := by simp [go_sem]
  unfold results
  rw [hr]
  simp only [Array.mapM_eq_mapM_toList, List.mapM_cons, List.mapM_nil]
  simp [ha, hq, hl]

end Go.Proofs.YtgifflfjhockaaaGreatDoor.O

namespace Go.Proofs.YtgifflfjhockaaaGreatDoor
open Go.RowKit

/-- A world that keeps all that lay in w0. -/
structure KW (w0 : World) where
  w : World
  keep : Keep NoB w0 w
instance kwNonempty (w0 : World) : Nonempty (KW w0) := ⟨⟨w0, Keep.refl _ _⟩⟩

theorem wp_region_kept {P : Program} {id : Nat} {Q : Exit → Act → World → Prop} {a : Act} {w : World} {l : List Oper} (w0 : World) (hm : P.follows .mixedOrders = true) (hB : Region.lexB .any l.toArray = true) (hw : Keep NoB w0 w)
    (h : wpQuiet P l.toArray (fun w' => ∃ n : KW w0, w' = n.w) (fun a' => ∀ w', (∃ n : KW w0, w' = n.w) → Q .normal a' w') l a) : (Code.region id l.toArray true).wp P Q a w :=
  wp_region_quiet (C := fun w' => ∃ n : KW w0, w' = n.w) hm hB ⟨⟨_, hw.drew⟩, rfl⟩ (by simpa using h)

/-- A callee's contract, met in such a world. -/
theorem kept_of {P : Program} {f : FuncId} {args : Array Value} {w0 : World} {n : KW w0} {v : Value}
    (h : Calls P f args n.w fun e w' => e = .returned v ∧ Keep NoB n.w w') : Calls P f args n.w fun e w'' => e = .returned v ∧ ∃ m : KW w0, w'' = m.w :=
  h.mono fun _ _ ⟨he, hk⟩ => ⟨he, ⟨_, keepN n.keep hk⟩, rfl⟩

/-- A cell that lay in w0 lies in each such world. -/
theorem KW.cell {w0 : World} {p : Addr} {v : Value} (h : w0.cell? p = some v) (n : KW w0) : n.w.cell? p = some v := n.keep.cell h id

end Go.Proofs.YtgifflfjhockaaaGreatDoor

namespace Go.Proofs.YtgifflfjhockaaaGreatDoor
open Go.RowKit

section
variable {P : Program} {ops : Array Oper} {md : Region.Mode}

/-- The operation yields a value, at once or by a call. -/
def yieldsR (R : Value → World → Prop) : Program → Result Next → Prop
  | _, .ok (.value u) w' => R u w'
  | _, .ok .skip w' => R undef w'
  | P, .ok (.enter f args) w' => Calls P f args w' fun e w'' => ∃ u, e = .returned u ∧ R u w''
  | _, _ => False
def yieldsK (P : Program) (o : Oper) (a : Act) (w : World) (R : Value → World → Prop) : Prop := yieldsR R P ((execOp a.eval o).run P w)

theorem Oper.wp_of_yields {o : Oper} {a : Act} {w : World} {K' : Act → World → Prop} {Q' : Exit → Act → World → Prop} {R : Value → World → Prop} (h : yieldsK P o a w R) (hK : ∀ u w', R u w' → K' (a.put o.dst u) w') : o.wp P a w K' Q' := by
  unfold yieldsK at h
  unfold Oper.wp
  generalize (execOp a.eval o).run P w = r at *
  cases r with
  | ok n w' =>
    cases n <;> simp only [yieldsR] at h <;> simp only [Oper.upon]
    case value u => exact hK _ _ h
    case skip => exact hK _ _ h
    case enter f args => exact h.mono fun e w'' ⟨u, he, hr⟩ => by subst he; exact hK _ _ hr
  | halt x w' => simp only [yieldsR] at h

end
end Go.Proofs.YtgifflfjhockaaaGreatDoor

namespace Go.Proofs.YtgifflfjhockaaaGreatDoor
open Go.RowKit

section
variable {P : Program} {l tl : List Oper} {Q : Act → World → Prop} {rest : List (Nat × Bool)} {i : Nat} {gen : Bool} {o : Oper} {a : Act} {I : World → Prop}

/-! The same laws with the goal shut in a structure: a goal that is laid bare is unfolded, operation by operation, wherever one is not wanted. -/

end
end Go.Proofs.YtgifflfjhockaaaGreatDoor

namespace Go.Proofs.YtgifflfjhockaaaGreatDoor.O
open Go.RowKit

/-- A function value; one with a captured variable, which lies in block n. -/
abbrev fnV (f : Nat) : Value := .func (.func f) #[] #[]
abbrev boxV (f n : Nat) : Value := .func (.func f) #[] #[.pointer (some ⟨n, 0, none⟩)]
/-- Does the kind tell its numbers by digits; by words? -/
def digK (k : Int) : Bool := decide (k = 1 ∨ k = 4 ∨ k = 5 ∨ k = 6 ∨ k = 7 ∨ k = 10)
def wordK (k : Int) : Bool := decide (k = 2 ∨ k = 3 ∨ k = 8 ∨ k = 9)
/-- The functions that tell a kind's words, and read them. -/
def wordF (k : Int) : Nat := if k = 8 then 216 else if k = 9 then 218 else 214
def readF (k : Int) : Nat := if k = 8 then 217 else if k = 9 then 219 else 215

/-- The functions of a kind's operand, as they lie in memory. -/
def FnAt (k : Int) (sh gu : Value) (w : World) : Prop :=
  (k = 0 ∧ sh = .nilFunc ∧ gu = .nilFunc) ∨ (digK k = true ∧ sh = fnV 226 ∧ gu = fnV 228) ∨
    (wordK k = true ∧ ∃ b c, sh = boxV 230 b ∧ gu = boxV 231 c ∧ w.cell? ⟨b, 0, none⟩ = some (fnV (wordF k)) ∧ w.cell? ⟨c, 0, none⟩ = some (fnV (readF k)))
theorem FnAt.keep {k : Int} {sh gu : Value} {w w' : World} (h : FnAt k sh gu w) (hk : Keep NoB w w') : FnAt k sh gu w' := by
  rcases h with h | h | ⟨h, b, c, h1, h2, h3, h4⟩
  · exact .inl h
  · exact .inr (.inl h)
  · exact .inr (.inr ⟨h, b, c, h1, h2, hk.cell h3 id, hk.cell h4 id⟩)

end Go.Proofs.YtgifflfjhockaaaGreatDoor.O

namespace Go.Proofs.YtgifflfjhockaaaGreatDoor.O
open Go.RowKit

end Go.Proofs.YtgifflfjhockaaaGreatDoor.O

namespace Go.Proofs.YtgifflfjhockaaaGreatDoor.O
open Go.RowKit

end Go.Proofs.YtgifflfjhockaaaGreatDoor.O

namespace Go.Proofs.YtgifflfjhockaaaGreatDoor.O
open Go.RowKit

def chk (op a b : Int) : Int := if okI op a b = true then 0 else 40
end Go.Proofs.YtgifflfjhockaaaGreatDoor.O

namespace Go.Proofs.YtgifflfjhockaaaGreatDoor.C
open Go.RowKit O

/-- An instruction: its op, and its operands. -/
abbrev I3 := Int × Int × Int
/-- Instructions as cells. -/
def iis (l : List I3) : List Value := l.flatMap fun x => [.int .i64 x.1, .int .i64 x.2.1, .int .i64 x.2.2]
theorem iis_cons (x : I3) (l : List I3) : iis (x :: l) = [.int .i64 x.1, .int .i64 x.2.1, .int .i64 x.2.2] ++ iis l := by unfold iis; rw [List.flatMap_cons]
theorem iis_length (l : List I3) : (iis l).length = l.length * 3 := by
  induction l with
  | nil => rfl
  | cons v l ih => rw [iis_cons, List.length_append, ih]; simp; omega
theorem iis_at : ∀ (l : List I3) (i : Nat) (h : i < l.length), (iis l)[i * 3]? = some (.int .i64 l[i].1) ∧ (iis l)[i * 3 + 1]? = some (.int .i64 l[i].2.1) ∧ (iis l)[i * 3 + 2]? = some (.int .i64 l[i].2.2)
  | v :: l, 0, _ => by rw [iis_cons]; exact ⟨rfl, rfl, rfl⟩
  | v :: l, i + 1, h => by
    have := iis_at l i (by simpa using h)
    rw [iis_cons, show (i + 1) * 3 = i * 3 + 3 by omega]
    exact ⟨by simpa using this.1, by simpa using this.2.1, by simpa using this.2.2⟩
theorem rdJ_at {w : World} {A : Option Addr} {l : List I3} (h : Rd w A (iis l)) (h0 : 0 < l.length) : ∃ g off, A = some ⟨g, off, none⟩ ∧
    ∀ (i : Nat) (hi : i < l.length), w.cell? ⟨g, off + i * 3, none⟩ = some (.int .i64 l[i].1) ∧ w.cell? ⟨g, off + i * 3 + 1, none⟩ = some (.int .i64 l[i].2.1) ∧ w.cell? ⟨g, off + i * 3 + 2, none⟩ = some (.int .i64 l[i].2.2) := by
  obtain ⟨g, off, e, hc⟩ := h (by rw [iis_length]; omega)
  refine ⟨g, off, e, fun i hi => ?_⟩
  obtain ⟨h1, h2, h3⟩ := iis_at l i hi
  exact ⟨hc _ _ h1, hc _ _ h2, hc _ _ h3⟩

end Go.Proofs.YtgifflfjhockaaaGreatDoor.C

namespace Go.Proofs.YtgifflfjhockaaaGreatDoor.F
open Go.RowKit W

/-- A function. -/
structure Fu where
  nm : List UInt8
  ar : List Int
  rs : List Int
  lc : List Int
  bd : List C.I3
/-- Are both the same? -/
def sameF (f g : Fu) : Bool := decide (f.nm = g.nm ∧ (f.ar = g.ar ∧ f.rs = g.rs) ∧ f.lc = g.lc ∧ f.bd = g.bd)
theorem sameF_iff (f g : Fu) : sameF f g = true ↔ f = g := by
  unfold sameF
  rw [decide_eq_true_iff]
  constructor
  · rintro ⟨h1, ⟨h2, h3⟩, h4, h5⟩
    cases f; cases g
    simp only at h1 h2 h3 h4 h5
    subst h1 h2 h3 h4 h5; rfl
  · rintro rfl; exact ⟨rfl, ⟨rfl, rfl⟩, rfl, rfl⟩

end Go.Proofs.YtgifflfjhockaaaGreatDoor.F

namespace Go.Proofs.YtgifflfjhockaaaGreatDoor.O

end Go.Proofs.YtgifflfjhockaaaGreatDoor.O

namespace Go.Proofs.YtgifflfjhockaaaGreatDoor.O

end Go.Proofs.YtgifflfjhockaaaGreatDoor.O

namespace Go.Proofs.YtgifflfjhockaaaGreatDoor.C
open Go.RowKit O

end Go.Proofs.YtgifflfjhockaaaGreatDoor.C

namespace Go.Proofs.YtgifflfjhockaaaGreatDoor.F
open Go.RowKit W

/-- What Decode hands out. -/
def nilF : Fu := ⟨[], [], [], [], []⟩
end Go.Proofs.YtgifflfjhockaaaGreatDoor.F

namespace Go.Proofs.YtgifflfjhockaaaGreatDoor.I
open Go.RowKit W

/-- An image. -/
structure Im where
  sh : List (List Int)
  fn : List F.Fu
def names (p : Im) : List (List UInt8) := p.fn.map fun f => f.nm
/-- The sum's two numbers, nothing left out; the sum. -/
def adS (s : Nat × Nat) (x : UInt8) : Nat × Nat := (s.1 + x.toNat, s.2 + (s.1 + x.toNat))
def ad (l : List UInt8) : Nat × Nat := l.foldl adS (1, 0)
section
variable {α : Type}
end

/-- The number of the first function of a name. -/
def findI (l : List F.Fu) (s : List UInt8) : Option Nat := l.findIdx? fun f => decide (f.nm = s)
def findN (l : List F.Fu) (s : List UInt8) : Int := match findI l s with
  | none => 0
  | some i => (i : Int)
def findE (l : List F.Fu) (s : List UInt8) : Int := match findI l s with
  | none => 83
  | some _ => 0
instance fuEq : DecidableEq F.Fu := fun a b => decidable_of_iff (F.sameF a b = true) (F.sameF_iff a b)
/-- Are both the same? -/
def sameI (p q : Im) : Bool := decide (p.sh = q.sh ∧ p.fn = q.fn)

end Go.Proofs.YtgifflfjhockaaaGreatDoor.I

namespace Go.Proofs.YtgifflfjhockaaaGreatDoor.C
open Go.RowKit O

end Go.Proofs.YtgifflfjhockaaaGreatDoor.C

namespace Go.Proofs.YtgifflfjhockaaaGreatDoor.C
open Go.RowKit O

end Go.Proofs.YtgifflfjhockaaaGreatDoor.C

namespace Go.Proofs.YtgifflfjhockaaaGreatDoor.O
open Go.RowKit

theorem pr_ii {a b a' b' : Int} (h1 : a = a') (h2 : b = b') : Ending.returned (.tuple #[.int .i64 a, .int .i64 b]) = .returned (.tuple #[.int .i64 a', .int .i64 b']) := by rw [h1, h2]

end Go.Proofs.YtgifflfjhockaaaGreatDoor.O

namespace Go.Proofs.YtgifflfjhockaaaGreatDoor.W
open Go.RowKit

/-- What Check answers. -/
def chk (t n : Int) : Int := if okB t n = true then 0 else 21
/-! ### Zero, Nil -/

end Go.Proofs.YtgifflfjhockaaaGreatDoor.W

namespace Go.Proofs.YtgifflfjhockaaaGreatDoor.W
open Go.RowKit

/-! ### great -/

end Go.Proofs.YtgifflfjhockaaaGreatDoor.W

namespace Go.Proofs.YtgifflfjhockaaaGreatDoor.W
open Go.RowKit

set_option maxRecDepth 100000 in
set_option maxHeartbeats 2000000 in
theorem ints_any (A B : Option Addr) (la lb : List Int) (n m c d : Nat) (w : World) (ha : Rd w A (ivs la)) (hb : Rd w B (ivs lb)) (hn : Hid (la.length = n)) (hm : Hid (lb.length = m))
    (h1 : n ≤ 9223372036854775807) (h2 : m ≤ 9223372036854775807) (R : Bool) (hR : Hid (R = decide (la = lb))) :
    Calls Tryz.prog 50 #[.slice A n c, .slice B m d] w fun e w' => e = .returned (.bool R) ∧ Keep NoB w w' := by
  by_cases hnm : n = m
  · subst hnm
    go_enter Tryz.func50, Tryz.ntmps50
    go_wp2
    go_loopw [5] (fun i wr => ∃ k : Nat, k ≤ n ∧ i = .int .i64 k ∧ Hid (la.take k = lb.take k) ∧ Keep NoB w wr) (fun i _ => n - (intOf i).toNat)
    case atStart => exact ⟨0, Nat.zero_le _, rfl, rfl, Keep.refl _ _⟩
    case round =>
      obtain ⟨k, hk, rfl, ht, hK⟩ := hrel
      by_cases hlt : k < n
      · have hka : k < la.length := by rw [hn.out]; exact hlt
        have hkb : k < lb.length := by rw [hm.out]; exact hlt
        obtain ⟨ga, oa, rfl, hca⟩ := rdI_at ha (by omega)
        obtain ⟨gb, ob, rfl, hcb⟩ := rdI_at hb (by omega)
        have ca := hK.cell (hca k hka) id
        have cb := hK.cell (hcb k hkb) id
        have HT := Lib.hid (show la.take (k + 1) = la.take k ++ [la[k]] from List.take_succ_eq_append_getElem hka)
        have HU := Lib.hid (show lb.take (k + 1) = lb.take k ++ [lb[k]] from List.take_succ_eq_append_getElem hkb)
        clear hca hcb
        by_cases he : la[k] = lb[k]
        · have HV : Hid (la.take (k + 1) = lb.take (k + 1)) := by show _ = _; rw [HT.out, HU.out, ht.out, he]
          rw [he] at ca
          clear he HT HU ha hb
          generalize lb[k] = y at ca cb
          go_wp2
          go_quiet (fail)
          go_wp2
          go_roundw
          case rel => exact ⟨k + 1, by omega, by go_num, HV, hK.drewN _⟩
          case measure => simp [intOf]; omega
        · have hf : R = false := by
            rw [hR.out, decide_eq_false_iff_not]
            intro e
            exact he (by simp [e])
          subst hf
          clear HT HU ha hb
          generalize la[k] = x at ca he
          generalize lb[k] = y at cb he
          have hne : (x != y) = true := by rw [bne_iff_ne]; exact he
          clear he
          go_wp2
          go_quiet (fail)
          go_wp2
          go_ret
          exact ⟨rfl, hK.drewN _⟩
      · have hf : R = true := by
          rw [hR.out, decide_eq_true_iff]
          have e1 := ht.out
          rwa [List.take_of_length_le (by rw [hn.out]; omega), List.take_of_length_le (by rw [hm.out]; omega)] at e1
        subst hf
        go_wp2
        go_ret
        exact ⟨rfl, hK⟩
  · have hf : R = false := by
      rw [hR.out, decide_eq_false_iff_not]
      intro e
      exact hnm (by rw [← hn.out, ← hm.out, e])
    subst hf
    have hne : ((n : Int) != (m : Int)) = true := by rw [bne_iff_ne]; omega
    clear hnm
    go_enter Tryz.func50, Tryz.ntmps50
    go_wp2
    go_ret
    exact ⟨rfl, Keep.refl _ _⟩

end Go.Proofs.YtgifflfjhockaaaGreatDoor.W

namespace Go.Proofs.YtgifflfjhockaaaGreatDoor.W
open Go.RowKit

/-- The zeros of types. -/
def zs (l : List Int) : List (Int × Int) := l.map fun t => (t, 0)

/-- The types of values. -/
def ts (x : List (Int × Int)) : List Int := x.map (·.1)

end Go.Proofs.YtgifflfjhockaaaGreatDoor.W

namespace Go.Proofs.YtgifflfjhockaaaGreatDoor.W
open Go.RowKit

end Go.Proofs.YtgifflfjhockaaaGreatDoor.W

namespace Go.Proofs.YtgifflfjhockaaaGreatDoor.W
open Go.RowKit

theorem gLet : Tryz.prog.globalNamed "backstay/value.letters" = some 0 := by kernel_rfl
theorem gPow : Tryz.prog.globalNamed "internal/strconv.uint64pow10" = some 3 := by kernel_rfl
theorem gSyn : Tryz.prog.globalNamed "strconv.ErrSyntax" = some 4 := by kernel_rfl
theorem gRng : Tryz.prog.globalNamed "strconv.ErrRange" = some 5 := by kernel_rfl

theorem var_keep {n : String} {g : Nat} {cs : Array Value} {w w' : World} (hg : Tryz.prog.globalNamed n = some g) (h : w.var? Tryz.prog n = some cs) (hk : Keep NoB w w') : w'.var? Tryz.prog n = some cs :=
  Go.Joins.var_stays hg h hk.toBelow (Nat.le_refl _)

def letV : Array Value := #[.int .i32 0, .int .i32 73, .int .i32 82, .int .i32 70, .int .i32 80]
/-- The letters stand. -/
def LetAt (w : World) : Prop := w.var? Tryz.prog "backstay/value.letters" = some letV
theorem LetAt.keep {w w' : World} (h : LetAt w) (hk : Keep NoB w w') : LetAt w' := var_keep gLet h hk
theorem LetAt.cell {w : World} (h : LetAt w) (i : Nat) : w.cell? ⟨0, i, none⟩ = letV[i]? := World.var?_cell gLet h i

/-- What the texts of values are made with stands. -/
structure Laid (w : World) : Prop where
  pow : Lib.TabIs Tryz.prog w "internal/strconv.uint64pow10" .u64 Lib.pow10Tab
  syn : ∃ tp p, w.var? Tryz.prog "strconv.ErrSyntax" = some #[.iface tp p]
  rng : ∃ tp p, w.var? Tryz.prog "strconv.ErrRange" = some #[.iface tp p]
theorem Laid.keep {w w' : World} (h : Laid w) (hk : Keep NoB w w') : Laid w' :=
  ⟨var_keep gPow h.pow hk, h.syn.imp fun _ ⟨p, hp⟩ => ⟨p, var_keep gSyn hp hk⟩, h.rng.imp fun _ ⟨p, hp⟩ => ⟨p, var_keep gRng hp hk⟩⟩
end Go.Proofs.YtgifflfjhockaaaGreatDoor.W

namespace Go.Proofs.YtgifflfjhockaaaGreatDoor.W
open Go.RowKit

end Go.Proofs.YtgifflfjhockaaaGreatDoor.W

namespace Go.Proofs.YtgifflfjhockaaaGreatDoor.A
open Go.ChangeShapes Go.WideShapes Go.ChangeAt Go.RowKit

end Go.Proofs.YtgifflfjhockaaaGreatDoor.A

namespace Go.Proofs.YtgifflfjhockaaaGreatDoor.A
open Go.RowKit

theorem gBin : Tryz.prog.globalNamed "backstay/alu.binNames" = some 1 := by kernel_rfl
theorem gUn : Tryz.prog.globalNamed "backstay/alu.unNames" = some 2 := by kernel_rfl
theorem var_keepA {n : String} {g : Nat} {cs : Array Value} {w w' : World} (hg : Tryz.prog.globalNamed n = some g) (h : w.var? Tryz.prog n = some cs) (hk : Keep NoB w w') : w'.var? Tryz.prog n = some cs :=
  Go.Joins.var_stays hg h hk.toBelow (Nat.le_refl _)

/-- The names stand. -/
structure NamesAt (w : World) : Prop where
  bin : w.var? Tryz.prog "backstay/alu.binNames" = some (svs binNs).toArray
  un : w.var? Tryz.prog "backstay/alu.unNames" = some (svs unNs).toArray
theorem NamesAt.keep (w w' : World) (h : NamesAt w) (hk : Keep NoB w w') : NamesAt w' := ⟨var_keepA gBin h.bin hk, var_keepA gUn h.un hk⟩

end Go.Proofs.YtgifflfjhockaaaGreatDoor.A

namespace Go.Proofs.YtgifflfjhockaaaGreatDoor.O
open Go.RowKit

/-- What the texts of operands are made with stands. -/
structure LaidO (w : World) : Prop where
  lets : W.LetAt w
  names : A.NamesAt w
  lib : W.Laid w
theorem LaidO.keep {w w' : World} (h : LaidO w) (hk : Keep NoB w w') : LaidO w' := ⟨h.lets.keep hk, A.NamesAt.keep _ _ h.names hk, h.lib.keep hk⟩
def I64 (n : Int) : Prop := -9223372036854775808 ≤ n ∧ n ≤ 9223372036854775807

end Go.Proofs.YtgifflfjhockaaaGreatDoor.O

namespace Go.Proofs.YtgifflfjhockaaaGreatDoor.O
open Go.RowKit

end Go.Proofs.YtgifflfjhockaaaGreatDoor.O

namespace Go.Proofs.YtgifflfjhockaaaGreatDoor.O
open Go.RowKit

end Go.Proofs.YtgifflfjhockaaaGreatDoor.O

namespace Go.Proofs.YtgifflfjhockaaaGreatDoor.C
open Go.RowKit O

/-- The numbers of a list fit. -/
def AllI (l : List I3) : Prop := ∀ x ∈ l, O.I64 x.2.1 ∧ O.I64 x.2.2

set_option maxRecDepth 100000 in
set_option maxHeartbeats 4000000 in
theorem lists_any (A B : Option Addr) (la lb : List I3) (n m c d : Nat) (w : World) (ha : Rd w A (iis la)) (hb : Rd w B (iis lb)) (hn : Hid (la.length = n)) (hm : Hid (lb.length = m))
    (h1 : n ≤ 9223372036854775807) (h2 : m ≤ 9223372036854775807) (R : Bool) (hR : Hid (R = decide (la = lb))) :
    Calls Tryz.prog 93 #[.slice A n c, .slice B m d] w fun e w' => e = .returned (.bool R) ∧ Keep NoB w w' := by
  by_cases hnm : n = m
  · subst hnm
    go_enter Tryz.func93, Tryz.ntmps93
    go_wp2
    go_loopw [5] (fun i wr => ∃ k : Nat, k ≤ n ∧ i = .int .i64 k ∧ Hid (la.take k = lb.take k) ∧ Keep NoB w wr) (fun i _ => n - (intOf i).toNat)
    case atStart => exact ⟨0, Nat.zero_le _, rfl, rfl, Keep.refl _ _⟩
    case round =>
      obtain ⟨k, hk, rfl, ht, hK⟩ := hrel
      by_cases hlt : k < n
      · have hka : k < la.length := by rw [hn.out]; exact hlt
        have hkb : k < lb.length := by rw [hm.out]; exact hlt
        obtain ⟨ga, oa, rfl, hca⟩ := rdJ_at ha (by omega)
        obtain ⟨gb, ob, rfl, hcb⟩ := rdJ_at hb (by omega)
        have ca0 := hK.cell (hca k hka).1 id
        have ca1 := hK.cell (hca k hka).2.1 id
        have ca2 := hK.cell (hca k hka).2.2 id
        have cb0 := hK.cell (hcb k hkb).1 id
        have cb1 := hK.cell (hcb k hkb).2.1 id
        have cb2 := hK.cell (hcb k hkb).2.2 id
        have HT := Lib.hid (show la.take (k + 1) = la.take k ++ [la[k]] from List.take_succ_eq_append_getElem hka)
        have HU := Lib.hid (show lb.take (k + 1) = lb.take k ++ [lb[k]] from List.take_succ_eq_append_getElem hkb)
        clear hca hcb
        by_cases he : la[k] = lb[k]
        · have HV : Hid (la.take (k + 1) = lb.take (k + 1)) := by show _ = _; rw [HT.out, HU.out, ht.out, he]
          rw [he] at ca0 ca1 ca2
          clear he HT HU ha hb
          generalize lb[k] = y at ca0 ca1 ca2 cb0 cb1 cb2
          obtain ⟨y0, y1, y2⟩ := y
          dsimp only at ca0 ca1 ca2 cb0 cb1 cb2
          go_wp2
          go_quiet (fail)
          go_wp2
          go_roundw
          case rel => exact ⟨k + 1, by omega, by go_num, HV, hK.drewN _⟩
          case measure => simp [intOf]; omega
        · have hf : R = false := by
            rw [hR.out, decide_eq_false_iff_not]
            intro e
            exact he (by simp [e])
          subst hf
          clear HT HU ha hb
          generalize la[k] = x at ca0 ca1 ca2 he
          generalize lb[k] = y at cb0 cb1 cb2 he
          obtain ⟨x0, x1, x2⟩ := x
          obtain ⟨y0, y1, y2⟩ := y
          dsimp only at ca0 ca1 ca2 cb0 cb1 cb2
          by_cases h0 : x0 = y0
          · subst h0
            by_cases h3 : x1 = y1
            · subst h3
              have hne : (x2 == y2) = false := by rw [beq_eq_false_iff_ne]; rintro rfl; exact he rfl
              clear he
              go_wp2
              go_quiet (fail)
              go_wp2
              go_ret
              exact ⟨rfl, hK.drewN _⟩
            · have hne : (x1 == y1) = false := by rw [beq_eq_false_iff_ne]; exact h3
              clear he h3
              go_wp2
              go_quiet (fail)
              go_wp2
              go_ret
              exact ⟨rfl, hK.drewN _⟩
          · have hne : (x0 == y0) = false := by rw [beq_eq_false_iff_ne]; exact h0
            clear he h0
            go_wp2
            go_quiet (fail)
            go_wp2
            go_ret
            exact ⟨rfl, hK.drewN _⟩
      · have hf : R = true := by
          rw [hR.out, decide_eq_true_iff]
          have e1 := ht.out
          rwa [List.take_of_length_le (by rw [hn.out]; omega), List.take_of_length_le (by rw [hm.out]; omega)] at e1
        subst hf
        go_wp2
        go_ret
        exact ⟨rfl, hK⟩
  · have hf : R = false := by
      rw [hR.out, decide_eq_false_iff_not]
      intro e
      exact hnm (by rw [← hn.out, ← hm.out, e])
    subst hf
    have hne : ((n : Int) != (m : Int)) = true := by rw [bne_iff_ne]; omega
    clear hnm
    go_enter Tryz.func93, Tryz.ntmps93
    go_wp2
    go_ret
    exact ⟨rfl, Keep.refl _ _⟩

end Go.Proofs.YtgifflfjhockaaaGreatDoor.C

namespace Go.Proofs.YtgifflfjhockaaaGreatDoor.F
open Go.RowKit W

/-- A function's value: its name, and where its lists lie. -/
structure FV where
  S : ByteArray
  A : Option Addr
  na : Nat
  ca : Nat
  B : Option Addr
  nb : Nat
  cb : Nat
  L : Option Addr
  nl : Nat
  cl : Nat
  D : Option Addr
  nd : Nat
  cd : Nat
def FV.cells (v : FV) : Array Value := #[.string v.S, .slice v.A v.na v.ca, .slice v.B v.nb v.cb, .slice v.L v.nl v.cl, .slice v.D v.nd v.cd]
def FV.val (v : FV) : Value := .agg v.cells
/-- What its lists hold, wherever the value itself lies; numbers fit an int64. -/
structure FnAt (w : World) (v : FV) (f : Fu) : Prop where
  nm : v.S.data.toList = f.nm
  ra : Rd w v.A (ivs f.ar)
  rb : Rd w v.B (ivs f.rs)
  rl : Rd w v.L (ivs f.lc)
  rd : Rd w v.D (C.iis f.bd)
  la : f.ar.length = v.na
  lb : f.rs.length = v.nb
  ll : f.lc.length = v.nl
  ld : f.bd.length = v.nd
  hI : C.AllI f.bd
/-- It is no greater than statements go through. -/
structure SmF (v : FV) : Prop where
  sz : v.S.size ≤ 100
  na : v.na ≤ 100
  nb : v.nb ≤ 100
  nl : v.nl ≤ 100
  nd : v.nd ≤ 600
theorem FnAt.keep {O : Nat → Prop} {w w' : World} {v : FV} {f : Fu} (h : FnAt w v f) (hk : Keep O w w') (hO : ∀ k, k < w.heap.size → ¬ O k) : FnAt w' v f :=
  have h2 : Keep NoB w w' := hk.mono (fun k ho hl => absurd ho (hO k hl))
  ⟨h.nm, h.ra.keepN h2, h.rb.keepN h2, h.rl.keepN h2, h.rd.keepN h2, h.la, h.lb, h.ll, h.ld, h.hI⟩
theorem FnAt.keepN {w w' : World} {v : FV} {f : Fu} (h : FnAt w v f) (hk : Keep NoB w w') : FnAt w' v f := h.keep hk (fun _ _ => id)
theorem sz_len {S : ByteArray} {s : List UInt8} (h : S.data.toList = s) : S.size = s.length := by rw [← h]; rfl
theorem blk5 {w : World} {g : Nat} {t : TypeId} {v : FV} (h : Blk w g t v.cells) : w.cell? ⟨g, 0, none⟩ = some (.string v.S) ∧ w.cell? ⟨g, 1, none⟩ = some (.slice v.A v.na v.ca) ∧ w.cell? ⟨g, 2, none⟩ = some (.slice v.B v.nb v.cb) ∧
    w.cell? ⟨g, 3, none⟩ = some (.slice v.L v.nl v.cl) ∧ w.cell? ⟨g, 4, none⟩ = some (.slice v.D v.nd v.cd) := ⟨h.cell 0, h.cell 1, h.cell 2, h.cell 3, h.cell 4⟩

end Go.Proofs.YtgifflfjhockaaaGreatDoor.F

namespace Go.Proofs.YtgifflfjhockaaaGreatDoor
open Go.RowKit

section
variable {P : Program} {ops : Array Oper} {md : Region.Mode}

end
end Go.Proofs.YtgifflfjhockaaaGreatDoor

namespace Go.Proofs.YtgifflfjhockaaaGreatDoor.S
open Go.RowKit W

end Go.Proofs.YtgifflfjhockaaaGreatDoor.S

namespace Go.Proofs.YtgifflfjhockaaaGreatDoor.S
open Go.RowKit W

theorem blk2 {w : World} {g : Nat} {t : TypeId} {a0 a1 : Value} (h : Blk w g t #[a0, a1]) : w.cell? ⟨g, 0, none⟩ = some a0 ∧ w.cell? ⟨g, 1, none⟩ = some a1 := ⟨h.cell 0, h.cell 1⟩
set_option maxRecDepth 100000 in
set_option maxHeartbeats 2000000 in
theorem equal_any (A B : Option Addr) (la lb : List Int) (n m c d : Nat) (w : World) (ha : Rd w A (ivs la)) (hb : Rd w B (ivs lb)) (hn : Hid (la.length = n)) (hm : Hid (lb.length = m))
    (h1 : n ≤ 9223372036854775807) (h2 : m ≤ 9223372036854775807) (R : Bool) (hR : Hid (R = decide (la = lb))) :
    Calls Tryz.prog 106 #[.slice A n c, .slice B m d] w fun e w' => e = .returned (.bool R) ∧ Keep NoB w w' := by
  by_cases hnm : n = m
  · subst hnm
    go_enter Tryz.func106, Tryz.ntmps106
    go_wp2
    go_loopw [13] (fun i wr => ∃ k : Nat, k ≤ n ∧ i = .int .i64 k ∧ Hid (la.take k = lb.take k) ∧ Keep NoB w wr) (fun i _ => n - (intOf i).toNat)
    case atStart => exact ⟨0, Nat.zero_le _, rfl, rfl, Keep.refl _ _⟩
    case round =>
      obtain ⟨k, hk, rfl, ht, hK⟩ := hrel
      by_cases hlt : k < n
      · have hka : k < la.length := by rw [hn.out]; exact hlt
        have hkb : k < lb.length := by rw [hm.out]; exact hlt
        obtain ⟨ga, oa, rfl, hca⟩ := rdI_at ha (by omega)
        obtain ⟨gb, ob, rfl, hcb⟩ := rdI_at hb (by omega)
        have ca := hK.cell (hca k hka) id
        have cb := hK.cell (hcb k hkb) id
        have HT := Lib.hid (show la.take (k + 1) = la.take k ++ [la[k]] from List.take_succ_eq_append_getElem hka)
        have HU := Lib.hid (show lb.take (k + 1) = lb.take k ++ [lb[k]] from List.take_succ_eq_append_getElem hkb)
        clear hca hcb
        by_cases he : la[k] = lb[k]
        · have HV : Hid (la.take (k + 1) = lb.take (k + 1)) := by show _ = _; rw [HT.out, HU.out, ht.out, he]
          rw [he] at ca
          clear he HT HU ha hb
          generalize lb[k] = y at ca cb
          go_wp2
          go_quiet (fail)
          go_wp2
          go_roundw
          case rel => exact ⟨k + 1, by omega, by go_num, HV, hK.drewN _⟩
          case measure => simp [intOf]; omega
        · have hf : R = false := by
            rw [hR.out, decide_eq_false_iff_not]
            intro e
            exact he (by simp [e])
          subst hf
          clear HT HU ha hb
          generalize la[k] = x at ca he
          generalize lb[k] = y at cb he
          have hne : (x != y) = true := by rw [bne_iff_ne]; exact he
          clear he
          go_wp2
          go_quiet (fail)
          go_wp2
          go_ret
          exact ⟨rfl, hK.drewN _⟩
      · have hf : R = true := by
          rw [hR.out, decide_eq_true_iff]
          have e1 := ht.out
          rwa [List.take_of_length_le (by rw [hn.out]; omega), List.take_of_length_le (by rw [hm.out]; omega)] at e1
        subst hf
        go_wp2
        go_ret
        exact ⟨rfl, hK⟩
  · have hf : R = false := by
      rw [hR.out, decide_eq_false_iff_not]
      intro e
      exact hnm (by rw [← hn.out, ← hm.out, e])
    subst hf
    have hne : ((n : Int) != (m : Int)) = true := by rw [bne_iff_ne]; omega
    clear hnm
    go_enter Tryz.func106, Tryz.ntmps106
    go_wp2
    go_ret
    exact ⟨rfl, Keep.refl _ _⟩

set_option maxRecDepth 100000 in
set_option maxHeartbeats 4000000 in
theorem same_any (A1 : Option Addr) (a1 : List Int) (n1 c1 : Nat) (B1 : Option Addr) (r1 : List Int) (m1 d1 : Nat) (A2 : Option Addr) (a2 : List Int) (n2 c2 : Nat) (B2 : Option Addr) (r2 : List Int) (m2 d2 : Nat) (w : World)
    (ha1 : Rd w A1 (ivs a1)) (hr1 : Rd w B1 (ivs r1)) (ha2 : Rd w A2 (ivs a2)) (hr2 : Rd w B2 (ivs r2)) (hn1 : Hid (a1.length = n1)) (hm1 : Hid (r1.length = m1)) (hn2 : Hid (a2.length = n2)) (hm2 : Hid (r2.length = m2))
    (qn1 : n1 ≤ 9223372036854775807) (qm1 : m1 ≤ 9223372036854775807) (qn2 : n2 ≤ 9223372036854775807) (qm2 : m2 ≤ 9223372036854775807) (R : Bool) (hR : Hid (R = decide (a1 = a2 ∧ r1 = r2))) :
    Calls Tryz.prog 105 #[.agg #[.slice A1 n1 c1, .slice B1 m1 d1], .agg #[.slice A2 n2 c2, .slice B2 m2 d2]] w fun e w' => e = .returned (.bool R) ∧ Keep NoB w w' := by
  have bx := (Blk.new w 57 #[.slice A1 n1 c1, .slice B1 m1 d1]).alloc (.cells #[.slice A2 n2 c2, .slice B2 m2 d2] 57)
  have by2 := Blk.new (w.alloc (.cells #[.slice A1 n1 c1, .slice B1 m1 d1] 57)) 57 #[.slice A2 n2 c2, .slice B2 m2 d2]
  have k0 := ((Keep.refl NoB w).alloc (.cells #[.slice A1 n1 c1, .slice B1 m1 d1] 57)).alloc (.cells #[.slice A2 n2 c2, .slice B2 m2 d2] 57)
  rw [World.size_alloc] at by2
  have HA := Lib.hid (fun w h h' (R : Bool) hR => equal_any A1 A2 a1 a2 n1 n2 c1 c2 w h h' hn1 hn2 qn1 qn2 R hR)
  have HB := Lib.hid (fun w h h' (R : Bool) hR => equal_any B1 B2 r1 r2 m1 m2 d1 d2 w h h' hm1 hm2 qm1 qm2 R hR)
  by_cases q1 : a1 = a2
  by_cases q2 : r1 = r2
  · skip
    have HA2 := Lib.hid (fun w h h' => HA.out w h h' true (show _ = _ from (decide_eq_true q1).symm))
    have HB2 := Lib.hid (fun w h h' => HB.out w h h' true (show _ = _ from (decide_eq_true q2).symm))
    obtain rfl : R = true := by rw [hR.out, decide_eq_true_iff]; exact ⟨q1, q2⟩
    clear HA HB hR
    go_enter Tryz.func105, Tryz.ntmps105
    go_wp2_with fail
    refine (HA2.out _ (ha1.keepN k0) (ha2.keepN k0)).mono ?_
    rintro e w1 ⟨rfl, k1⟩
    obtain ⟨x0, x1⟩ := blk2 (bx.keep k1 id)
    obtain ⟨y0, y1⟩ := blk2 (by2.keep k1 id)
    go_wp2_with fail
    refine (HB2.out _ ((hr1.keepN k0).keepN k1) ((hr2.keepN k0).keepN k1)).mono ?_
    rintro e w2 ⟨rfl, k2⟩
    go_wp2
    go_ret
    exact ⟨rfl, keepN (keepN k0 k1) k2⟩
  · skip
    have HA2 := Lib.hid (fun w h h' => HA.out w h h' true (show _ = _ from (decide_eq_true q1).symm))
    have HB2 := Lib.hid (fun w h h' => HB.out w h h' false (show _ = _ from (decide_eq_false q2).symm))
    obtain rfl : R = false := by rw [hR.out, decide_eq_false_iff_not]; exact fun h => q2 h.2
    clear HA HB hR
    go_enter Tryz.func105, Tryz.ntmps105
    go_wp2_with fail
    refine (HA2.out _ (ha1.keepN k0) (ha2.keepN k0)).mono ?_
    rintro e w1 ⟨rfl, k1⟩
    obtain ⟨x0, x1⟩ := blk2 (bx.keep k1 id)
    obtain ⟨y0, y1⟩ := blk2 (by2.keep k1 id)
    go_wp2_with fail
    refine (HB2.out _ ((hr1.keepN k0).keepN k1) ((hr2.keepN k0).keepN k1)).mono ?_
    rintro e w2 ⟨rfl, k2⟩
    go_wp2
    go_ret
    exact ⟨rfl, keepN (keepN k0 k1) k2⟩
  · skip
    have HA2 := Lib.hid (fun w h h' => HA.out w h h' false (show _ = _ from (decide_eq_false q1).symm))
    obtain rfl : R = false := by rw [hR.out, decide_eq_false_iff_not]; exact fun h => q1 h.1
    clear HA HB hR
    go_enter Tryz.func105, Tryz.ntmps105
    go_wp2_with fail
    refine (HA2.out _ (ha1.keepN k0) (ha2.keepN k0)).mono ?_
    rintro e w1 ⟨rfl, k1⟩
    go_wp2
    go_ret
    exact ⟨rfl, keepN k0 k1⟩

set_option maxRecDepth 100000 in
set_option maxHeartbeats 4000000 in
theorem rsame_any (A1 : Option Addr) (a1 : List Int) (n1 c1 : Nat) (B1 : Option Addr) (r1 : List Int) (m1 d1 : Nat) (A2 : Option Addr) (a2 : List Int) (n2 c2 : Nat) (B2 : Option Addr) (r2 : List Int) (m2 d2 : Nat) (w : World)
    (ha1 : Rd w A1 (ivs a1)) (hr1 : Rd w B1 (ivs r1)) (ha2 : Rd w A2 (ivs a2)) (hr2 : Rd w B2 (ivs r2)) (hn1 : Hid (a1.length = n1)) (hm1 : Hid (r1.length = m1)) (hn2 : Hid (a2.length = n2)) (hm2 : Hid (r2.length = m2))
    (qn1 : n1 ≤ 9223372036854775807) (qm1 : m1 ≤ 9223372036854775807) (qn2 : n2 ≤ 9223372036854775807) (qm2 : m2 ≤ 9223372036854775807) (R : Bool) (hR : Hid (R = decide (a1 = a2 ∧ r1 = r2))) :
    Calls Tryz.prog 61 #[.agg #[.slice A1 n1 c1, .slice B1 m1 d1], .agg #[.slice A2 n2 c2, .slice B2 m2 d2]] w fun e w' => e = .returned (.bool R) ∧ Keep NoB w w' := by
  have bx := (Blk.new w 57 #[.slice A1 n1 c1, .slice B1 m1 d1]).alloc (.cells #[.slice A2 n2 c2, .slice B2 m2 d2] 57)
  have by2 := Blk.new (w.alloc (.cells #[.slice A1 n1 c1, .slice B1 m1 d1] 57)) 57 #[.slice A2 n2 c2, .slice B2 m2 d2]
  have k0 := ((Keep.refl NoB w).alloc (.cells #[.slice A1 n1 c1, .slice B1 m1 d1] 57)).alloc (.cells #[.slice A2 n2 c2, .slice B2 m2 d2] 57)
  rw [World.size_alloc] at by2
  have HA := Lib.hid (fun w h h' (R : Bool) hR => ints_any A1 A2 a1 a2 n1 n2 c1 c2 w h h' hn1 hn2 qn1 qn2 R hR)
  have HB := Lib.hid (fun w h h' (R : Bool) hR => ints_any B1 B2 r1 r2 m1 m2 d1 d2 w h h' hm1 hm2 qm1 qm2 R hR)
  by_cases q1 : a1 = a2
  by_cases q2 : r1 = r2
  · skip
    have HA2 := Lib.hid (fun w h h' => HA.out w h h' true (show _ = _ from (decide_eq_true q1).symm))
    have HB2 := Lib.hid (fun w h h' => HB.out w h h' true (show _ = _ from (decide_eq_true q2).symm))
    obtain rfl : R = true := by rw [hR.out, decide_eq_true_iff]; exact ⟨q1, q2⟩
    clear HA HB hR
    go_enter Tryz.func61, Tryz.ntmps61
    go_wp2_with fail
    refine (HA2.out _ (ha1.keepN k0) (ha2.keepN k0)).mono ?_
    rintro e w1 ⟨rfl, k1⟩
    obtain ⟨x0, x1⟩ := blk2 (bx.keep k1 id)
    obtain ⟨y0, y1⟩ := blk2 (by2.keep k1 id)
    go_wp2_with fail
    refine (HB2.out _ ((hr1.keepN k0).keepN k1) ((hr2.keepN k0).keepN k1)).mono ?_
    rintro e w2 ⟨rfl, k2⟩
    go_wp2
    go_ret
    exact ⟨rfl, keepN (keepN k0 k1) k2⟩
  · skip
    have HA2 := Lib.hid (fun w h h' => HA.out w h h' true (show _ = _ from (decide_eq_true q1).symm))
    have HB2 := Lib.hid (fun w h h' => HB.out w h h' false (show _ = _ from (decide_eq_false q2).symm))
    obtain rfl : R = false := by rw [hR.out, decide_eq_false_iff_not]; exact fun h => q2 h.2
    clear HA HB hR
    go_enter Tryz.func61, Tryz.ntmps61
    go_wp2_with fail
    refine (HA2.out _ (ha1.keepN k0) (ha2.keepN k0)).mono ?_
    rintro e w1 ⟨rfl, k1⟩
    obtain ⟨x0, x1⟩ := blk2 (bx.keep k1 id)
    obtain ⟨y0, y1⟩ := blk2 (by2.keep k1 id)
    go_wp2_with fail
    refine (HB2.out _ ((hr1.keepN k0).keepN k1) ((hr2.keepN k0).keepN k1)).mono ?_
    rintro e w2 ⟨rfl, k2⟩
    go_wp2
    go_ret
    exact ⟨rfl, keepN (keepN k0 k1) k2⟩
  by_cases q2 : r1 = r2
  · skip
    have HA2 := Lib.hid (fun w h h' => HA.out w h h' false (show _ = _ from (decide_eq_false q1).symm))
    have HB2 := Lib.hid (fun w h h' => HB.out w h h' true (show _ = _ from (decide_eq_true q2).symm))
    obtain rfl : R = false := by rw [hR.out, decide_eq_false_iff_not]; exact fun h => q1 h.1
    clear HA HB hR
    go_enter Tryz.func61, Tryz.ntmps61
    go_wp2_with fail
    refine (HA2.out _ (ha1.keepN k0) (ha2.keepN k0)).mono ?_
    rintro e w1 ⟨rfl, k1⟩
    obtain ⟨x0, x1⟩ := blk2 (bx.keep k1 id)
    obtain ⟨y0, y1⟩ := blk2 (by2.keep k1 id)
    go_wp2_with fail
    refine (HB2.out _ ((hr1.keepN k0).keepN k1) ((hr2.keepN k0).keepN k1)).mono ?_
    rintro e w2 ⟨rfl, k2⟩
    go_wp2
    go_ret
    exact ⟨rfl, keepN (keepN k0 k1) k2⟩
  · skip
    have HA2 := Lib.hid (fun w h h' => HA.out w h h' false (show _ = _ from (decide_eq_false q1).symm))
    have HB2 := Lib.hid (fun w h h' => HB.out w h h' false (show _ = _ from (decide_eq_false q2).symm))
    obtain rfl : R = false := by rw [hR.out, decide_eq_false_iff_not]; exact fun h => q1 h.1
    clear HA HB hR
    go_enter Tryz.func61, Tryz.ntmps61
    go_wp2_with fail
    refine (HA2.out _ (ha1.keepN k0) (ha2.keepN k0)).mono ?_
    rintro e w1 ⟨rfl, k1⟩
    obtain ⟨x0, x1⟩ := blk2 (bx.keep k1 id)
    obtain ⟨y0, y1⟩ := blk2 (by2.keep k1 id)
    go_wp2_with fail
    refine (HB2.out _ ((hr1.keepN k0).keepN k1) ((hr2.keepN k0).keepN k1)).mono ?_
    rintro e w2 ⟨rfl, k2⟩
    go_wp2
    go_ret
    exact ⟨rfl, keepN (keepN k0 k1) k2⟩

set_option maxRecDepth 100000 in
set_option maxHeartbeats 2000000 in
theorem great_no (S A B : Option Addr) (k c0 n c m d : Nat) (w : World) (h1 : k ≤ 100) (h2 : n ≤ 100) (h3 : m ≤ 100) :
    Calls Tryz.prog 68 #[.slice S k c0, .agg #[.slice A n c, .slice B m d]] w fun e w' => e = .returned (.int .i64 0) ∧ Keep NoB w w' := by
  go_enter Tryz.func68, Tryz.ntmps68
  go_wp2
  go_ret
  exact ⟨rfl, (Keep.refl _ _).alloc _⟩
set_option maxRecDepth 100000 in
set_option maxHeartbeats 2000000 in
theorem great_yes (S A B : Option Addr) (k c0 n c m d : Nat) (w : World) (h : ¬ (k ≤ 100 ∧ n ≤ 100 ∧ m ≤ 100)) :
    Calls Tryz.prog 68 #[.slice S k c0, .agg #[.slice A n c, .slice B m d]] w fun e w' => e = .returned (.int .i64 1) ∧ Keep NoB w w' := by
  by_cases h1 : k ≤ 100
  · by_cases h2 : n ≤ 100
    · have h3 : ¬ m ≤ 100 := by omega
      clear h
      go_enter Tryz.func68, Tryz.ntmps68
      go_wp2
      go_ret
      exact ⟨rfl, (Keep.refl _ _).alloc _⟩
    · clear h
      go_enter Tryz.func68, Tryz.ntmps68
      go_wp2
      go_ret
      exact ⟨rfl, (Keep.refl _ _).alloc _⟩
  · clear h
    go_enter Tryz.func68, Tryz.ntmps68
    go_wp2
    go_ret
    exact ⟨rfl, (Keep.refl _ _).alloc _⟩

end Go.Proofs.YtgifflfjhockaaaGreatDoor.S

namespace Go.Proofs.YtgifflfjhockaaaGreatDoor.S
open Go.RowKit W

end Go.Proofs.YtgifflfjhockaaaGreatDoor.S

namespace Go.Proofs.YtgifflfjhockaaaGreatDoor.S
open Go.RowKit W

end Go.Proofs.YtgifflfjhockaaaGreatDoor.S

namespace Go.Proofs.YtgifflfjhockaaaGreatDoor.S
open Go.RowKit W

end Go.Proofs.YtgifflfjhockaaaGreatDoor.S

namespace Go.Proofs.YtgifflfjhockaaaGreatDoor
open Go.RowKit Go.Shelf

section
variable {P : Program} {n : Nat}

theorem Keep.grows {W W' : World} (h : Keep NoB W W') : W.grownBy W' none := ⟨h.os, h.tape, h.output, h.size, fun k hk _ => h.block k hk id⟩
theorem keepsFrom_keep {B : Nat} {W W' : World} (hk : Keep NoB W W') : KeepsFrom B W W' := ⟨hk.size, fun k _ _ h _ => (hk.block k (Array.getElem?_eq_some_iff.1 h).1 id).trans h⟩

end
end Go.Proofs.YtgifflfjhockaaaGreatDoor

namespace Go.Proofs.YtgifflfjhockaaaGreatDoor.S
open Go.RowKit Go.Shelf W
attribute [local go_sem] Oper.semAt_some

/-- What a round keeps: the bytes. -/
def RdK (A : Option Addr) (b : List UInt8) (W W' : World) : Prop := V.Rd W A b → V.Rd W' A b
theorem RdK.trans {A : Option Addr} {b : List UInt8} {X Y Z : World} (h : RdK A b X Y) (h' : RdK A b Y Z) : RdK A b X Z := fun hr => h' (h hr)
theorem RdK.putObj {A : Option Addr} {b : List UInt8} (W : World) (l : Nat) (o o' : Obj) (hl : W.heap[l]? = some o) (ho : o.isCells = false) : RdK A b W (W.putObj l o') := fun hr h0 => by
  obtain ⟨ad, e, hc⟩ := hr h0
  refine ⟨ad, e, fun j u hu => ?_⟩
  have h1 := hc j u hu
  have hne : (ad.add j).block ≠ l := by
    intro e2
    unfold World.cell? at h1
    rw [e2, hl] at h1
    cases o with
    | cells cs t f => cases ho
    | _ => simp at h1
  exact (World.cell?_of_block (World.putObj_heap_other hne)).trans h1
end Go.Proofs.YtgifflfjhockaaaGreatDoor.S

namespace Go.Proofs.YtgifflfjhockaaaGreatDoor.S
open Go.RowKit Go.Shelf W
attribute [local go_sem] Oper.semAt_some

end Go.Proofs.YtgifflfjhockaaaGreatDoor.S

namespace Go.Proofs.YtgifflfjhockaaaGreatDoor.S
open Go.RowKit W

end Go.Proofs.YtgifflfjhockaaaGreatDoor.S

namespace Go.Proofs.YtgifflfjhockaaaGreatDoor.S
open Go.RowKit W

theorem blk_put2 {W : World} {g : Nat} {x y : Value} (h : Blk W g 57 #[x, y]) (u v : Value) : Blk ((W.setCell ⟨g, 0, none⟩ u).setCell ⟨g, 1, none⟩ v) g 57 #[u, v] := by
  have := (h.put 0 u).put 1 v
  simpa using this
theorem sig_size : (Tryz.prog.info? 57).map (·.size) = some 2 := by kernel_rfl
end Go.Proofs.YtgifflfjhockaaaGreatDoor.S

namespace Go.Proofs.YtgifflfjhockaaaGreatDoor.F
open Go.RowKit W

theorem own_len {w : World} {O : Nat → Prop} {v : Value} {l : List Int} {n : Nat} (h : Own w 3 1 O v n (ivs l)) : l.length = n := by have := h.1.1; simpa using this

end Go.Proofs.YtgifflfjhockaaaGreatDoor.F

namespace Go.Proofs.YtgifflfjhockaaaGreatDoor.F
open Go.RowKit W

end Go.Proofs.YtgifflfjhockaaaGreatDoor.F

namespace Go.Proofs.YtgifflfjhockaaaGreatDoor.F
open Go.RowKit

/-- A function value, with what it has captured. -/
def askV (g : Nat) (caps : Array Value) : Value := .func (.func g) #[] caps

end Go.Proofs.YtgifflfjhockaaaGreatDoor.F

namespace Go.Proofs.YtgifflfjhockaaaGreatDoor.F
open Go.RowKit W

/-- A question: what checks, and the part, each in a cell of its own. -/
def AskV (k : Nat) (tc tp : TypeId) (chk : Value) (cells : Array Value) (v : Value) (w : World) : Prop :=
  ∃ c p, v = askV k #[.pointer (some ⟨c, 0, none⟩), .pointer (some ⟨p, 0, none⟩)] ∧ Blk w c tc #[chk] ∧ Blk w p tp cells
theorem AskV.keep {k : Nat} {tc tp : TypeId} {chk : Value} {cells : Array Value} {v : Value} {w w' : World} (h : AskV k tc tp chk cells v w) (hk : Keep NoB w w') : AskV k tc tp chk cells v w' := by
  obtain ⟨c, p, e, h1, h2⟩ := h
  exact ⟨c, p, e, h1.keep hk id, h2.keep hk id⟩
/-- A function by its number alone. -/
def fnV (k : Nat) : Value := .func (.func k) #[] #[]

end Go.Proofs.YtgifflfjhockaaaGreatDoor.F

namespace Go.Proofs.YtgifflfjhockaaaGreatDoor.F
open Go.RowKit W

/-- A reader: what decodes, the Reel, and where the part goes, each in a cell of its own. -/
def RdV (k : Nat) (tc tp : TypeId) (dec : Value) (rp : Option Addr) (pt : Addr) (v : Value) (w : World) : Prop :=
  ∃ c r q, v = askV k #[.pointer (some ⟨c, 0, none⟩), .pointer (some ⟨r, 0, none⟩), .pointer (some ⟨q, 0, none⟩)] ∧ Blk w c tc #[dec] ∧ Blk w r 141 #[.pointer rp] ∧ Blk w q tp #[.pointer (some pt)]
theorem RdV.keep {k : Nat} {tc tp : TypeId} {dec : Value} {rp : Option Addr} {pt : Addr} {v : Value} {w w' : World} (h : RdV k tc tp dec rp pt v w) (hk : Keep NoB w w') : RdV k tc tp dec rp pt v w' := by
  obtain ⟨c, r, q, e, h1, h2, h3⟩ := h
  exact ⟨c, r, q, e, h1.keep hk id, h2.keep hk id, h3.keep hk id⟩

end Go.Proofs.YtgifflfjhockaaaGreatDoor.F

namespace Go.Proofs.YtgifflfjhockaaaGreatDoor
open Go.RowKit
section
variable {P : Program} {md : Region.Mode} {ops : Array Oper}

end
end Go.Proofs.YtgifflfjhockaaaGreatDoor

namespace Go.Proofs.YtgifflfjhockaaaGreatDoor
open Go.RowKit
section
variable {P : Program} {md : Region.Mode} {ops : Array Oper}

/-- Is a guarded operation wanted? -/
theorem wanted_at {o : Oper} {tmps : Array Value} {j d : Nat} {want b : Bool} (hg : o.guard = some (j, want)) (hd : (ops[j]?).bind (·.dst) = some d) (hv : tmps.getD d undef = .bool b) : Region.wanted o (yielded ops tmps) = (b == want) := by
  have ht : tmps[d]? = some (.bool b) := by
    rw [Array.getD_eq_getD_getElem?] at hv
    cases h : tmps[d]? with
    | none => rw [h] at hv; simp [undef] at hv
    | some x => rw [h] at hv; simp at hv; rw [hv]
  unfold Region.wanted
  rw [hg]
  simp only [yielded, hd, Option.bind_some, ht]
  cases b <;> cases want <;> rfl
theorem yieldsR_mono {R R' : Value → World → Prop} (h : ∀ u w, R u w → R' u w) : ∀ (P : Program) (r : Result Next), yieldsR R P r → yieldsR R' P r := by
  intro P r hr
  cases r with
  | ok n w =>
    cases n with
    | value u => exact h _ _ hr
    | skip => exact h _ _ hr
    | enter f args => exact Calls.mono hr fun e w'' ⟨u, e1, h2⟩ => ⟨u, e1, h _ _ h2⟩
    | _ => exact hr.elim
  | _ => exact hr.elim
/-- What an operation does: it yields a value, or isn't wanted. -/
def Does (P : Program) (ops : Array Oper) (o : Oper) (a : Act) (w : World) (R : Value → World → Prop) : Prop :=
  (Region.wanted o (yielded ops a.tmps) = true ∧ yieldsK P o a w R) ∨ (Region.wanted o (yielded ops a.tmps) = false ∧ R undef w)
theorem Does.plain {o : Oper} {a : Act} {w : World} {R : Value → World → Prop} (hg : o.guard = none) (h : yieldsK P o a w R) : Does P ops o a w R := .inl ⟨by unfold Region.wanted; rw [hg], h⟩
theorem Does.yes {o : Oper} {a : Act} {w : World} {R : Value → World → Prop} {j d : Nat} {want : Bool} (hg : o.guard = some (j, want)) (hd : (ops[j]?).bind (·.dst) = some d) (hv : a.tmps.getD d undef = .bool want) (h : yieldsK P o a w R) : Does P ops o a w R :=
  .inl ⟨by rw [wanted_at hg hd hv]; cases want <;> rfl, h⟩
end
end Go.Proofs.YtgifflfjhockaaaGreatDoor

namespace Go.Proofs.YtgifflfjhockaaaGreatDoor.F
open Go.RowKit W

end Go.Proofs.YtgifflfjhockaaaGreatDoor.F

namespace Go.Proofs.YtgifflfjhockaaaGreatDoor.F
open Go.RowKit W

set_option maxRecDepth 100000 in
set_option maxHeartbeats 4000000 in
theorem great_no (v : FV) (w : World) (hs : SmF v) : Calls Tryz.prog 33 #[v.val] w fun e w' => e = .returned (.int .i64 0) ∧ Keep NoB w w' := by
  obtain ⟨s0, A, na, ca, B, nb, cb, L, nl, cl, D, nd, cd⟩ := v
  obtain ⟨h1, h2, h3, h4, h5⟩ := hs
  dsimp only at h1 h2 h3 h4 h5
  have k0 := (Keep.refl NoB w).alloc (.cells (FV.cells ⟨s0, A, na, ca, B, nb, cb, L, nl, cl, D, nd, cd⟩) 61)
  have HG := Lib.hid (fun w => S.great_no none A B 0 0 na ca nb cb w (Nat.zero_le _) h2 h3)
  unfold FV.val FV.cells at *
  go_enter Tryz.func33, Tryz.ntmps33
  go_wp2_with (go_at_call 68; refine (HG.out _).mono ?_; rintro e w1 ⟨rfl, k1⟩)
  go_ret
  exact ⟨rfl, keepN k0 k1⟩
theorem not_small {v : FV} (hs : ¬ SmF v) : 100 < v.S.size ∨ (v.S.size ≤ 100 ∧ 100 < v.nl) ∨ (v.S.size ≤ 100 ∧ v.nl ≤ 100 ∧ 600 < v.nd) ∨ (v.S.size ≤ 100 ∧ v.nl ≤ 100 ∧ v.nd ≤ 600 ∧ ¬ (0 ≤ 100 ∧ v.na ≤ 100 ∧ v.nb ≤ 100)) := by
  by_cases h1 : v.S.size ≤ 100
  · by_cases h2 : v.nl ≤ 100
    · by_cases h3 : v.nd ≤ 600
      · exact .inr (.inr (.inr ⟨h1, h2, h3, fun h => hs ⟨h1, h.2.1, h.2.2, h2, h3⟩⟩))
      · exact .inr (.inr (.inl ⟨h1, h2, by omega⟩))
    · exact .inr (.inl ⟨h1, by omega⟩)
  · exact .inl (by omega)
set_option maxRecDepth 100000 in
set_option maxHeartbeats 4000000 in
theorem great_yes (v : FV) (w : World) (hs : ¬ SmF v) : Calls Tryz.prog 33 #[v.val] w fun e w' => e = .returned (.int .i64 1) ∧ Keep NoB w w' := by
  have hn := not_small hs
  obtain ⟨s0, A, na, ca, B, nb, cb, L, nl, cl, D, nd, cd⟩ := v
  dsimp only at hn
  have k0 := (Keep.refl NoB w).alloc (.cells (FV.cells ⟨s0, A, na, ca, B, nb, cb, L, nl, cl, D, nd, cd⟩) 61)
  unfold FV.val FV.cells at *
  clear hs
  rcases hn with h1 | ⟨h1, h2⟩ | ⟨h1, h2, h3⟩ | ⟨h1, h2, h3, h4⟩
  · go_enter Tryz.func33, Tryz.ntmps33
    go_wp2
    go_ret
    exact ⟨rfl, k0⟩
  · go_enter Tryz.func33, Tryz.ntmps33
    go_wp2
    go_ret
    exact ⟨rfl, k0⟩
  · go_enter Tryz.func33, Tryz.ntmps33
    go_wp2
    go_ret
    exact ⟨rfl, k0⟩
  · have HG := Lib.hid (fun w => S.great_yes none A B 0 0 na ca nb cb w h4)
    clear h4
    go_enter Tryz.func33, Tryz.ntmps33
    go_wp2_with (go_at_call 68; refine (HG.out _).mono ?_; rintro e w1 ⟨rfl, k1⟩)
    go_ret
    exact ⟨rfl, keepN k0 k1⟩

theorem fun_size : (Tryz.prog.info? 61).map (·.size) = some 5 := by kernel_rfl
theorem ret_fun {fn : Func} {p : Tmp} {tmps : Array Value} {w : World} {g : Nat} {v : FV} (h : fn.results = #[.cell p 61]) (hp : tmps.getD p undef = .pointer (some ⟨g, 0, none⟩)) (hb : Blk w g 61 v.cells) :
    (results fn tmps).run Tryz.prog w = .ok v.val w :=
  results_cell_row h tmps w g 61 v.cells (0, 0) _ hp hb Tryz.underlying61 rfl fun_size

/-- A function that is small, and reads as one. -/
def FnV (f : Fu) (v : FV) (w : World) : Prop := FnAt w v f ∧ SmF v
theorem FnV.keepN {f : Fu} {v : FV} {w w' : World} (h : FnV f v w) (hk : Keep NoB w w') : FnV f v w' := ⟨h.1.keepN hk, h.2⟩
end Go.Proofs.YtgifflfjhockaaaGreatDoor.F

namespace Go.Proofs.YtgifflfjhockaaaGreatDoor.C
open Go.RowKit O

end Go.Proofs.YtgifflfjhockaaaGreatDoor.C

namespace Go.Proofs.YtgifflfjhockaaaGreatDoor.C
open Go.RowKit O

/-! ### counts -/
/-! ### stretches -/
end Go.Proofs.YtgifflfjhockaaaGreatDoor.C

namespace Go.Proofs.YtgifflfjhockaaaGreatDoor.C
open Go.RowKit O

end Go.Proofs.YtgifflfjhockaaaGreatDoor.C

namespace Go.Proofs.YtgifflfjhockaaaGreatDoor.C
open Go.RowKit O

end Go.Proofs.YtgifflfjhockaaaGreatDoor.C

namespace Go.Proofs.YtgifflfjhockaaaGreatDoor.C
open Go.RowKit O

end Go.Proofs.YtgifflfjhockaaaGreatDoor.C

namespace Go.Proofs.YtgifflfjhockaaaGreatDoor.O
open Go.RowKit

theorem blk5 {w : World} {g : Nat} {t : TypeId} {a0 a1 a2 a3 a4 : Value} (h : Blk w g t #[a0, a1, a2, a3, a4]) :
    w.cell? ⟨g, 0, none⟩ = some a0 ∧ w.cell? ⟨g, 1, none⟩ = some a1 ∧ w.cell? ⟨g, 2, none⟩ = some a2 ∧ w.cell? ⟨g, 3, none⟩ = some a3 ∧ w.cell? ⟨g, 4, none⟩ = some a4 := ⟨h.cell 0, h.cell 1, h.cell 2, h.cell 3, h.cell 4⟩
/-! ### Decode -/

end Go.Proofs.YtgifflfjhockaaaGreatDoor.O

namespace Go.Proofs.YtgifflfjhockaaaGreatDoor.O
open Go.RowKit

end Go.Proofs.YtgifflfjhockaaaGreatDoor.O

namespace Go.Proofs.YtgifflfjhockaaaGreatDoor.C
open Go.RowKit O

end Go.Proofs.YtgifflfjhockaaaGreatDoor.C

namespace Go.Proofs.YtgifflfjhockaaaGreatDoor.C
open Go.RowKit O

end Go.Proofs.YtgifflfjhockaaaGreatDoor.C

namespace Go.Proofs.YtgifflfjhockaaaGreatDoor.F
open Go.RowKit W

/-- A function whose lists are owned: each lies in a block of P. -/
structure OwnF (W : World) (P : Nat → Prop) (v : FV) (f : Fu) : Prop where
  nm : v.S.data.toList = f.nm
  oa : Own W 3 1 P (.slice v.A v.na v.ca) v.na (ivs f.ar)
  ob : Own W 3 1 P (.slice v.B v.nb v.cb) v.nb (ivs f.rs)
  ol : Own W 3 1 P (.slice v.L v.nl v.cl) v.nl (ivs f.lc)
  od : Own W 63 3 P (.slice v.D v.nd v.cd) v.nd (C.iis f.bd)
  hI : C.AllI f.bd
theorem OwnF.keep {W W' : World} {P O : Nat → Prop} {v : FV} {f : Fu} (h : OwnF W P v f) (hk : Keep O W W') (hn : ∀ k, P k → ¬ O k) : OwnF W' P v f :=
  ⟨h.nm, h.oa.keep hk hn, h.ob.keep hk hn, h.ol.keep hk hn, h.od.keep hk hn, h.hI⟩
theorem OwnF.keepN {W W' : World} {P : Nat → Prop} {v : FV} {f : Fu} (h : OwnF W P v f) (hk : Keep NoB W W') : OwnF W' P v f := h.keep hk (fun _ _ => id)
theorem OwnF.mono {W : World} {P P' : Nat → Prop} {v : FV} {f : Fu} (h : OwnF W P v f) (hP : ∀ k, P k → k < W.heap.size → P' k) : OwnF W P' v f :=
  ⟨h.nm, h.oa.mono hP, h.ob.mono hP, h.ol.mono hP, h.od.mono hP, h.hI⟩
theorem own_rdS {w : World} {E size n : Nat} {P : Nat → Prop} {A : Option Addr} {c : Nat} {xs : List Value} (h : Own w E size P (.slice A n c) n xs) : Rd w A xs := by
  obtain ⟨A', c', e, _, _, hr, _⟩ := h.form
  injection e with e1 e2 e3
  subst e1; exact hr
theorem own_lenD {w : World} {O : Nat → Prop} {v : Value} {l : List C.I3} {n : Nat} (h : Own w 63 3 O v n (C.iis l)) : l.length = n := by have := h.1.1; rw [C.iis_length] at this; omega
theorem OwnF.fn {W : World} {P : Nat → Prop} {v : FV} {f : Fu} (h : OwnF W P v f) : FnAt W v f :=
  ⟨h.nm, own_rdS h.oa, own_rdS h.ob, own_rdS h.ol, own_rdS h.od, own_len h.oa, own_len h.ob, own_len h.ol, own_lenD h.od, h.hI⟩
/-- What has been read so far. -/
structure Prt (w0 : World) (F : Nat) (O : Nat → Prop) (At : World → Nat → Prop) (f : Fu) (q : Nat) (v : FV) (W : World) : Prop where
  blk : Blk W F 61 v.cells
  own : OwnF W (Fresh w0) v f
  at_ : At W q
  keep : Keep (fun k => k = F ∨ O k) w0 W
theorem Prt.put {w0 W w1 W' : World} {F q q' : Nat} {O : Nat → Prop} {At : World → Nat → Prop} {f f' : Fu} {v v' : FV} (h : Prt w0 F O At f q v W) (hF : F < w0.heap.size)
    (hAt : ∀ w w' q, At w q → Keep (fun k => k = F) w w' → At w' q) (k1 : Keep O W w1) (hv : OwnF w1 (Fresh w0) v' f') (hat : At w1 q') (k2 : Keep (fun k => k = F) w1 W') (hb : Blk W' F 61 v'.cells) : Prt w0 F O At f' q' v' W' :=
  ⟨hb, hv.keep k2 (fun k hk e => by subst e; unfold Fresh at hk; omega), hAt _ _ _ hat k2, (h.keep.trans k1 (fun k ho _ => .inr ho)).trans k2 (fun k e _ => .inl e)⟩

theorem keep_one (W : World) (F i : Nat) (u : Value) : Keep (fun k => k = F) W (W.setCell ⟨F, i, none⟩ u) := (Keep.refl (fun k => k = F) W).setCell (p := ⟨F, i, none⟩) (fun _ => rfl) u

end Go.Proofs.YtgifflfjhockaaaGreatDoor.F

namespace Go.Proofs.YtgifflfjhockaaaGreatDoor.F
open Go.RowKit W

def nilV : FV := ⟨⟨#[]⟩, none, 0, 0, none, 0, 0, none, 0, 0, none, 0, 0⟩
def put5 (W : World) (g : Nat) (v : FV) : World :=
  let W1 := W.setCell ⟨g, 0, none⟩ (.string v.S)
  let W2 := W1.setCell ⟨g, 1, none⟩ (.slice v.A v.na v.ca)
  let W3 := W2.setCell ⟨g, 2, none⟩ (.slice v.B v.nb v.cb)
  let W4 := W3.setCell ⟨g, 3, none⟩ (.slice v.L v.nl v.cl)
  W4.setCell ⟨g, 4, none⟩ (.slice v.D v.nd v.cd)
theorem blk_put5 {W : World} {g : Nat} {a b c d e : Value} (h : Blk W g 61 #[a, b, c, d, e]) (v : FV) : Blk (put5 W g v) g 61 v.cells := by
  have h0 := h.put 0 (.string v.S)
  have h1 := h0.put 1 (.slice v.A v.na v.ca)
  have h2 := h1.put 2 (.slice v.B v.nb v.cb)
  have h3 := h2.put 3 (.slice v.L v.nl v.cl)
  have h4 := h3.put 4 (.slice v.D v.nd v.cd)
  clear h h0 h1 h2 h3
  simp only [List.setIfInBounds_toArray, List.set_cons_zero, List.set_cons_succ] at h4
  exact h4
theorem keep_at5 (W : World) (g : Nat) (v : FV) : Keep (fun k => k = g) W (put5 W g v) := by
  have h0 := keep_one W g 0 (.string v.S)
  have h1 := h0.trans (keep_one _ g 1 (.slice v.A v.na v.ca)) (fun _ h _ => h)
  have h2 := h1.trans (keep_one _ g 2 (.slice v.B v.nb v.cb)) (fun _ h _ => h)
  have h3 := h2.trans (keep_one _ g 3 (.slice v.L v.nl v.cl)) (fun _ h _ => h)
  exact h3.trans (keep_one _ g 4 (.slice v.D v.nd v.cd)) (fun _ h _ => h)
end Go.Proofs.YtgifflfjhockaaaGreatDoor.F

namespace Go.Proofs.YtgifflfjhockaaaGreatDoor.V
open Go.ChangeShapes Go.WideShapes Go.ChangeAt Go.RowKit

section
variable {H : Type} {enc : TypeId × Value → H} {w : World} {base b0 : Nat} {spare : Nat → Bool} {held : Bool} {r : Reach} {v : Value} {d : DataW H} {p : List MemPlace}
end

end Go.Proofs.YtgifflfjhockaaaGreatDoor.V

namespace Go.Proofs.YtgifflfjhockaaaGreatDoor.F
open Go.RowKit Go.ChangeShapes Go.WideShapes W

end Go.Proofs.YtgifflfjhockaaaGreatDoor.F

namespace Go.Proofs.YtgifflfjhockaaaGreatDoor.I
open Go.RowKit W

/-- A shape's value. -/
structure SV where
  A : Option Addr
  n : Nat
  c : Nat
def SV.val (s : SV) : Value := .slice s.A s.n s.c
def ShAt (w : World) (s : SV) (l : List Int) : Prop := Rd w s.A (ivs l) ∧ l.length = s.n
theorem ShAt.keep {O : Nat → Prop} {w w' : World} {s : SV} {l : List Int} (h : ShAt w s l) (hk : Keep O w w') (hO : ∀ k, k < w.heap.size → ¬ O k) : ShAt w' s l :=
  ⟨h.1.keepN (hk.mono (fun k ho hl => absurd ho (hO k hl))), h.2⟩
/-- An image's value: where its lists lie. -/
structure IV where
  X : Option Addr
  nx : Nat
  cx : Nat
  Y : Option Addr
  ny : Nat
  cy : Nat
def IV.cells (v : IV) : Array Value := #[.slice v.X v.nx v.cx, .slice v.Y v.ny v.cy]
def IV.val (v : IV) : Value := .agg v.cells
abbrev SE := SV × List Int
abbrev FE := F.FV × F.Fu
def svs (es : List SE) : List Value := es.map fun e => e.1.val
def fvs (fs : List FE) : List Value := fs.flatMap fun e => e.1.cells.toList
def imOf (es : List SE) (fs : List FE) : Im := ⟨es.map fun e => e.2, fs.map fun e => e.2⟩
theorem cells_len (v : F.FV) : v.cells.toList.length = 5 := rfl
theorem fvs_length (fs : List FE) : (fvs fs).length = fs.length * 5 := by
  induction fs with
  | nil => rfl
  | cons v l ih =>
    unfold fvs at ih ⊢
    rw [List.flatMap_cons, List.length_append, ih, cells_len, List.length_cons]; omega
theorem svs_length (es : List SE) : (svs es).length = es.length := by simp [svs]
theorem fvs_append (l r : List FE) : fvs (l ++ r) = fvs l ++ fvs r := by simp [fvs]
theorem svs_append (l r : List SE) : svs (l ++ r) = svs l ++ svs r := by simp [svs]
theorem fvs_at : ∀ (fs : List FE) (i j : Nat) (h : i < fs.length), j < 5 → (fvs fs)[i * 5 + j]? = fs[i].1.cells.toList[j]?
  | v :: l, 0, j, _, hj => by
    unfold fvs
    rw [List.flatMap_cons, Nat.zero_mul, Nat.zero_add, List.getElem?_append_left (by rw [cells_len]; exact hj)]; rfl
  | v :: l, i + 1, j, h, hj => by
    have := fvs_at l i j (by simpa using h) hj
    unfold fvs at this ⊢
    rw [List.flatMap_cons, show (i + 1) * 5 + j = 5 + (i * 5 + j) by omega, List.getElem?_append_right (by rw [cells_len]; omega), cells_len, Nat.add_sub_cancel_left]
    exact this
theorem svs_at (es : List SE) (i : Nat) (h : i < es.length) : (svs es)[i]? = some es[i].1.val := by simp [svs, h]

/-- What an image's lists hold, wherever the value itself lies. -/
structure ImAt (w : World) (v : IV) (es : List SE) (fs : List FE) : Prop where
  rx : Rd w v.X (svs es)
  ry : Rd w v.Y (fvs fs)
  lx : es.length = v.nx
  ly : fs.length = v.ny
  hs : ∀ e ∈ es, ShAt w e.1 e.2
  hf : ∀ e ∈ fs, F.FnAt w e.1 e.2
theorem ImAt.keep {O : Nat → Prop} {w w' : World} {v : IV} {es : List SE} {fs : List FE} (h : ImAt w v es fs) (hk : Keep O w w') (hO : ∀ k, k < w.heap.size → ¬ O k) : ImAt w' v es fs :=
  have h2 : Keep NoB w w' := hk.mono (fun k ho hl => absurd ho (hO k hl))
  ⟨h.rx.keepN h2, h.ry.keepN h2, h.lx, h.ly, fun e he => (h.hs e he).keep h2 (fun _ _ => id), fun e he => (h.hf e he).keepN h2⟩
theorem ImAt.keepN {w w' : World} {v : IV} {es : List SE} {fs : List FE} (h : ImAt w v es fs) (hk : Keep NoB w w') : ImAt w' v es fs := h.keep hk (fun _ _ => id)
/-- It is no greater than statements go through. -/
structure SmI (es : List SE) (fs : List FE) : Prop where
  ns : es.length ≤ 70
  nf : fs.length ≤ 70
  sh : ∀ e ∈ es, e.1.n ≤ 100
  fn : ∀ e ∈ fs, F.SmF e.1
/-- Shape i, and function i, in memory. -/
theorem shape_at {w : World} {X : Option Addr} {es : List SE} (h : Rd w X (svs es)) {i : Nat} (hi : i < es.length) : ∃ g off, X = some ⟨g, off, none⟩ ∧ w.cell? ⟨g, off + i, none⟩ = some (.slice es[i].1.A es[i].1.n es[i].1.c) := by
  obtain ⟨g, off, e, hc⟩ := h (by rw [svs_length]; omega)
  exact ⟨g, off, e, hc i _ (svs_at es i hi)⟩
theorem fun_at {w : World} {Y : Option Addr} {fs : List FE} (h : Rd w Y (fvs fs)) {i : Nat} (hi : i < fs.length) : ∃ g off, Y = some ⟨g, off, none⟩ ∧ w.cell? ⟨g, off + i * 5, none⟩ = some (.string fs[i].1.S) ∧ w.cell? ⟨g, off + i * 5 + 1, none⟩ = some (.slice fs[i].1.A fs[i].1.na fs[i].1.ca) ∧
    w.cell? ⟨g, off + i * 5 + 2, none⟩ = some (.slice fs[i].1.B fs[i].1.nb fs[i].1.cb) ∧ w.cell? ⟨g, off + i * 5 + 3, none⟩ = some (.slice fs[i].1.L fs[i].1.nl fs[i].1.cl) ∧ w.cell? ⟨g, off + i * 5 + 4, none⟩ = some (.slice fs[i].1.D fs[i].1.nd fs[i].1.cd) := by
  obtain ⟨g, off, e, hc⟩ := h (by rw [fvs_length]; omega)
  exact ⟨g, off, e, hc _ _ (fvs_at fs i 0 hi (by omega)), hc _ _ (fvs_at fs i 1 hi (by omega)), hc _ _ (fvs_at fs i 2 hi (by omega)), hc _ _ (fvs_at fs i 3 hi (by omega)), hc _ _ (fvs_at fs i 4 hi (by omega))⟩

/-- An image whose lists are owned: each lies in a block of P. -/
structure OwnIm (W : World) (P : Nat → Prop) (v : IV) (es : List SE) (fs : List FE) : Prop where
  ox : Own W 58 1 P (.slice v.X v.nx v.cx) v.nx (svs es)
  oy : Own W 61 5 P (.slice v.Y v.ny v.cy) v.ny (fvs fs)
  hs : ∀ e ∈ es, Own W 3 1 P (.slice e.1.A e.1.n e.1.c) e.1.n (ivs e.2)
  hf : ∀ e ∈ fs, F.OwnF W P e.1 e.2
theorem OwnIm.keep {W W' : World} {P O : Nat → Prop} {v : IV} {es : List SE} {fs : List FE} (h : OwnIm W P v es fs) (hk : Keep O W W') (hn : ∀ k, P k → ¬ O k) : OwnIm W' P v es fs :=
  ⟨h.ox.keep hk hn, h.oy.keep hk hn, fun e he => (h.hs e he).keep hk hn, fun e he => (h.hf e he).keep hk hn⟩
theorem OwnIm.keepN {W W' : World} {P : Nat → Prop} {v : IV} {es : List SE} {fs : List FE} (h : OwnIm W P v es fs) (hk : Keep NoB W W') : OwnIm W' P v es fs := h.keep hk (fun _ _ => id)
theorem OwnIm.mono {W : World} {P P' : Nat → Prop} {v : IV} {es : List SE} {fs : List FE} (h : OwnIm W P v es fs) (hP : ∀ k, P k → k < W.heap.size → P' k) : OwnIm W P' v es fs :=
  ⟨h.ox.mono hP, h.oy.mono hP, fun e he => (h.hs e he).mono hP, fun e he => (h.hf e he).mono hP⟩
theorem OwnIm.im {W : World} {P : Nat → Prop} {v : IV} {es : List SE} {fs : List FE} (h : OwnIm W P v es fs) : ImAt W v es fs :=
  ⟨F.own_rdS h.ox, F.own_rdS h.oy, by have := h.ox.1.1; rw [svs_length] at this; omega, by have := h.oy.1.1; rw [fvs_length] at this; omega,
    fun e he => ⟨F.own_rdS (h.hs e he), F.own_len (h.hs e he)⟩, fun e he => (h.hf e he).fn⟩
theorem ImAt.lens {w : World} {v : IV} {es : List SE} {fs : List FE} (h : ImAt w v es fs) : (imOf es fs).sh.length = v.nx ∧ (imOf es fs).fn.length = v.ny := ⟨by rw [← h.lx]; simp [imOf], by rw [← h.ly]; simp [imOf]⟩
end Go.Proofs.YtgifflfjhockaaaGreatDoor.I
