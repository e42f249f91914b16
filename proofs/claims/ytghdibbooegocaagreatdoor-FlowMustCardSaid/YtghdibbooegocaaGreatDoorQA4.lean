/-
  Part 4 of the proofs of GLoopsRow, GReachRow, GMustRow, GNamesRow: what is laid, and what the functions that the law runs answer. Conditions: each theorem names its own.
-/
import Derived.BigQuiet
import Derived.Deep.AppendLies
import Derived.Deep.Draws
import Derived.Deep.QuietTactic
import Derived.Deep.RegionHeld3
import Derived.Deep.RegionLaw
import Derived.Deep.RegionWith
import Derived.Deep.WholeRow
import Derived.Laws.EntriesVeiled
import Derived.Lib.ItoaLen
import Derived.Lib.ParseIntBTie
import Derived.OwnWalk
import Derived.Test.YtghdibbooegocaaGreatDoorQA3
namespace Go.Proofs.YtghdibbooegocaaGreatDoor.W
open Go.Lib

abbrev str (l : List UInt8) : ByteArray := ⟨l.toArray⟩

def knownB (t : Int) : Bool := decide (1 ≤ t ∧ t ≤ 4)
def letC (t : Int) : List UInt8 := if t = 1 then [73] else if t = 2 then [82] else if t = 3 then [70] else if t = 4 then [80] else []

theorem known_iff (t : Int) : knownB t = true ↔ 1 ≤ t ∧ t ≤ 4 := by simp [knownB]
theorem known_not (t : Int) : knownB t = false ↔ ¬ (1 ≤ t ∧ t ≤ 4) := by simp [knownB]
theorem known_cases {t : Int} (h : knownB t = true) : t = 1 ∨ t = 2 ∨ t = 3 ∨ t = 4 := by rw [known_iff] at h; omega
theorem letC_none {t : Int} (h : knownB t = false) : letC t = [] := by
 rw [known_not] at h
 unfold letC
 rw [if_neg (by omega), if_neg (by omega), if_neg (by omega), if_neg (by omega)]
/-! ### Texts of lists of types -/

def unlet (c : UInt8) : Int := if c = 73 then 1 else if c = 82 then 2 else if c = 70 then 3 else if c = 80 then 4 else 0
def untxt (s : List UInt8) : Option (List Int) := if s.length ≤ 1024 ∧ (s.all fun c => decide (unlet c ≠ 0)) = true then some (s.map unlet) else none

/-! ### A value's text -/

def off (t : Int) : Int := if t = 3 then 1 else 0
/-! ### Decimal digits there and back -/

theorem dec_ne (u : Nat) : decDigits u ≠ [] := by
 intro h; have h1 := decDigits_length u; have := nDigits_pos u; rw [h] at h1; simp at h1; omega
theorem byte_dig (d : Nat) (h : d < 10) : (UInt8.ofNat (48 + d)).toNat = 48 + d := by rw [UInt8.toNat_ofNat', Nat.mod_eq_of_lt (by omega)]
theorem dec_digits (u : Nat) : ∀ c ∈ decDigits u, 48 ≤ c.toNat ∧ c.toNat ≤ 57 := by
 induction u using Nat.strongRecOn with
 | _ u ih =>
  rw [decDigits]
  split
  ·rename_i h
   intro c hc
   simp only [List.mem_singleton] at hc
   rw [hc, byte_dig u h]; omega
  ·rename_i h
   intro c hc
   rcases List.mem_append.1 hc with hc | hc
   ·exact ih (u / 10) (by omega) c hc
   ·simp only [List.mem_singleton] at hc
    rw [hc, byte_dig (u % 10) (by omega)]; omega

def spell (acc : Nat) (l : List UInt8) : Nat := l.foldl (fun a c => a * 10 + (c.toNat - 48)) acc
theorem spell_append (acc : Nat) (l r : List UInt8) : spell acc (l ++ r) = spell (spell acc l) r := List.foldl_append
theorem spell_le (l : List UInt8) : ∀ acc, acc ≤ spell acc l := by
 induction l with
 | nil => intro acc; exact Nat.le_refl _
 | cons c r ih =>
  intro acc
  have := ih (acc * 10 + (c.toNat - 48))
  show acc ≤ spell (acc * 10 + (c.toNat - 48)) r
  omega
theorem spell_dec (u : Nat) : spell 0 (decDigits u) = u := by
 induction u using Nat.strongRecOn with
 | _ u ih =>
  rw [decDigits]
  split
  ·rename_i h
   show 0 * 10 + ((UInt8.ofNat (48 + u)).toNat - 48) = u
   rw [byte_dig u h]; omega
  ·rename_i h
   rw [spell_append, ih (u / 10) (by omega)]
   show u / 10 * 10 + ((UInt8.ofNat (48 + u % 10)).toNat - 48) = u
   rw [byte_dig (u % 10) (by omega)]; omega
theorem parse_spell : ∀ (l : List UInt8) (acc : Nat), (∀ c ∈ l, 48 ≤ c.toNat ∧ c.toNat ≤ 57) → spell acc l < 18446744073709551616 → parseUint10 acc l = .ok (spell acc l)
 | [], acc, _, _ => rfl
 | c :: r, acc, hd, hs => by
  have hc := hd c (List.mem_cons_self ..)
  have hle := spell_le r (acc * 10 + (c.toNat - 48))
  have he : spell acc (c :: r) = spell (acc * 10 + (c.toNat - 48)) r := rfl
  rw [he] at hs ⊢
  unfold parseUint10
  rw [if_pos hc, if_neg (by omega), if_neg (by omega)]
  exact parse_spell r _ (fun c h => hd c (List.mem_cons_of_mem _ h)) hs
theorem mag_dec (u : Nat) (h : u < 18446744073709551616) : parseMag (decDigits u) = .ok u := by
 unfold parseMag
 rw [if_neg (dec_ne u), parse_spell _ 0 (dec_digits u) (by rw [spell_dec]; exact h), spell_dec]

theorem dec_cons (u : Nat) : ∃ c r, decDigits u = c :: r ∧ 48 ≤ c.toNat ∧ c.toNat ≤ 57 := by
 cases h : decDigits u with
 | nil => exact absurd h (dec_ne u)
 | cons c r => exact ⟨c, r, rfl, dec_digits u c (by rw [h]; exact List.mem_cons_self ..)⟩
theorem itoa_pos {n : Int} (h : 0 ≤ n) : itoa n = decDigits n.toNat := by unfold itoa; rw [if_neg (by omega)]
theorem itoa_minus {n : Int} (h : n < 0) : itoa n = 45 :: decDigits n.natAbs := by unfold itoa; rw [if_pos h]
theorem atoi_itoa (n : Int) (h0 : -9223372036854775808 ≤ n) (h1 : n ≤ 9223372036854775807) : atoiAll (itoa n) = .ok n := by
 by_cases h : n < 0
 ·rw [itoa_minus h]
  unfold atoiAll
  have e : (45 : UInt8).toNat = 45 := rfl
  simp only [e, or_true, if_true]
  rw [mag_dec _ (by omega)]
  simp only [not_true, false_and, if_false, true_and]
  rw [if_neg (by omega)]
  congr 1; omega
 ·obtain ⟨c, r, hc, hd⟩ := dec_cons n.toNat
  have hm := mag_dec n.toNat (by omega)
  rw [itoa_pos (by omega)]
  rw [hc] at hm ⊢
  unfold atoiAll
  have e1 : ¬ (c.toNat = 43 ∨ c.toNat = 45) := by omega
  have e2 : ¬ c.toNat = 45 := by omega
  dsimp only
  rw [if_neg e1, hm]
  dsimp only
  rw [if_neg (by omega), if_neg (by omega), if_neg e2]
  congr 1; omega

theorem itoa_inj {a b : Int} (ha : -9223372036854775808 ≤ a ∧ a ≤ 9223372036854775807) (hb : -9223372036854775808 ≤ b ∧ b ≤ 9223372036854775807) (h : itoa a = itoa b) : a = b := by
 have h1 := atoi_itoa a ha.1 ha.2
 rw [h, atoi_itoa b hb.1 hb.2] at h1
 injection h1 with h1
 exact h1.symm

theorem size_of {S : ByteArray} {s : List UInt8} (h : S.data.toList = s) : S.size = s.length := by rw [← h, Array.length_toList]; rfl
theorem byte_at {S : ByteArray} {s : List UInt8} (h : S.data.toList = s) (i : Nat) (hi : i < S.size) (hj : i < s.length) : S[i] = s[i] := by subst h; simp; rfl
theorem get_at {S : ByteArray} (i : Nat) (hi : i < S.size) : S.get! i = S[i] := by simp [ByteArray.get!, getElem!_pos, hi]; rfl

end Go.Proofs.YtghdibbooegocaaGreatDoor.W

namespace Go.Proofs.YtghdibbooegocaaGreatDoor
open Go.RowKit

theorem ret_bool {a b : Bool} (h : a = b) : Ending.returned (.bool a) = .returned (.bool b) := by rw [h]
structure Keep (O : Nat → Prop) (w w' : World) : Prop where
 os : w'.os = w.os
 tape : w'.tape = w.tape
 output : w'.output = w.output
 size : w.heap.size ≤ w'.heap.size
 block : ∀ k, k < w.heap.size → ¬ O k → w'.heap[k]? = w.heap[k]?

def NoB : Nat → Prop := fun _ => False
def Fresh (w : World) : Nat → Prop := fun k => w.heap.size ≤ k

section
variable {O O' : Nat → Prop} {w w1 w2 : World}
theorem Keep.refl (O : Nat → Prop) (w : World) : Keep O w w := ⟨rfl, rfl, rfl, Nat.le_refl _, fun _ _ _ => rfl⟩
theorem Keep.trans (h : Keep O w w1) (h' : Keep O' w1 w2) (hO : ∀ k, O' k → k < w.heap.size → O k) : Keep O w w2 :=
 ⟨h'.os.trans h.os, h'.tape.trans h.tape, h'.output.trans h.output, Nat.le_trans h.size h'.size,
  fun k hk hn => (h'.block k (Nat.lt_of_lt_of_le hk h.size) (fun ho => hn (hO k ho hk))).trans (h.block k hk hn)⟩
theorem Keep.mono (h : Keep O w w1) (hO : ∀ k, O k → k < w.heap.size → O' k) : Keep O' w w1 :=
 ⟨h.os, h.tape, h.output, h.size, fun k hk hn => h.block k hk (fun ho => hn (hO k ho hk))⟩
theorem Keep.drew (h : Keep O w w1) : Keep O w w1.drew := ⟨h.os, h.tape, h.output, h.size, h.block⟩
theorem Keep.drewN (h : Keep O w w1) (n : Nat) : Keep O w (w1.drewN n) := ⟨h.os, h.tape, h.output, h.size, h.block⟩
theorem Keep.alloc (h : Keep O w w1) (o : Obj) : Keep O w (w1.alloc o) :=
 h.trans (O' := NoB) ⟨rfl, rfl, rfl, by simp, fun k hk _ => Below.heap_alloc _ _ _ hk⟩ (fun _ hf => hf.elim)
theorem Keep.setCell (h : Keep O w w1) {p : Addr} (hp : p.block < w.heap.size → O p.block) (u : Value) : Keep O w (w1.setCell p u) :=
 h.trans (O' := fun k => k = p.block) ⟨rfl, rfl, rfl, by simp [World.setCell], fun k _ hn => Below.heap_setCell _ _ _ _ hn⟩ (fun k e hk => by rw [e] at hk ⊢; exact hp hk)
theorem Keep.grown {row : Option Nat} (h : Keep O w w1) (hg : w1.grownBy w2 row) (hr : ∀ g, row = some g → g < w.heap.size → O g) : Keep O w w2 :=
 h.trans (O' := fun k => some k = row) ⟨hg.os, hg.tape, hg.output, hg.size, fun k hk hn => hg.block k hk hn⟩ (fun k e hk => hr k e.symm hk)
theorem Keep.below (h : Keep O w w1) (hO : ∀ k, O k → w.heap.size ≤ k) : Below w.heap.size w w1 :=
 ⟨h.os, h.tape, h.output, h.size, fun k hk => h.block k hk (fun ho => by have := hO k ho; omega)⟩
theorem Keep.of_below (h : Below w.heap.size w w1) : Keep O w w1 := ⟨h.os, h.tape, h.output, h.size, fun k hk _ => h.block k hk⟩
theorem Keep.cell (h : Keep O w w1) {p : Addr} {v : Value} (hc : w.cell? p = some v) (hp : ¬ O p.block) : w1.cell? p = some v :=
 (World.cell?_of_block (h.block _ (World.block_lt_of_cell? w p hc) hp)).trans hc
theorem keepN (h : Keep NoB w w1) (h' : Keep NoB w1 w2) : Keep NoB w w2 := h.trans h' (fun _ hf _ => hf.elim)
theorem Keep.toBelow (h : Keep NoB w w1) : Below w.heap.size w w1 := h.below (fun _ hf => hf.elim)
end

def Rd (w : World) (A : Option Addr) (xs : List Value) : Prop :=
 0 < xs.length → ∃ g off, A = some ⟨g, off, none⟩ ∧ ∀ j u, xs[j]? = some u → w.cell? ⟨g, off + j, none⟩ = some u
theorem Rd.none_ (w : World) (A : Option Addr) : Rd w A [] := fun h => by simp at h
theorem Rd.keep {O : Nat → Prop} {w w' : World} {A : Option Addr} {xs : List Value} (h : Rd w A xs) (hk : Keep O w w') (hA : ∀ ad, A = some ad → ¬ O ad.block) : Rd w' A xs := fun h0 => by
 obtain ⟨g, off, e, hc⟩ := h h0
 exact ⟨g, off, e, fun j u hu => hk.cell (hc j u hu) (by have := hA _ e; exact this)⟩
theorem Rd.keepN {w w' : World} {A : Option Addr} {xs : List Value} (h : Rd w A xs) (hk : Keep NoB w w') : Rd w' A xs := h.keep hk (fun _ _ => id)

abbrev ivs (l : List Int) : List Value := l.map (.int .i64)
theorem rdI_at {w : World} {A : Option Addr} {l : List Int} (h : Rd w A (ivs l)) (h0 : 0 < l.length) : ∃ g off, A = some ⟨g, off, none⟩ ∧ ∀ (i : Nat) (hi : i < l.length), w.cell? ⟨g, off + i, none⟩ = some (.int .i64 l[i]) := by
 obtain ⟨g, off, e, hc⟩ := h (by simpa using h0)
 exact ⟨g, off, e, fun i hi => hc i _ (by simp [hi])⟩
def Own (w : World) (E size : Nat) (O : Nat → Prop) (v : Value) (n : Nat) (xs : List Value) : Prop :=
 w.ownsRow 0 E size v n xs ∧ ∀ g, v.ownBlock = some g → O g
section
variable {w w' : World} {E size n : Nat} {O O' : Nat → Prop} {v : Value} {xs : List Value}
theorem Own.nil (w : World) (E size : Nat) (O : Nat → Prop) : Own w E size O (.slice none 0 0) 0 [] := ⟨World.ownsRow_nil _ _ _ _, by simp [Value.ownBlock]⟩
theorem Own.mono (h : Own w E size O v n xs) (hO : ∀ k, O k → k < w.heap.size → O' k) : Own w E size O' v n xs := ⟨h.1, fun g e => hO g (h.2 g e) (h.1.lt g e).2⟩
theorem ownsRow_keep {base : Nat} (h : w.ownsRow base E size v n xs) (hk : Keep O w w') (hn : ∀ g, v.ownBlock = some g → ¬ O g) : w'.ownsRow base E size v n xs := by
 refine ⟨h.1, ?_⟩
 rcases h.2 with h2 | ⟨g, cap, cur, rfl, hb, hh, r⟩
 ·exact .inl h2
 ·exact .inr ⟨g, cap, cur, rfl, hb, (hk.block g (Array.getElem?_eq_some_iff.1 hh).1 (hn g rfl)).trans hh, r⟩
theorem Own.keep (h : Own w E size O v n xs) (hk : Keep O' w w') (hn : ∀ k, O k → ¬ O' k) : Own w' E size O v n xs := ⟨ownsRow_keep h.1 hk (fun g e => hn g (h.2 g e)), h.2⟩
theorem Own.keepN (h : Own w E size O v n xs) (hk : Keep NoB w w') : Own w' E size O v n xs := h.keep hk (fun _ _ => id)
theorem Own.form (h : Own w E size O v n xs) : ∃ A c, v = .slice A n c ∧ n ≤ c ∧ c ≤ maxLen ∧ Rd w A xs ∧ (∀ ad, A = some ad → O ad.block ∧ ad = ⟨ad.block, 0, none⟩) := by
 rcases h.1.2 with ⟨rfl, hn⟩ | ⟨g, cap, cur, rfl, _, hh, hc, hm, _⟩
 ·have hx : xs = [] := List.length_eq_zero_iff.1 (by rw [h.1.1, hn, Nat.zero_mul])
  subst hx
  exact ⟨none, 0, by rw [hn], Nat.le_of_eq hn, Nat.zero_le _, Rd.none_ _ _, by simp⟩
 ·refine ⟨_, cap, rfl, hc, hm, fun _ => ⟨g, 0, rfl, fun j u hu => ?_⟩, ?_⟩
  ·have := h.1.cells (g := g) rfl j u hu
   have ea : (⟨g, 0, none⟩ : Addr).add j = ⟨g, 0 + j, none⟩ := by unfold Addr.add; by_cases hj : j = 0 <;> simp [hj]
   rwa [ea] at this
  ·intro ad e
   cases e
   exact ⟨h.2 g rfl, rfl⟩
theorem Own.of_row {base : Nat} (h : w.ownsRow base E size v n xs) (hb : ∀ k, base ≤ k → O k) : Own w E size O v n xs := by
 refine ⟨⟨h.1, ?_⟩, fun g e => hb g (h.lt g e).1⟩
 rcases h.2 with h2 | ⟨g, cap, cur, h1, _, h2⟩
 ·exact .inl h2
 ·exact .inr ⟨g, cap, cur, h1, Nat.zero_le _, h2⟩
end

theorem own_form {w : World} {E size base n : Nat} {v : Value} {xs : List Value} (h : w.ownsRow base E size v n xs) : ∃ A c, v = .slice A n c := by
 rcases h.2 with ⟨rfl, rfl⟩ | ⟨g, cap, cur, rfl, _⟩
 ·exact ⟨_, _, rfl⟩
 ·exact ⟨_, _, rfl⟩

theorem run_append_rd (w : World) (S E size bytes : Nat) (i0 : TypeInfo) (z : Value) (hS : Tryz.prog.underlying S = some (.slice E)) (hi : Tryz.prog.info? E = some i0) (hz0 : i0.zero = some z) (hz1 : i0.size = size) (hz2 : i0.bytes = bytes) (hzs : z.cells.size = size) (hsz : 0 < size)
  (v : Value) (n : Nat) (xs : List Value) (A : Option Addr) (m c : Nat) (ys : List Value) (ty : TypeId)
  (hown : w.ownsRow 0 E size v n xs) (hr : Rd w A ys) (hl : ys.length = m * size) (h1 : ∀ u ∈ ys, u.oneCell' = true) (h63 : n + m ≤ maxLen) (hb : (n + m) * bytes ≤ 140737488355328) :
  ∃ v' w', (Builtin.append_ #[S, S] ty #[v, .slice A m c]).run Tryz.prog w = .ok v' w' ∧ w'.ownsRow 0 E size v' (n + m) (xs ++ ys) ∧ w.grownBy w' v.ownBlock ∧
   (v'.ownBlock = v.ownBlock ∨ v'.ownBlock = some w.heap.size) := by
 have hm0 : m = 0 → ys = [] := fun e => List.length_eq_zero_iff.1 (by rw [hl, e, Nat.zero_mul])
 rcases A with _ | ad
 ·have hy : ys = [] := by
   rcases Nat.eq_zero_or_pos ys.length with h0 | h0
   ·exact List.length_eq_zero_iff.1 h0
   ·obtain ⟨g, off, e, _⟩ := hr h0; cases e
  subst hy
  have hm : m = 0 := by
   rcases Nat.eq_zero_or_pos m with h | h
   ·exact h
   ·have := Nat.mul_pos h hsz; simp at hl; omega
  subst hm
  refine ⟨v, w, ?_, by simpa using hown, World.grownBy.refl w _, .inl rfl⟩
  rcases hown.2 with ⟨rfl, h0⟩ | ⟨g, cap, cur, rfl, _, _, hnc, _⟩
  ·simp [Builtin.append_, run_underlying hS, sizeOf, typeInfo, hi, Builtin.lenOf, Builtin.firstCells]
  ·simp [Builtin.append_, run_underlying hS, sizeOf, typeInfo, hi, Builtin.lenOf, Builtin.firstCells, hnc, storeCells]
 ·have hcells : ∀ j u, ys[j]? = some u → w.cell? (ad.add j) = some u := by
   intro j u hu
   rcases Nat.eq_zero_or_pos ys.length with h0 | h0
   ·have : ys = [] := List.length_eq_zero_iff.1 h0
    subst this; simp at hu
   ·obtain ⟨g, off, e, hc⟩ := hr h0
    cases e
    have ea : (⟨g, off, none⟩ : Addr).add j = ⟨g, off + j, none⟩ := by unfold Addr.add; by_cases hj : j = 0 <;> simp [hj]
    rw [ea]; exact hc j u hu
  obtain ⟨v', w', hrun, h2, h3, _, h5⟩ := run_append_own_at (P := Tryz.prog) w 0 S ty E i0 z size bytes hS hi hz0 hz1 hz2 hzs hsz v n xs hown ad m c ys hl hcells h1 h63 hb (Nat.zero_le _)
  exact ⟨v', w', hrun, h2, h3, h5⟩

theorem wp_append_rd {o : Oper} {a : Act} {K : Act → World → Prop} {Q : Exit → Act → World → Prop} (w : World) (s x : Operand) (S : TypeId)
  (ho : o.op = .call { callee := .builtin .append, args := #[s, x], argTypes := #[S, S] })
  (E size bytes : Nat) (i0 : TypeInfo) (z : Value) (hS : Tryz.prog.underlying S = some (.slice E)) (hi : Tryz.prog.info? E = some i0) (hz0 : i0.zero = some z) (hz1 : i0.size = size) (hz2 : i0.bytes = bytes) (hzs : z.cells.size = size) (hsz : 0 < size)
  (v : Value) (n : Nat) (xs : List Value) (A : Option Addr) (m c : Nat) (ys : List Value) (hs : a.eval s = v) (hown : w.ownsRow 0 E size v n xs) (hx : a.eval x = .slice A m c) (hr : Rd w A ys)
  (hl : ys.length = m * size) (h1 : ∀ u ∈ ys, u.oneCell' = true) (h63 : n + m ≤ maxLen) (hb : (n + m) * bytes ≤ 140737488355328)
  (h : ∀ A' c' w', w'.ownsRow 0 E size (.slice A' (n + m) c') (n + m) (xs ++ ys) → w.grownBy w' v.ownBlock → ((Value.slice A' (n + m) c').ownBlock = v.ownBlock ∨ (Value.slice A' (n + m) c').ownBlock = some w.heap.size) → K (a.put o.dst (.slice A' (n + m) c')) w') : o.wp Tryz.prog a w K Q := by
 obtain ⟨v', w', hrun, h2, h3, h4⟩ := run_append_rd w S E size bytes i0 z hS hi hz0 hz1 hz2 hzs hsz v n xs A m c ys o.type hown hr hl h1 h63 hb
 obtain ⟨A', c', rfl⟩ := own_form h2
 unfold Oper.wp execOp
 simp only [ho, resolve, invoke, builtin, Sem.run_bind, Sem.run_pure, Result.andThen_ok, List.map_toArray, List.map_cons, List.map_nil, hs, hx, hrun]
 exact h A' c' w' h2 h3 h4

theorem wpList_append_rd {ops : Array Oper} {rest : List Oper} {o : Oper} {a : Act} {Q : Exit → Act → World → Prop} (w : World) (hgd : o.guard = none) (s x : Operand) (S : TypeId)
  (ho : o.op = .call { callee := .builtin .append, args := #[s, x], argTypes := #[S, S] })
  (E size bytes : Nat) (i0 : TypeInfo) (z : Value) (hS : Tryz.prog.underlying S = some (.slice E)) (hi : Tryz.prog.info? E = some i0) (hz0 : i0.zero = some z) (hz1 : i0.size = size) (hz2 : i0.bytes = bytes) (hzs : z.cells.size = size) (hsz : 0 < size)
  (v : Value) (n : Nat) (xs : List Value) (A : Option Addr) (m c : Nat) (ys : List Value) (hs : a.eval s = v) (hown : w.ownsRow 0 E size v n xs) (hx : a.eval x = .slice A m c) (hr : Rd w A ys)
  (hl : ys.length = m * size) (h1 : ∀ u ∈ ys, u.oneCell' = true) (h63 : n + m ≤ maxLen) (hb : (n + m) * bytes ≤ 140737488355328)
  (h : ∀ A' c' w', w'.ownsRow 0 E size (.slice A' (n + m) c') (n + m) (xs ++ ys) → w.grownBy w' v.ownBlock → ((Value.slice A' (n + m) c').ownBlock = v.ownBlock ∨ (Value.slice A' (n + m) c').ownBlock = some w.heap.size) → wpList Tryz.prog ops Q rest (a.put o.dst (.slice A' (n + m) c')) w') :
  wpList Tryz.prog ops Q (o :: rest) a w :=
 wpList_plain hgd fun _ hK => wp_append_rd w s x S ho E size bytes i0 z hS hi hz0 hz1 hz2 hzs hsz v n xs A m c ys hs hown hx hr hl h1 h63 hb fun A' c' w' h2 h3 h4 => hK _ _ (h A' c' w' h2 h3 h4)


theorem int_info : (Tryz.prog.info? 3).map (fun i => (i.zero, i.size, i.bytes)) = some (some (.int .i64 0), 1, 8) := by kernel_rfl
def Blk (w : World) (g : Nat) (t : TypeId) (cs : Array Value) : Prop := w.heap[g]? = some (.cells cs t (0, 0))
section
variable {w w' : World} {g : Nat} {t : TypeId} {cs : Array Value}
theorem Blk.lt (h : Blk w g t cs) : g < w.heap.size := (Array.getElem?_eq_some_iff.1 h).1
theorem Blk.cell (h : Blk w g t cs) (i : Nat) : w.cell? ⟨g, i, none⟩ = cs[i]? := cell_of_row w g i cs t (0, 0) h
theorem Blk.frozen (h : Blk w g t cs) (i : Nat) : w.frozen? ⟨g, i, none⟩ = false := by unfold Blk at h; simp [World.frozen?, h]
theorem Blk.new (w : World) (t : TypeId) (cs : Array Value) : Blk (w.alloc (.cells cs t)) w.heap.size t cs := heap_alloc_new w _
theorem Blk.alloc (h : Blk w g t cs) (o : Obj) : Blk (w.alloc o) g t cs := (Below.heap_alloc w o g h.lt).trans h
theorem Blk.put (h : Blk w g t cs) (i : Nat) (u : Value) : Blk (w.setCell ⟨g, i, none⟩ u) g t (cs.setIfInBounds i u) := by
 unfold Blk at h ⊢; simp [World.setCell, Array.getElem?_modify, h]
theorem Blk.far (h : Blk w g t cs) {p : Addr} (hp : g ≠ p.block) (u : Value) : Blk (w.setCell p u) g t cs := (Below.heap_setCell w p u g hp).trans h
theorem Blk.grown {row : Option Nat} (h : Blk w g t cs) (hb : w.grownBy w' row) (hg : some g ≠ row) : Blk w' g t cs := (hb.block g h.lt hg).trans h
theorem Blk.keep {O : Nat → Prop} (h : Blk w g t cs) (hk : Keep O w w') (hg : ¬ O g) : Blk w' g t cs := (hk.block g h.lt hg).trans h
end

end Go.Proofs.YtghdibbooegocaaGreatDoor

namespace Go.Proofs.YtghdibbooegocaaGreatDoor.A
open Go.RowKit

abbrev str (l : List UInt8) : ByteArray := ⟨l.toArray⟩
abbrev svs (l : List (List UInt8)) : List Value := l.map fun s => .string (str s)
def ofI (l : List (List UInt8)) (s : List UInt8) : Int := if s ∈ l then (l.idxOf s : Int) else 0
def ofE (l : List (List UInt8)) (s : List UInt8) : Int := if s ∈ l then 0 else 30
def nameAt (l : List (List UInt8)) (n : Int) : List UInt8 := if 0 ≤ n then l.getD n.toNat [] else []

theorem getD_at {l : List (List UInt8)} {k : Nat} (hk : k < l.length) : l.getD k [] = l[k] := by rw [List.getD_eq_getElem?_getD, List.getElem?_eq_getElem hk]; rfl
theorem getD_past {l : List (List UInt8)} {k : Nat} (hk : l.length ≤ k) : l.getD k [] = [] := by rw [List.getD_eq_getElem?_getD, List.getElem?_eq_none hk]; rfl
theorem of_hit {l : List (List UInt8)} {s : List UInt8} {k : Nat} (hk : k < l.length) (he : l[k] = s) (hb : ∀ j (_ : j < k), l.getD j [] ≠ s) : ofI l s = (k : Int) ∧ ofE l s = 0 := by
 have hm : s ∈ l := by rw [← he]; exact List.getElem_mem hk
 have hi : l.idxOf s = k := by
  have h1 : l.idxOf s < l.length := List.idxOf_lt_length_iff.2 hm
  have h2 : l[l.idxOf s] = s := List.getElem_idxOf h1
  rcases Nat.lt_trichotomy (l.idxOf s) k with h | h | h
  ·exact absurd (by rw [getD_at h1]; exact h2) (hb _ h)
  ·exact h
  ·exact absurd he (by
    have := List.not_of_lt_findIdx (p := (· == s)) (xs := l) (i := k) h
    simpa using this)
 unfold ofI ofE
 rw [if_pos hm, if_pos hm, hi]; exact ⟨rfl, rfl⟩
theorem of_miss {l : List (List UInt8)} {s : List UInt8} (hb : ∀ j (_ : j < l.length), l.getD j [] ≠ s) : ofI l s = 0 ∧ ofE l s = 30 := by
 have hm : ¬ s ∈ l := fun h => by
  obtain ⟨i, hi, he⟩ := List.mem_iff_getElem.1 h
  exact hb i hi (by rw [getD_at hi]; exact he)
 unfold ofI ofE
 rw [if_neg hm, if_neg hm]; exact ⟨rfl, rfl⟩

theorem ret2 {a a' b b' : Int} (h1 : a = a') (h2 : b = b') : Ending.returned (.tuple #[.int .i64 a, .int .i64 b]) = .returned (.tuple #[.int .i64 a', .int .i64 b']) := by rw [h1, h2]

end Go.Proofs.YtghdibbooegocaaGreatDoor.A

namespace Go.Proofs.YtghdibbooegocaaGreatDoor.A
open Go.RowKit

def binNs : List (List UInt8) := [[97, 100, 100], [115, 117, 98], [109, 117, 108], [100, 105, 118], [114, 101, 109], [97, 110, 100], [111, 114], [120, 111, 114], [97, 110, 100, 110, 111, 116], [115, 104, 108], [115, 104, 114], [108, 116], [108, 101], [101, 113]]
def unNs : List (List UInt8) := [[110, 101, 103], [110, 111, 116], [122, 101, 114, 111], [105, 56], [105, 49, 54], [105, 51, 50], [117, 56], [117, 49, 54], [117, 51, 50]]
end Go.Proofs.YtghdibbooegocaaGreatDoor.A

namespace Go.Proofs.YtghdibbooegocaaGreatDoor.O

structure Row where
 name : List UInt8
 ka : Int
 kb : Int
 ta : Int
 tb : Int
 la : Int
 lb : Int
 hop : Bool
 fin : Bool

def rowsL : List Row := [
 ⟨[110, 111, 112], 0, 0, 0, 0, 0, 0, false, false⟩,
 ⟨[105, 110, 116], 1, 0, 0, 0, 1, 0, false, false⟩,
 ⟨[122, 101, 114, 111], 2, 0, 0, 0, -1, 0, false, false⟩,
 ⟨[108, 111, 97, 100], 4, 0, 0, 0, 0, 0, true, false⟩,
 ⟨[115, 116, 111, 114, 101], 4, 0, 0, 0, 0, 0, true, false⟩,
 ⟨[97, 100, 100, 114], 4, 0, 0, 0, 4, 0, false, false⟩,
 ⟨[108, 100, 112], 0, 0, 4, 0, 1, 0, false, false⟩,
 ⟨[115, 116, 112], 0, 0, 4, 1, 0, 0, false, false⟩,
 ⟨[110, 101, 119], 5, 0, 0, 0, 2, 0, false, false⟩,
 ⟨[103, 101, 116], 6, 3, 2, 0, -2, 0, false, false⟩,
 ⟨[115, 101, 116], 6, 3, 2, -2, 0, 0, false, false⟩,
 ⟨[102, 117, 110, 99], 7, 0, 0, 0, 3, 0, false, false⟩,
 ⟨[100, 117, 112], 0, 0, 0, 0, 0, 0, true, false⟩,
 ⟨[100, 114, 111, 112], 0, 0, 0, 0, 0, 0, true, false⟩,
 ⟨[115, 119, 97, 112], 0, 0, 0, 0, 0, 0, true, false⟩,
 ⟨[98, 105, 110], 8, 0, 1, 1, 1, 0, false, false⟩,
 ⟨[117, 110], 9, 0, 1, 0, 1, 0, false, false⟩,
 ⟨[101, 113], 2, 0, -1, -1, 1, 0, false, false⟩,
 ⟨[106, 109, 112], 10, 0, 0, 0, 0, 0, false, true⟩,
 ⟨[106, 122], 10, 0, 1, 0, 0, 0, false, false⟩,
 ⟨[99, 97, 108, 108], 7, 0, 0, 0, 0, 0, true, false⟩,
 ⟨[99, 97, 108, 108, 105], 7, 0, 0, 0, 0, 0, true, false⟩,
 ⟨[100, 101, 102, 101, 114], 7, 0, 0, 0, 0, 0, true, false⟩,
 ⟨[100, 101, 102, 101, 114, 105], 7, 0, 0, 0, 0, 0, true, false⟩,
 ⟨[114, 101, 116], 0, 0, 0, 0, 0, 0, false, true⟩,
 ⟨[112, 97, 110, 105, 99], 0, 0, 1, 0, 0, 0, false, true⟩,
 ⟨[114, 101, 99, 111, 118, 101, 114], 0, 0, 0, 0, 1, 1, false, false⟩,
 ⟨[103, 111, 101, 120, 105, 116], 0, 0, 0, 0, 0, 0, false, true⟩,
 ⟨[112, 114, 105, 110, 116], 0, 0, 1, 0, 0, 0, false, false⟩,
 ⟨[105, 110], 0, 0, 0, 0, 1, 1, false, false⟩]
theorem rows_length : rowsL.length = 30 := rfl

def row0 : Row := ⟨[], 0, 0, 0, 0, 0, 0, false, false⟩
def isOp (op : Int) : Bool := decide (0 ≤ op ∧ op < 30)
def rowAt (op : Int) : Row := if isOp op = true then rowsL.getD op.toNat row0 else row0

def lo (k : Int) : Int := if k = 1 then -9223372036854775808 else if k = 2 ∨ k = 3 then 1 else 0
def hi (k : Int) : Int :=
 if k = 1 then 9223372036854775807 else if k = 2 then 4 else if k = 3 then 3 else if k = 4 ∨ k = 5 ∨ k = 7 then 63 else if k = 6 then 15 else if k = 8 then 13 else if k = 9 then 8 else if k = 10 then 511 else 0
def inK (k n : Int) : Bool := decide (lo k ≤ n ∧ n ≤ hi k)
def okI (op a b : Int) : Bool := isOp op && inK (rowAt op).ka a && inK (rowAt op).kb b

theorem isOp_yes {op : Int} (h : isOp op = true) : 0 ≤ op ∧ op < 30 := of_decide_eq_true h
theorem isOp_no {op : Int} (h : isOp op = false) : ¬ (0 ≤ op ∧ op < 30) := of_decide_eq_false h
theorem rowAt_no {op : Int} (h : isOp op = false) : rowAt op = row0 := by unfold rowAt; rw [if_neg (by rw [h]; decide)]
theorem rowAt_yes {op : Int} (h : isOp op = true) : ∃ hk : op.toNat < rowsL.length, rowAt op = rowsL[op.toNat] := by
 have hb := isOp_yes h
 have hk : op.toNat < rowsL.length := by rw [rows_length]; omega
 refine ⟨hk, ?_⟩
 unfold rowAt
 rw [if_pos h, List.getD_eq_getElem?_getD, List.getElem?_eq_getElem hk]; rfl

theorem rowAt_all {p : Row → Bool} (h : rowsL.all p = true) (h0 : p row0 = true) (op : Int) : p (rowAt op) = true := by
 cases ho : isOp op
 ·rw [rowAt_no ho]; exact h0
 ·obtain ⟨hk, e⟩ := rowAt_yes ho
  rw [e]; exact List.all_eq_true.1 h _ (List.getElem_mem hk)

def word (k n : Int) : List UInt8 := if k = 2 ∨ k = 3 then W.letC n else if k = 8 then A.nameAt A.binNs n else if k = 9 then A.nameAt A.unNs n else Lib.itoa n
def partL (k n : Int) : List UInt8 := if k = 0 then [] else 32 :: word k n
def textI (op a b : Int) : List UInt8 := (rowAt op).name ++ (partL (rowAt op).ka a ++ partL (rowAt op).kb b)
def showI (op a b : Int) : List UInt8 := if okI op a b = true then textI op a b else []

theorem ok_op {op a b : Int} (h : okI op a b = true) : isOp op = true ∧ inK (rowAt op).ka a = true ∧ inK (rowAt op).kb b = true := by
 unfold okI at h
 simp only [Bool.and_eq_true] at h
 exact ⟨h.1.1, h.1.2, h.2⟩

end Go.Proofs.YtghdibbooegocaaGreatDoor.O

namespace Go.Proofs.YtghdibbooegocaaGreatDoor.O
open Go.RowKit

abbrev str (l : List UInt8) : ByteArray := ⟨l.toArray⟩
def rowC (r : Row) : Array Value := #[.string (str r.name), .int .i64 r.ka, .int .i64 r.kb, .int .i64 r.ta, .int .i64 r.tb, .int .i64 r.la, .int .i64 r.lb, .bool r.hop, .bool r.fin]
def tableC : Array Value := (rowsL.flatMap fun r => (rowC r).toList).toArray

theorem wpList_build_to {P : Program} {ops : Array Oper} {rest : List Oper} {o : Oper} {a : Act} {w : World} {Q : Exit → Act → World → Prop} (hg : o.guard = none) (t : TypeId) (parts : Array (Nat × Operand)) (ho : o.op = .build t parts)
  (cells : Array Value) (hf : P.built t (parts.map fun (i, x) => (i, a.eval x)).toList = some cells)
  (h : wpList P ops Q rest (a.put o.dst (.agg cells)) w) : wpList P ops Q (o :: rest) a w :=
 wpList_build hg t parts ho (by rw [hf]; rfl) (by rw [hf]; exact h)

theorem results_cell {P : Program} {fn : Func} {tmps : Array Value} {a : Tmp} {t : TypeId} {ad : Addr} {v : Value} {w : World} (hr : fn.results = #[.cell a t]) (ha : tmps.getD a undef = .pointer (some ad))
  (hl : (loadVar t ad).run P w = .ok v w) : (results fn tmps).run P w = .ok v w := by
 have hq : (asAddr (.pointer (some ad))).run P w = .ok ad w := by simp [go_sem]
 unfold results
 rw [hr]
 simp only [Array.mapM_eq_mapM_toList, List.mapM_cons, List.mapM_nil]
 simp [ha, hq, hl]

theorem row_part : ∀ n : Nat, n < 30 → tableC.extract (n * 9) (n * 9 + 9) = rowC (rowsL.getD n row0) := by
 intro n h
 obtain rfl | rfl | rfl | rfl | rfl | rfl | rfl | rfl | rfl | rfl | rfl | rfl | rfl | rfl | rfl | rfl | rfl | rfl | rfl | rfl | rfl | rfl | rfl | rfl | rfl | rfl | rfl | rfl | rfl | rfl :
  n = 0 ∨ n = 1 ∨ n = 2 ∨ n = 3 ∨ n = 4 ∨ n = 5 ∨ n = 6 ∨ n = 7 ∨ n = 8 ∨ n = 9 ∨ n = 10 ∨ n = 11 ∨ n = 12 ∨ n = 13 ∨ n = 14 ∨ n = 15 ∨ n = 16 ∨ n = 17 ∨ n = 18 ∨ n = 19 ∨ n = 20 ∨ n = 21 ∨ n = 22 ∨ n = 23 ∨ n = 24 ∨ n = 25 ∨ n = 26 ∨ n = 27 ∨ n = 28 ∨ n = 29 := by omega
 all_goals kernel_rfl

theorem table_info : (Tryz.prog.info? 121).map (·.size) = some tableC.size := by kernel_rfl
theorem zero_size : Tryz.zeroCells121.size = tableC.size := by kernel_rfl
theorem table_one : tableC.all (·.oneCell') = true := by kernel_rfl

set_option maxRecDepth 100000 in
set_option maxHeartbeats 4000000 in
theorem table_any (w : World) : Calls Tryz.prog 93 #[] w fun e w' => e = .returned (.agg tableC) ∧ Keep NoB w w' := by
 go_enter Tryz.func93, Tryz.ntmps93
 go_wp2_with (first
  | (refine wpList_build_to rfl 121 _ rfl tableC (by kernel_rfl) ?_)
  | (refine wpList_store_row rfl 121 _ _ rfl w.heap.size tableC rfl rfl 121 _ (heap_alloc_last w _) table_info zero_size table_one ?_; rw [World.setRow_alloc_new]))
 exact bodyPost_ret (v := .agg tableC) (results_cell rfl rfl (run_loadVar_new (P := Tryz.prog) w 121 tableC 30 _ Tryz.underlying121 table_info)) rfl ⟨rfl, (Keep.refl NoB w).alloc _⟩

theorem run_index_row (op : Int) (h : isOp op = true) (w : World) : (Instr.index 121 (.agg tableC) (.int .i64 op)).run Tryz.prog w = .ok (.agg (rowC (rowAt op))) w := by
 have hb := isOp_yes h
 have e : rowAt op = rowsL.getD op.toNat row0 := by unfold rowAt; rw [if_pos h]
 have hp := row_part op.toNat (by omega)
 have hi : (sizeOf 82).run Tryz.prog w = .ok 9 w := Tryz.sizeOf82 w
 unfold Instr.index
 simp [run_underlying Tryz.underlying121, asIntOf, hb.1, hb.2, hi, part, hp, e]

end Go.Proofs.YtghdibbooegocaaGreatDoor.O

namespace Go.Proofs.YtghdibbooegocaaGreatDoor
open Go.RowKit

structure KW (w0 : World) where
 w : World
 keep : Keep NoB w0 w
instance kwNonempty (w0 : World) : Nonempty (KW w0) := ⟨⟨w0, Keep.refl _ _⟩⟩

theorem kept_of {P : Program} {f : FuncId} {args : Array Value} {w0 : World} {n : KW w0} {v : Value}
  (h : Calls P f args n.w fun e w' => e = .returned v ∧ Keep NoB n.w w') : Calls P f args n.w fun e w'' => e = .returned v ∧ ∃ m : KW w0, w'' = m.w :=
 h.mono fun _ _ ⟨he, hk⟩ => ⟨he, ⟨_, keepN n.keep hk⟩, rfl⟩

end Go.Proofs.YtghdibbooegocaaGreatDoor

namespace Go.Proofs.YtghdibbooegocaaGreatDoor
open Go.RowKit

def StableI (I : World → Prop) : Prop := ∀ w w', I w → Keep NoB w w' → I w'
theorem StableI.and {I J : World → Prop} (h : StableI I) (h' : StableI J) : StableI fun w => I w ∧ J w := fun w w' hw hk => ⟨h w w' hw.1 hk, h' w w' hw.2 hk⟩
theorem stable_blk (g : Nat) (o : Obj) : StableI fun w => w.heap[g]? = some o := fun _ _ h hk => (hk.block g (Array.getElem?_eq_some_iff.1 h).1 id).trans h
theorem stable_keep (w0 : World) : StableI fun w => Keep NoB w0 w := fun _ _ h hk => keepN h hk

def isMake (o : Oper) : Bool := match o.op with
 | .alloc _ => true
 | .buildSlice .. => true
 | .makeSlice .. => true
 | _ => false

section
variable {P : Program} {ops : Array Oper} {md : Region.Mode}

def yieldsR (R : Value → World → Prop) : Program → Result Next → Prop
 | _, .ok (.value u) w' => R u w'
 | _, .ok .skip w' => R undef w'
 | P, .ok (.enter f args) w' => Calls P f args w' fun e w'' => ∃ u, e = .returned u ∧ R u w''
 | _, _ => False
def yieldsK (P : Program) (o : Oper) (a : Act) (w : World) (R : Value → World → Prop) : Prop := yieldsR R P ((execOp a.eval o).run P w)

def Quiet1 (P : Program) (o : Oper) (a : Act) (I : World → Prop) (v : Value) : Prop := ∀ w, I w → yieldsK P o a w fun u w' => u = v ∧ Keep NoB w w'
def Gen1 (P : Program) (o : Oper) (a : Act) (I : World → Prop) (V : Value → World → Prop) : Prop := (∀ v, StableI (V v)) ∧ ∀ w, I w → yieldsK P o a w fun u w' => V u w' ∧ Keep NoB w w'
def Make1 (P : Program) (o : Oper) (a : Act) (mk : Nat → Value) (obj : Obj) : Prop := ∀ w, (execOp a.eval o).run P w = .ok (.value (mk w.heap.size)) (w.alloc obj)

abbrev Kont := Act → (World → Prop) → Prop

def mOp (P : Program) (ops : Array Oper) (gen : Bool) (i : Nat) (K : Kont) (a : Act) (I : World → Prop) : Prop :=
 match ops[i]? with
 | none => K a I
 | some o =>
  if Region.wanted o (yielded ops a.tmps) then
   (if isMake o then ∃ mk obj, Make1 P o a mk obj ∧ ∀ g, K (a.put o.dst (mk g)) fun w => I w ∧ w.heap[g]? = some obj
   else (∃ v, Quiet1 P o a I v ∧ K (a.put o.dst v) I) ∨ (gen = true ∧ ∃ V, Gen1 P o a I V ∧ ∀ v, K (a.put o.dst v) fun w => I w ∧ V v w))
  else K (a.put o.dst undef) I

theorem mOp_mono {gen gen' : Bool} {i : Nat} {a : Act} {I : World → Prop} {K K' : Kont} (hg : gen = true → gen' = true) (h : ∀ a I, K a I → K' a I) (hh : mOp P ops gen i K a I) : mOp P ops gen' i K' a I := by
 unfold mOp at *
 split
 ·rename_i ho; simp only [ho] at hh; exact h _ _ hh
 ·rename_i o ho
  simp only [ho] at hh
  split
  ·rename_i hw
   simp only [hw, if_true] at hh
   split
   ·rename_i hm
    simp only [hm, if_true] at hh
    obtain ⟨mk, obj, h1, h2⟩ := hh
    exact ⟨mk, obj, h1, fun g => h _ _ (h2 g)⟩
   ·rename_i hm
    simp only [hm] at hh
    rcases hh with ⟨v, h1, h2⟩ | ⟨hgen, V, h1, h2⟩
    ·exact .inl ⟨v, h1, h _ _ h2⟩
    ·exact .inr ⟨hg hgen, V, h1, fun v => h _ _ (h2 v)⟩
  ·rename_i hw; simp only [hw] at hh; exact h _ _ hh

def wpAnyM (P : Program) (md : Region.Mode) (ops : Array Oper) (Q : Act → World → Prop) : Nat → Array Bool → Act → (World → Prop) → Prop
 | 0, listed, a, I => Region.ready md ops listed = [] ∧ ∀ w, I w → Q a w
 | fuel + 1, listed, a, I =>
  (Region.ready md ops listed = [] → ∀ w, I w → Q a w) ∧
  ∀ i ∈ Region.ready md ops listed, mOp P ops true i (wpAnyM P md ops Q fuel (listed.setIfInBounds i true)) a I

theorem Oper.wp_of_yields {o : Oper} {a : Act} {w : World} {K' : Act → World → Prop} {Q' : Exit → Act → World → Prop} {R : Value → World → Prop} (h : yieldsK P o a w R) (hK : ∀ u w', R u w' → K' (a.put o.dst u) w') : o.wp P a w K' Q' := by
 unfold yieldsK at h
 unfold Oper.wp
 generalize (execOp a.eval o).run P w = r at *
 cases r with
 | ok n w' =>
  cases n <;> simp only [yieldsR] at h <;> simp only [Oper.upon]
  case value u => exact hK _ _ h
  case skip => exact hK _ _ h
  case enter f args => exact h.mono fun e w'' ⟨u, he, hr⟩ => by subst he; exact hK _ _ hr
 | halt x w' => simp only [yieldsR] at h

theorem wpOp_of_mOp {gen : Bool} {i : Nat} {a : Act} {I : World → Prop} {K : Kont} {K' : Act → World → Prop} {Q' : Exit → Act → World → Prop} {w : World} (hI : StableI I) (hw0 : I w)
  (h : ∀ a I w', StableI I → I w' → K a I → K' a w') (hh : mOp P ops gen i K a I) : wpOp P ops Q' i K' a w := by
 unfold mOp at hh
 unfold wpOp
 split
 ·rename_i ho; simp only [ho] at hh; exact h _ _ _ hI hw0 hh
 ·rename_i o ho
  simp only [ho] at hh
  split
  ·rename_i hw
   simp only [hw, if_true] at hh
   refine .inl ?_
   split at hh
   ·obtain ⟨mk, obj, h1, h2⟩ := hh
    have hk : Keep NoB w (w.alloc obj) := (Keep.refl _ _).alloc _
    have hy : yieldsK P o a w fun u w' => u = mk w.heap.size ∧ w' = w.alloc obj := by unfold yieldsK; rw [h1 w]; exact ⟨rfl, rfl⟩
    refine Oper.wp_of_yields hy ?_
    rintro u w' ⟨rfl, rfl⟩
    exact h _ _ _ (hI.and (stable_blk _ _)) ⟨hI _ _ hw0 hk, heap_alloc_new w obj⟩ (h2 _)
   ·rcases hh with ⟨v, h1, h2⟩ | ⟨_, V, h1, h2⟩
    ·refine Oper.wp_of_yields (h1 w hw0) ?_
     rintro u w' ⟨rfl, hk⟩
     exact h _ _ _ hI (hI _ _ hw0 hk) h2
    ·refine Oper.wp_of_yields (h1.2 w hw0) ?_
     rintro u w' ⟨hv, hk⟩
     exact h _ _ _ (hI.and (h1.1 u)) ⟨hI _ _ hw0 hk, hv⟩ (h2 u)
  ·rename_i hw; simp only [hw] at hh; exact h _ _ _ hI hw0 hh

theorem wpAny_of_M {Q : Act → World → Prop} {Q' : Exit → Act → World → Prop} (hQ : ∀ a w, Q a w → Q' .normal a w) : ∀ (fuel : Nat) (listed : Array Bool) (a : Act) (I : World → Prop) (w : World), StableI I → I w →
  wpAnyM P md ops Q fuel listed a I → wpAny P md ops Q' fuel listed a w
 | 0, _, _, _, _, _, hw, h => ⟨h.1, hQ _ _ (h.2 _ hw)⟩
 | fuel + 1, _, _, _, _, hI, hw, h => ⟨fun h0 => hQ _ _ (h.1 h0 _ hw), fun i hi => wpOp_of_mOp hI hw (fun a' I' w' hI' hw' hk => wpAny_of_M hQ fuel _ a' I' w' hI' hw' hk) (h.2 i hi)⟩

def YM (P : Program) (ops : Array Oper) (o : Oper) (v : Value) (a : Act) (I : World → Prop) : Prop :=
 (Region.wanted o (yielded ops a.tmps) = true ∧ isMake o = false ∧ Quiet1 P o a I v) ∨ (Region.wanted o (yielded ops a.tmps) = false ∧ v = undef)

theorem YM.mOp {i : Nat} {o : Oper} {v : Value} {a : Act} {I : World → Prop} (hi : ops[i]? = some o) (hy : YM P ops o v a I) {K : Kont} (h : K (a.put o.dst v) I) : mOp P ops true i K a I := by
 unfold Go.Proofs.YtghdibbooegocaaGreatDoor.mOp
 simp only [hi]
 rcases hy with ⟨hw, hm, hv⟩ | ⟨hw, rfl⟩
 ·simp only [hw, if_true, hm, Bool.false_eq_true, if_false]; exact .inl ⟨v, hv, h⟩
 ·simp only [hw, Bool.false_eq_true, if_false]; exact h

theorem YM.of_same {o : Oper} {v : Value} {a a' : Act} {I I' : World → Prop} (hy : YM P ops o v a I) (hI : ∀ w, I' w → I w) (he : execOp a'.eval o = execOp a.eval o)
  (hw : Region.wanted o (yielded ops a'.tmps) = Region.wanted o (yielded ops a.tmps)) : YM P ops o v a' I' := by
 unfold YM Quiet1 yieldsK at *
 rw [he, hw]
 exact hy.imp (fun ⟨h1, h2, h3⟩ => ⟨h1, h2, fun w h => h3 w (hI w h)⟩) id

theorem mOp_put {j : Nat} {oi oj : Oper} {v : Value} (hj : ops[j]? = some oj) (hap : oi.apart ops oj = true)
  (hsi : ∀ cs b, oi.op ≠ .select cs b) (hsj : ∀ cs b, oj.op ≠ .select cs b) {K : Kont} {a : Act} {I : World → Prop}
  (hy : YM P ops oi v a I) (h : mOp P ops true j K (a.put oi.dst v) I) :
  mOp P ops true j (fun a' I' => YM P ops oi v a' I' ∧ K (a'.put oi.dst v) I') a I := by
 obtain ⟨h1, h2, h3⟩ := Oper.apart_spec hap
 have keep : ∀ u, ∀ I' : World → Prop, (∀ w, I' w → I w) → YM P ops oi v (a.put oj.dst u) I' := fun u I' hI =>
  hy.of_same hI (execOp_put oi hsi a oj.dst u h3) (wanted_put oi a oj.dst u h3)
 unfold mOp at *
 simp only [hj] at *
 rw [wanted_put oj a oi.dst v h1] at h
 split
 ·rename_i hw
  simp only [hw, if_true] at h
  split
  ·rename_i hm
   simp only [hm, if_true] at h
   obtain ⟨mk, obj, k1, k2⟩ := h
   refine ⟨mk, obj, ?_, fun g => ⟨keep _ _ (fun w hw => hw.1), by rw [← Act.put_comm a v (mk g) h2]; exact k2 g⟩⟩
   unfold Make1 at *
   rwa [execOp_put oj hsj a oi.dst v h1] at k1
  ·rename_i hm
   simp only [hm] at h
   rcases h with ⟨u, k1, k2⟩ | ⟨hg, V, k1, k2⟩
   ·refine .inl ⟨u, ?_, keep u _ (fun _ h => h), by rw [← Act.put_comm a v u h2]; exact k2⟩
    unfold Quiet1 yieldsK at *
    rwa [execOp_put oj hsj a oi.dst v h1] at k1
   ·refine .inr ⟨by simp, V, ?_, fun u => ⟨keep u _ (fun _ h => h.1), by rw [← Act.put_comm a v u h2]; exact k2 u⟩⟩
    unfold Gen1 yieldsK at *
    rwa [execOp_put oj hsj a oi.dst v h1] at k1
 ·rename_i hw
  simp only [hw] at h
  exact ⟨keep _ _ (fun _ h => h), by rw [← Act.put_comm a v undef h2]; exact h⟩

theorem not_waits {i : Nat} {oj : Oper} {listed : Array Bool} (hr : i ∈ Region.ready md ops listed) (hall : ∀ e ∈ oj.after, Region.binds md e = true → listed.getD e.on false = true) :
  ∀ e ∈ oj.after, Region.binds md e = true → e.on ≠ i := fun e he hb heq => by
 have h1 := hall e he hb
 have h0 := (mem_ready.1 hr).1
 rw [heq] at h1
 rcases Nat.lt_or_ge i listed.size with h' | h'
 ·simp [h'] at h0 h1; rw [h0] at h1; cases h1
 ·simp [Array.getElem?_eq_none h'] at h1

theorem wpAnyM_first {Q : Act → World → Prop} {i : Nat} {oi : Oper} {v : Value} (hi : ops[i]? = some oi) (hsel : ∀ (j : Nat) (o : Oper) cs b, ops[j]? = some o → o.op ≠ .select cs b) :
  ∀ (fuel : Nat) (listed : Array Bool) (a : Act) (I : World → Prop),
   (∀ j oj, ops[j]? = some oj → j ≠ i → listed.getD j true = false → (∀ e ∈ oj.after, Region.binds md e = true → e.on ≠ i) → oi.apart ops oj = true) →
   i ∈ Region.ready md ops listed → YM P ops oi v a I →
   wpAnyM P md ops Q fuel (listed.setIfInBounds i true) (a.put oi.dst v) I → wpAnyM P md ops Q (fuel + 1) listed a I := by
 intro fuel
 induction fuel with
 | zero =>
  intro listed a I _ hr hy H
  refine ⟨fun h => (by rw [h] at hr; cases hr), fun j hj => ?_⟩
  by_cases hji : j = i
  ·subst hji; exact hy.mOp hi H
  ·have := ready_mono hj hji
   rw [H.1] at this
   cases this
 | succ fuel ih =>
  intro listed a I hfree hr hy H
  refine ⟨fun h => (by rw [h] at hr; cases hr), fun j hj => ?_⟩
  by_cases hji : j = i
  ·subst hji; exact hy.mOp hi H
  ·have h1 := H.2 j (ready_mono hj hji)
   obtain ⟨hjun, oj, hoj, hall⟩ := mem_ready.1 hj
   have h2 := mOp_put hoj (hfree j oj hoj hji hjun (not_waits hr hall)) (fun cs b => hsel i oi cs b hi) (fun cs b => hsel j oj cs b hoj) hy h1
   have hfree' : ∀ k ok, ops[k]? = some ok → k ≠ i → (listed.setIfInBounds j true).getD k true = false →
     (∀ e ∈ ok.after, Region.binds md e = true → e.on ≠ i) → oi.apart ops ok = true := fun k ok hk hki hun hno => by
    refine hfree k ok hk hki ?_ hno
    by_cases hjk : j = k
    ·subst hjk; exact hjun
    ·rw [getD_set_ne true hjk] at hun; exact hun
   refine mOp_mono id (fun a' I' h3 => ih (listed.setIfInBounds j true) a' I' hfree' (ready_mono hr (Ne.symm hji)) h3.1 ?_) h2
   rw [Array.setIfInBounds_comm _ _ hji]
   exact h3.2

def onlyMakes (md : Region.Mode) (ops : Array Oper) (i : Nat) : Nat → Array Bool → Bool
 | 0, _ => false
 | fuel + 1, listed => (Region.ready md ops listed).all fun j => j == i || ((ops[j]?).map isMake).getD false && onlyMakes md ops i fuel (listed.setIfInBounds j true)

theorem make_same {o : Oper} {a : Act} {mk mk' : Nat → Value} {obj obj' : Obj} (h : Make1 P o a mk obj) (h' : Make1 P o a mk' obj') : mk' = mk ∧ obj' = obj := by
 have key : ∀ w : World, mk' w.heap.size = mk w.heap.size ∧ w.alloc obj' = w.alloc obj := fun w => by
  have e := (h' w).symm.trans (h w)
  injection e with e1 e2
  injection e1 with e1
  exact ⟨e1, e2⟩
 refine ⟨funext fun n => ?_, ?_⟩
 ·have := (key { heap := Array.replicate n obj, tape := fun _ _ => 0, drawn := 0, os := default, output := #[] }).1
  simpa using this
 ·have := (key { heap := #[], tape := fun _ _ => 0, drawn := 0, os := default, output := #[] }).2
  have e := congrArg (fun w : World => w.heap[0]?) this
  have a1 : ∀ (w : World) (o : Obj), w.heap = #[] → (w.alloc o).heap[0]? = some o := fun w o hw => by
   have := heap_alloc_new w o
   rwa [hw] at this
  rw [a1 _ _ rfl, a1 _ _ rfl] at e
  exact Option.some.inj e

theorem wpAnyM_make {Q : Act → World → Prop} {i : Nat} {oi : Oper} (hi : ops[i]? = some oi) (hm : isMake oi = true) (hsel : ∀ (j : Nat) (o : Oper) cs b, ops[j]? = some o → o.op ≠ .select cs b) {mk : Nat → Value} {obj : Obj} :
  ∀ (fuel n : Nat) (listed : Array Bool) (a : Act) (I : World → Prop),
   (∀ j oj, ops[j]? = some oj → j ≠ i → listed.getD j true = false → (∀ e ∈ oj.after, Region.binds md e = true → e.on ≠ i) → oi.apart ops oj = true) →
   onlyMakes md ops i n listed = true → i ∈ Region.ready md ops listed → Region.wanted oi (yielded ops a.tmps) = true → Make1 P oi a mk obj →
   (∀ g, wpAnyM P md ops Q fuel (listed.setIfInBounds i true) (a.put oi.dst (mk g)) fun w => I w ∧ w.heap[g]? = some obj) → wpAnyM P md ops Q (fuel + 1) listed a I := by
 intro fuel
 have own : ∀ (fuel : Nat) (listed : Array Bool) (a : Act) (I : World → Prop), Region.wanted oi (yielded ops a.tmps) = true → Make1 P oi a mk obj →
   (∀ g, wpAnyM P md ops Q fuel (listed.setIfInBounds i true) (a.put oi.dst (mk g)) fun w => I w ∧ w.heap[g]? = some obj) → mOp P ops true i (wpAnyM P md ops Q fuel (listed.setIfInBounds i true)) a I := by
  intro fuel listed a I hw hk H
  unfold mOp
  simp only [hi, hw, if_true, hm]
  exact ⟨mk, obj, hk, H⟩
 induction fuel with
 | zero =>
  intro n listed a I _ _ hr hw hk H
  refine ⟨fun h => (by rw [h] at hr; cases hr), fun j hj => ?_⟩
  by_cases hji : j = i
  ·subst hji; exact own _ _ _ _ hw hk H
  ·have := ready_mono hj hji
   rw [(H 0).1] at this
   cases this
 | succ fuel ih =>
  intro n listed a I hfree hom hr hw hk H
  refine ⟨fun h => (by rw [h] at hr; cases hr), fun j hj => ?_⟩
  by_cases hji : j = i
  ·subst hji; exact own _ _ _ _ hw hk H
  ·obtain ⟨m, rfl⟩ : ∃ m, n = m + 1 := by
    cases n with
    | zero => cases hom
    | succ m => exact ⟨m, rfl⟩
   have hom' := List.all_eq_true.1 hom j hj
   obtain ⟨hjun, oj, hoj, hall⟩ := mem_ready.1 hj
   simp only [beq_iff_eq, hji, Bool.or_eq_true, false_or, hoj, Option.map_some, Option.getD_some, Bool.and_eq_true] at hom'
   obtain ⟨hmj, hom2⟩ := hom'
   have hap := hfree j oj hoj hji hjun (not_waits hr hall)
   obtain ⟨h1, h2, h3⟩ := Oper.apart_spec hap
   have hsi := fun cs b => hsel i oi cs b hi
   have hsj := fun cs b => hsel j oj cs b hoj
   have hfree' : ∀ k ok, ops[k]? = some ok → k ≠ i → (listed.setIfInBounds j true).getD k true = false →
     (∀ e ∈ ok.after, Region.binds md e = true → e.on ≠ i) → oi.apart ops ok = true := fun k ok hk hki hun hno => by
    refine hfree k ok hk hki ?_ hno
    by_cases hjk : j = k
    ·subst hjk; exact hjun
    ·rw [getD_set_ne true hjk] at hun; exact hun
   have on : ∀ (u : Value) (I' : World → Prop), (∀ g, wpAnyM P md ops Q fuel ((listed.setIfInBounds i true).setIfInBounds j true) ((a.put oi.dst (mk g)).put oj.dst u) fun w => I' w ∧ w.heap[g]? = some obj) →
     wpAnyM P md ops Q (fuel + 1) (listed.setIfInBounds j true) (a.put oj.dst u) I' := fun u I' hK => by
    refine ih m (listed.setIfInBounds j true) (a.put oj.dst u) I' hfree' hom2 (ready_mono hr (Ne.symm hji)) ?_ ?_ fun g => ?_
    ·rw [wanted_put oi a oj.dst u h3]; exact hw
    ·unfold Make1 at *; rw [execOp_put oi hsi a oj.dst u h3]; exact hk
    ·rw [Array.setIfInBounds_comm _ _ hji, ← Act.put_comm a (mk g) u h2]; exact hK g
   have H1 : ∀ g, mOp P ops true j (wpAnyM P md ops Q fuel ((listed.setIfInBounds i true).setIfInBounds j true)) (a.put oi.dst (mk g)) fun w => I w ∧ w.heap[g]? = some obj := fun g => (H g).2 j (ready_mono hj hji)
   unfold mOp at H1 ⊢
   simp only [hoj, hmj, if_true] at H1 ⊢
   split
   ·rename_i hwj
    have H2 : ∀ g, ∃ mk' obj', Make1 P oj (a.put oi.dst (mk g)) mk' obj' ∧ ∀ g', wpAnyM P md ops Q fuel ((listed.setIfInBounds i true).setIfInBounds j true) ((a.put oi.dst (mk g)).put oj.dst (mk' g')) fun w => (I w ∧ w.heap[g]? = some obj) ∧ w.heap[g']? = some obj' := fun g => by
     have := H1 g
     rwa [wanted_put oj a oi.dst (mk g) h1, if_pos hwj] at this
    have hmk : ∀ g mk' obj', Make1 P oj (a.put oi.dst (mk g)) mk' obj' → Make1 P oj a mk' obj' := fun g mk' obj' h => by
     unfold Make1 at *; rwa [execOp_put oj hsj a oi.dst (mk g) h1] at h
    obtain ⟨mkj, objj, k1, _⟩ := H2 0
    refine ⟨mkj, objj, hmk _ _ _ k1, fun g' => on _ _ fun g => ?_⟩
    obtain ⟨mk', obj', k1', k2⟩ := H2 g
    obtain ⟨rfl, rfl⟩ := make_same (hmk _ _ _ k1) (hmk _ _ _ k1')
    have e : (fun w : World => (I w ∧ w.heap[g']? = some obj') ∧ w.heap[g]? = some obj) = fun w => (I w ∧ w.heap[g]? = some obj) ∧ w.heap[g']? = some obj' := funext fun w => propext (and_right_comm)
    rw [e]
    exact k2 g'
   ·rename_i hwj
    refine on _ _ fun g => ?_
    have := H1 g
    rwa [wanted_put oj a oi.dst (mk g) h1, if_neg hwj] at this

def wpM (P : Program) (ops : Array Oper) (Q : Act → World → Prop) : List (Nat × Bool) → Kont
 | [], a, I => ∀ w, I w → Q a w
 | (i, gen) :: rest, a, I => mOp P ops gen i (wpM P ops Q rest) a I

def orderM (md : Region.Mode) (ops : Array Oper) : List (Nat × Bool) → Array Bool → Bool
 | [], listed => (Region.ready md ops listed).isEmpty
 | (i, gen) :: rest, listed => (Region.ready md ops listed).contains i && (if gen then Region.ready md ops listed == [i] else Region.free md ops listed i && (!((ops[i]?).map isMake).getD false || onlyMakes md ops i ops.size listed)) && orderM md ops rest (listed.setIfInBounds i true)

theorem wpAnyM_order {Q : Act → World → Prop} (hs : Region.noSelect ops = true) : ∀ (l : List (Nat × Bool)) (listed : Array Bool) (a : Act) (I : World → Prop),
  orderM md ops l listed = true → wpM P ops Q l a I → wpAnyM P md ops Q l.length listed a I
 | [], _, _, _, hB, h => ⟨by simpa [orderM] using hB, h⟩
 | (i, gen) :: rest, listed, a, I, hB, h => by
  simp only [orderM, Bool.and_eq_true] at hB
  obtain ⟨⟨hr, hc⟩, hB'⟩ := hB
  have hr : i ∈ Region.ready md ops listed := by simpa using hr
  obtain ⟨_, oi, hi, _⟩ := mem_ready.1 hr
  have go := fun a' I' hK => wpAnyM_order (Q := Q) hs rest (listed.setIfInBounds i true) a' I' hB' hK
  cases gen with
  | true =>
   simp only [if_true, beq_iff_eq] at hc
   refine ⟨fun h => (by rw [h] at hr; cases hr), fun j hj => ?_⟩
   rw [hc] at hj
   obtain rfl := List.mem_singleton.1 hj
   exact mOp_mono id go h
  | false =>
   simp only [Bool.false_eq_true, if_false, Bool.and_eq_true, hi, Option.map_some, Option.getD_some, Bool.or_eq_true, Bool.not_eq_true'] at hc
   obtain ⟨hf, hmk⟩ := hc
   have hfree := Region.free_spec (md := md) hi hf
   change mOp P ops false i (wpM P ops Q rest) a I at h
   unfold mOp at h
   simp only [hi] at h
   split at h
   ·rename_i hw
    split at h
    ·rename_i hm
     obtain ⟨mk, obj, k1, k2⟩ := h
     rcases hmk with hmk | hmk
     ·rw [hm] at hmk; cases hmk
     ·exact wpAnyM_make hi hm (Region.noSelect_spec hs) rest.length ops.size listed a I hfree hmk hr hw k1 fun g => go _ _ (k2 g)
    ·rename_i hm
     rcases h with ⟨v, k1, k2⟩ | ⟨hg, _⟩
     ·exact wpAnyM_first hi (Region.noSelect_spec hs) rest.length listed a I hfree hr (.inl ⟨hw, by simpa using hm, k1⟩) (go _ _ k2)
     ·cases hg
   ·rename_i hw
    exact wpAnyM_first hi (Region.noSelect_spec hs) rest.length listed a I hfree hr (.inr ⟨by simpa using hw, rfl⟩) (go _ _ h)

theorem wp_region_mix {id : Nat} {Q : Exit → Act → World → Prop} {a : Act} {w : World} (l : List (Nat × Bool)) (I : World → Prop) (hm : P.follows .mixedOrders = true) (hs : Region.noSelect ops = true) (hl : l.length = ops.size)
  (hB : orderM .any ops l (Array.replicate ops.size false) = true) (hI : StableI I) (hw : I w.drew) (h : wpM P ops (Q .normal) l a I) : (Code.region id ops true).wp P Q a w :=
 wp_region_any hm (wpAny_of_M (Q := Q .normal) (fun _ _ h => h) _ _ _ I _ hI hw (by have := wpAnyM_order hs l _ a I hB h; rwa [hl] at this))

end
end Go.Proofs.YtghdibbooegocaaGreatDoor

namespace Go.Proofs.YtghdibbooegocaaGreatDoor
open Go.RowKit

structure KI (I : World → Prop) where
 w : World
 has : I w

section
variable {P : Program} {l tl : List Oper} {Q : Act → World → Prop} {rest : List (Nat × Bool)} {i : Nat} {gen : Bool} {o : Oper} {a : Act} {I : World → Prop}

theorem at_drop (ho : l.drop i = o :: tl) : l.toArray[i]? = some o := by
 rw [List.getElem?_toArray, ← List.head?_drop, ho]; rfl
theorem wpM_skip (ho : l.drop i = o :: tl) (hw : Region.wanted o (yielded l.toArray a.tmps) = false) (h : wpM P l.toArray Q rest (a.put o.dst undef) I) : wpM P l.toArray Q ((i, gen) :: rest) a I := by
 change mOp P l.toArray gen i (wpM P l.toArray Q rest) a I
 have ho := at_drop ho
 unfold mOp
 simp only [ho, hw, Bool.false_eq_true, if_false]
 exact h

theorem wpM_step (ho : l.drop i = o :: tl) (hm : isMake o = false) {d : Tmp} (hd : o.dst = some d) (hlt : decide (d < a.tmps.size) = true) (hw : Region.wanted o (yielded l.toArray a.tmps) = true)
  (HH : ∃ A' : Act, (∀ n : KI I, ∀ K : Act → Prop, (∀ a', a' = A' → K a') → o.quiet P a (fun w' => ∃ m : KW n.w, w' = m.w) K) ∧ a.put o.dst (A'.tmps.getD d undef) = A' ∧ wpM P l.toArray Q rest A' I) : wpM P l.toArray Q ((i, gen) :: rest) a I := by
 obtain ⟨A', H, hA, h⟩ := HH
 change mOp P l.toArray gen i (wpM P l.toArray Q rest) a I
 have ho := at_drop ho
 unfold mOp
 simp only [ho, hw, if_true, hm, Bool.false_eq_true, if_false]
 have hlt := of_decide_eq_true hlt
 have key : ∀ n : KI I, ∃ v, a.put o.dst v = A' ∧ yieldsK P o a n.w fun u w' => u = v ∧ Keep NoB n.w w' := fun n => by
  obtain ⟨v, h1, h2⟩ := H n (fun a' => a' = A') (fun _ h => h)
  refine ⟨v, h2, ?_⟩
  have h3 := h1 n.w ⟨⟨n.w, Keep.refl _ _⟩, rfl⟩
  unfold Oper.quietAt at h3
  unfold yieldsK
  generalize (execOp a.eval o).run P n.w = r at *
  cases r with
  | ok x w' =>
   cases x <;> simp only [Oper.quietUpon] at h3 <;> simp only [yieldsR]
   case value u => obtain ⟨rfl, rfl⟩ := h3; exact ⟨rfl, Keep.refl _ _⟩
   case skip => obtain ⟨rfl, rfl⟩ := h3; exact ⟨rfl, Keep.refl _ _⟩
   case enter f args =>
    obtain ⟨rfl, hc⟩ := h3
    exact hc.mono fun e w'' ⟨he, m, hm⟩ => ⟨v, he, rfl, by rw [hm]; exact m.keep⟩
  | halt x w' => simp only [Oper.quietUpon] at h3
 have val : ∀ v, a.put o.dst v = A' → v = A'.tmps.getD d undef := fun v e => by
  rw [← e, hd]
  simp [Act.put, hlt]
 refine .inl ⟨A'.tmps.getD d undef, fun w hw' => ?_, by rw [hA]; exact h⟩
 obtain ⟨v, e, hy⟩ := key ⟨w, hw'⟩
 rw [← val v e]; exact hy

theorem wpM_gen (ho : l.drop i = o :: tl) (hm : isMake o = false) (hw : Region.wanted o (yielded l.toArray a.tmps) = true) (V : Value → World → Prop) (hV : ∀ v, StableI (V v))
  (H : ∀ n : KI I, yieldsK P o a n.w fun u w' => V u w' ∧ Keep NoB n.w w') (h : ∀ v, wpM P l.toArray Q rest (a.put o.dst v) fun w => I w ∧ V v w) : wpM P l.toArray Q ((i, true) :: rest) a I := by
 change mOp P l.toArray true i (wpM P l.toArray Q rest) a I
 have ho := at_drop ho
 unfold mOp
 simp only [ho, hw, if_true, hm, Bool.false_eq_true, if_false]
 exact .inr ⟨trivial, V, ⟨hV, fun w hw' => H ⟨w, hw'⟩⟩, h⟩

theorem wpM_nil (h : ∀ n : KI I, Q a n.w) : wpM P l.toArray Q [] a I := fun w hw => h ⟨w, hw⟩

/-! The same laws with the goal shut in a structure: a goal that is laid bare is unfolded, operation by operation, wherever one is not wanted. -/

structure Shut (p : Prop) : Prop where
 out : p

theorem shM_skip (ho : l.drop i = o :: tl) (hw : Region.wanted o (yielded l.toArray a.tmps) = false) (hu : a.put o.dst undef = a) (h : Shut (wpM P l.toArray Q rest a I)) : Shut (wpM P l.toArray Q ((i, gen) :: rest) a I) :=
 ⟨wpM_skip ho hw (by rw [hu]; exact h.out)⟩
theorem shM_step (ho : l.drop i = o :: tl) (hm : isMake o = false) {d : Tmp} (hd : o.dst = some d) (hlt : decide (d < a.tmps.size) = true) (hw : Region.wanted o (yielded l.toArray a.tmps) = true)
  (HH : ∃ A' : Act, (∀ n : KI I, ∀ K : Act → Prop, (∀ a', a' = A' → K a') → o.quiet P a (fun w' => ∃ m : KW n.w, w' = m.w) K) ∧ a.put o.dst (A'.tmps.getD d undef) = A' ∧ Shut (wpM P l.toArray Q rest A' I)) : Shut (wpM P l.toArray Q ((i, gen) :: rest) a I) :=
 ⟨wpM_step ho hm hd hlt hw (HH.imp fun _ h => ⟨h.1, h.2.1, h.2.2.out⟩)⟩
theorem shM_gen (ho : l.drop i = o :: tl) (hm : isMake o = false) (hw : Region.wanted o (yielded l.toArray a.tmps) = true) (V : Value → World → Prop) (hV : ∀ v, StableI (V v))
  (H : ∀ n : KI I, yieldsK P o a n.w fun u w' => V u w' ∧ Keep NoB n.w w') (h : ∀ v, Shut (wpM P l.toArray Q rest (a.put o.dst v) fun w => I w ∧ V v w)) : Shut (wpM P l.toArray Q ((i, true) :: rest) a I) :=
 ⟨wpM_gen ho hm hw V hV H fun v => (h v).out⟩
theorem shM_nil (h : ∀ n : KI I, Q a n.w) : Shut (wpM P l.toArray Q [] a I) := ⟨wpM_nil h⟩
theorem wp_region_sh {id : Nat} {Q : Exit → Act → World → Prop} {w : World} {ops : Array Oper} (l : List (Nat × Bool)) (I : World → Prop) (hm : P.follows .mixedOrders = true) (hs : Region.noSelect ops = true) (hl : l.length = ops.size)
  (hB : orderM .any ops l (Array.replicate ops.size false) = true) (hI : StableI I) (hw : I w.drew) (h : Shut (wpM P ops (Q .normal) l a I)) : (Code.region id ops true).wp P Q a w :=
 wp_region_mix l I hm hs hl hB hI hw h.out

end
end Go.Proofs.YtghdibbooegocaaGreatDoor

namespace Go.Proofs.YtghdibbooegocaaGreatDoor.O
open Go.RowKit

abbrev fnV (f : Nat) : Value := .func (.func f) #[] #[]
abbrev boxV (f n : Nat) : Value := .func (.func f) #[] #[.pointer (some ⟨n, 0, none⟩)]
def digK (k : Int) : Bool := decide (k = 1 ∨ k = 4 ∨ k = 5 ∨ k = 6 ∨ k = 7 ∨ k = 10)
def wordK (k : Int) : Bool := decide (k = 2 ∨ k = 3 ∨ k = 8 ∨ k = 9)
def wordF (k : Int) : Nat := if k = 8 then 98 else if k = 9 then 100 else 96
def readF (k : Int) : Nat := if k = 8 then 99 else if k = 9 then 101 else 97

def opV (k : Int) (sh gu : Value) : Value := .agg #[.int .i64 k, .int .i64 (lo k), .int .i64 (hi k), sh, gu]
def FnAt (k : Int) (sh gu : Value) (w : World) : Prop :=
 (k = 0 ∧ sh = .nilFunc ∧ gu = .nilFunc) ∨ (digK k = true ∧ sh = fnV 108 ∧ gu = fnV 110) ∨
  (wordK k = true ∧ ∃ b c, sh = boxV 112 b ∧ gu = boxV 113 c ∧ w.cell? ⟨b, 0, none⟩ = some (fnV (wordF k)) ∧ w.cell? ⟨c, 0, none⟩ = some (fnV (readF k)))
theorem FnAt.keep {k : Int} {sh gu : Value} {w w' : World} (h : FnAt k sh gu w) (hk : Keep NoB w w') : FnAt k sh gu w' := by
 rcases h with h | h | ⟨h, b, c, h1, h2, h3, h4⟩
 ·exact .inl h
 ·exact .inr (.inl h)
 ·exact .inr (.inr ⟨h, b, c, h1, h2, hk.cell h3 id, hk.cell h4 id⟩)

theorem cell_far {w : World} {g b i : Nat} {u v : Value} (h : w.cell? ⟨b, 0, none⟩ = some v) (hn : g ≠ b) : (w.setCell ⟨g, i, none⟩ u).cell? ⟨b, 0, none⟩ = some v :=
 (World.cell?_of_block (Below.heap_setCell _ _ _ _ (fun e => hn e.symm))).trans h
theorem cell_far5 {w : World} {g b : Nat} {u0 u1 u2 u3 u4 v : Value} (h : w.cell? ⟨b, 0, none⟩ = some v) (hn : g ≠ b) :
  (((((w.setCell ⟨g, 0, none⟩ u0).setCell ⟨g, 1, none⟩ u1).setCell ⟨g, 2, none⟩ u2).setCell ⟨g, 3, none⟩ u3).setCell ⟨g, 4, none⟩ u4).cell? ⟨b, 0, none⟩ = some v :=
 cell_far (cell_far (cell_far (cell_far (cell_far h hn) hn) hn) hn) hn

set_option maxHeartbeats 1000000 in
theorem digits_any (k l m : Int) (w : World) :
  Calls Tryz.prog 94 #[.int .i64 k, .int .i64 l, .int .i64 m] w fun e w' => e = .returned (.agg #[.int .i64 k, .int .i64 l, .int .i64 m, fnV 108, fnV 110]) ∧ Keep NoB w w' := by
 go_enter Tryz.func94, Tryz.ntmps94
 go_wp2
 refine bodyPost_ret (v := .agg #[.int .i64 k, .int .i64 l, .int .i64 m, fnV 108, fnV 110]) (by simp [results, Tryz.results94, go_sem]) rfl ⟨rfl, (Keep.refl NoB w).alloc _⟩

set_option maxHeartbeats 1000000 in
theorem worded_any (k l m : Int) (f g : Nat) (w : World) :
  Calls Tryz.prog 95 #[.int .i64 k, .int .i64 l, .int .i64 m, fnV f, fnV g] w fun e w' => ∃ b c, e = .returned (.agg #[.int .i64 k, .int .i64 l, .int .i64 m, boxV 112 b, boxV 113 c]) ∧
   w'.cell? ⟨b, 0, none⟩ = some (fnV f) ∧ w'.cell? ⟨c, 0, none⟩ = some (fnV g) ∧ w.heap.size ≤ b ∧ w.heap.size ≤ c ∧ Keep NoB w w' := by
 go_enter Tryz.func95, Tryz.ntmps95
 go_wp2
 refine bodyPost_ret (v := .agg #[.int .i64 k, .int .i64 l, .int .i64 m, boxV 112 w.heap.size, boxV 113 (w.heap.size + 1)]) (by simp [results, Tryz.results95, go_sem]) rfl
  ⟨w.heap.size, w.heap.size + 1, rfl, by simp [go_sem], by simp [go_sem], Nat.le_refl _, Nat.le_succ _, (((Keep.refl NoB w).alloc _).alloc _).alloc _⟩

def OpR (k : Int) (w : World) (e : Ending) (w' : World) : Prop := ∃ sh gu, e = .returned (opV k sh gu) ∧ FnAt k sh gu w' ∧ Keep NoB w w'

set_option maxRecDepth 100000 in
set_option maxHeartbeats 4000000 in
theorem operandOf_any (k : Int) (hk : 0 ≤ k ∧ k ≤ 10) (w : World) : Calls Tryz.prog 79 #[.int .i64 k] w (OpR k w) := by
 have hK := (Keep.refl NoB w).alloc (.cells #[.int .i64 0, .int .i64 0, .int .i64 0, .nilFunc, .nilFunc] 105)
 obtain rfl | rfl | rfl | rfl | rfl | rfl | rfl | rfl | rfl | rfl | rfl : k = 0 ∨ k = 1 ∨ k = 2 ∨ k = 3 ∨ k = 4 ∨ k = 5 ∨ k = 6 ∨ k = 7 ∨ k = 8 ∨ k = 9 ∨ k = 10 := by omega
 all_goals clear hk
 ·go_enter Tryz.func79, Tryz.ntmps79
  go_wp2
  exact bodyPost_ret (v := opV 0 .nilFunc .nilFunc) (by simp [results, Tryz.results79, go_sem, opV, lo, hi]) rfl ⟨_, _, rfl, .inl ⟨rfl, rfl, rfl⟩, hK⟩
 case inr.inl | inr.inr.inr.inr.inl | inr.inr.inr.inr.inr.inl | inr.inr.inr.inr.inr.inr.inl | inr.inr.inr.inr.inr.inr.inr.inl | inr.inr.inr.inr.inr.inr.inr.inr.inr.inr =>
  go_enter Tryz.func79, Tryz.ntmps79
  go_wp2_with fail
  refine (digits_any _ _ _ _).mono ?_
  rintro e w1 ⟨rfl, k1⟩
  have b1 := (Blk.new w 105 #[.int .i64 0, .int .i64 0, .int .i64 0, .nilFunc, .nilFunc]).keep k1 id
  have c0 := b1.cell 0
  have c1 := b1.cell 1
  have c2 := b1.cell 2
  have c3 := b1.cell 3
  have c4 := b1.cell 4
  have f0 := fun i => b1.frozen i
  simp at c0 c1 c2 c3 c4
  go_wp2
  exact bodyPost_ret (v := opV _ (fnV 108) (fnV 110)) (by simp [results, Tryz.results79, go_sem, opV, lo, hi, c0, c1, c2, c3, c4]) rfl
   ⟨_, _, rfl, .inr (.inl ⟨rfl, rfl, rfl⟩), (((((keepN hK k1).setCell (fun h => by simp at h) _).setCell (fun h => by simp at h) _).setCell (fun h => by simp at h) _).setCell (fun h => by simp at h) _).setCell (fun h => by simp at h) _⟩
 all_goals
  go_enter Tryz.func79, Tryz.ntmps79
  go_wp2_with fail
  refine (worded_any _ _ _ _ _ _).mono ?_
  rintro e w1 ⟨b, c, rfl, cb, cc, hb, hc, k1⟩
  have nb : w.heap.size ≠ b := by simp at hb; omega
  have nc : w.heap.size ≠ c := by simp at hc; omega
  have hC : Hid (w1.cell? ⟨b, 0, none⟩ = some _ ∧ w1.cell? ⟨c, 0, none⟩ = some _) := Lib.hid ⟨cb, cc⟩
  clear cb cc hb hc
  have b1 := (Blk.new w 105 #[.int .i64 0, .int .i64 0, .int .i64 0, .nilFunc, .nilFunc]).keep k1 id
  have c0 := b1.cell 0
  have c1 := b1.cell 1
  have c2 := b1.cell 2
  have c3 := b1.cell 3
  have c4 := b1.cell 4
  have f0 := fun i => b1.frozen i
  simp at c0 c1 c2 c3 c4
  go_wp2
  exact bodyPost_ret (v := opV _ (boxV 112 b) (boxV 113 c)) (by simp [results, Tryz.results79, go_sem, opV, lo, hi, c0, c1, c2, c3, c4]) rfl
   ⟨_, _, rfl, .inr (.inr ⟨rfl, b, c, rfl, rfl, cell_far5 hC.out.1 nb, cell_far5 hC.out.2 nc⟩), (((((keepN hK k1).setCell (fun h => by simp at h) _).setCell (fun h => by simp at h) _).setCell (fun h => by simp at h) _).setCell (fun h => by simp at h) _).setCell (fun h => by simp at h) _⟩

end Go.Proofs.YtghdibbooegocaaGreatDoor.O

namespace Go.Proofs.YtghdibbooegocaaGreatDoor.O
open Go.RowKit

abbrev rowV (r : Row) : Value := .agg #[.string (str r.name), .int .i64 r.ka, .int .i64 r.kb, .int .i64 r.ta, .int .i64 r.tb, .int .i64 r.la, .int .i64 r.lb, .bool r.hop, .bool r.fin]
abbrev rowZ : Array Value := #[.string ⟨#[]⟩, .int .i64 0, .int .i64 0, .int .i64 0, .int .i64 0, .int .i64 0, .int .i64 0, .bool false, .bool false]
theorem blk9 {w : World} {g : Nat} {t : TypeId} {a0 a1 a2 a3 a4 a5 a6 a7 a8 : Value} (h : Blk w g t #[a0, a1, a2, a3, a4, a5, a6, a7, a8]) :
  w.cell? ⟨g, 0, none⟩ = some a0 ∧ w.cell? ⟨g, 1, none⟩ = some a1 ∧ w.cell? ⟨g, 2, none⟩ = some a2 ∧ w.cell? ⟨g, 3, none⟩ = some a3 ∧ w.cell? ⟨g, 4, none⟩ = some a4 ∧ w.cell? ⟨g, 5, none⟩ = some a5 ∧
   w.cell? ⟨g, 6, none⟩ = some a6 ∧ w.cell? ⟨g, 7, none⟩ = some a7 ∧ w.cell? ⟨g, 8, none⟩ = some a8 := ⟨h.cell 0, h.cell 1, h.cell 2, h.cell 3, h.cell 4, h.cell 5, h.cell 6, h.cell 7, h.cell 8⟩
theorem keep9 {w w1 : World} {g : Nat} (h : Keep NoB w w1) (hg : w.heap.size ≤ g) (u0 u1 u2 u3 u4 u5 u6 u7 u8 : Value) :
  Keep NoB w (((((((((w1.setCell ⟨g, 0, none⟩ u0).setCell ⟨g, 1, none⟩ u1).setCell ⟨g, 2, none⟩ u2).setCell ⟨g, 3, none⟩ u3).setCell ⟨g, 4, none⟩ u4).setCell ⟨g, 5, none⟩ u5).setCell ⟨g, 6, none⟩ u6).setCell ⟨g, 7, none⟩ u7).setCell ⟨g, 8, none⟩ u8) := by
 have hn : ∀ i, (⟨g, i, none⟩ : Addr).block < w.heap.size → NoB (⟨g, i, none⟩ : Addr).block := fun i hl => by have : g < w.heap.size := hl; omega
 exact ((((((((h.setCell (hn 0) _).setCell (hn 1) _).setCell (hn 2) _).setCell (hn 3) _).setCell (hn 4) _).setCell (hn 5) _).setCell (hn 6) _).setCell (hn 7) _).setCell (hn 8) _

set_option maxRecDepth 100000 in
set_option maxHeartbeats 4000000 in
theorem rowOf_any (op : Int) (r : Row) (w : World) (hr : Hid (rowAt op = r)) :
  Calls Tryz.prog 81 #[.int .i64 op] w fun e w' => e = .returned (.tuple #[rowV r, .bool (isOp op)]) ∧ Keep NoB w w' := by
 have hK := (Keep.refl NoB w).alloc (.cells rowZ 82)
 cases ho : isOp op
 ·have hb := isOp_no ho
  have hr0 := hr.out
  rw [rowAt_no ho] at hr0
  subst hr0
  clear ho hr
  by_cases h0 : op < 0
  ·clear hb
   go_enter Tryz.func81, Tryz.ntmps81
   go_wp2
   exact bodyPost_ret (v := .tuple #[rowV row0, .bool false]) (by simp [results, Tryz.results81, go_sem, row0]) rfl ⟨rfl, hK⟩
  ·have h0' : decide (op < 0) = false := by simpa using h0
   have h1 : 30 ≤ op := by omega
   clear hb
   go_enter Tryz.func81, Tryz.ntmps81
   go_wp2
   exact bodyPost_ret (v := .tuple #[rowV row0, .bool false]) (by simp [results, Tryz.results81, go_sem, row0]) rfl ⟨rfl, hK⟩
 ·obtain ⟨h0, h1⟩ := isOp_yes ho
  have hix : ∀ w, (Instr.index 121 (.agg tableC) (.int .i64 op)).run Tryz.prog w = .ok (rowV r) w := fun w => by
   have := run_index_row op ho w
   rw [hr.out] at this
   exact this
  clear ho hr
  have h0' : decide (op < 0) = false := by simpa using h0
  have h1' : decide (30 ≤ op) = false := by simpa using h1
  go_enter Tryz.func81, Tryz.ntmps81
  go_wp2_with fail
  refine (table_any _).mono ?_
  rintro e w1 ⟨rfl, k1⟩
  have b1 := (Blk.new w 82 rowZ).keep k1 id
  have f0 := fun i => b1.frozen i
  obtain ⟨c0, c1, c2, c3, c4, c5, c6, c7, c8⟩ := blk9 b1
  have hz := b1.lt
  go_wp2
  exact bodyPost_ret (v := .tuple #[rowV r, .bool true]) (by simp [results, Tryz.results81, go_sem, c0, c1, c2, c3, c4, c5, c6, c7, c8]) rfl ⟨rfl, keep9 (keepN hK k1) (Nat.le_refl _) _ _ _ _ _ _ _ _ _⟩

set_option maxHeartbeats 1000000 in
theorem has_any (k n : Int) (v : Value) (w : World) (hv : ∃ sh gu, v = opV k sh gu) :
  Calls Tryz.prog 82 #[v, .int .i64 n] w fun e w' => e = .returned (.bool (inK k n)) ∧ Keep NoB w w' := by
 obtain ⟨sh, gu, rfl⟩ := hv
 unfold opV
 by_cases h1 : lo k ≤ n
 ·by_cases h2 : n ≤ hi k
  ·have HX : Hid (inK k n = true) := decide_eq_true ⟨h1, h2⟩
   go_enter Tryz.func82, Tryz.ntmps82
   go_wp2
   go_ret
   exact ⟨by rw [HX.out]; rfl, (Keep.refl NoB w).alloc _⟩
  ·have HX : Hid (inK k n = false) := decide_eq_false fun h => h2 h.2
   have h2' : decide (n ≤ hi k) = false := by simpa using h2
   clear h2
   go_enter Tryz.func82, Tryz.ntmps82
   go_wp2
   go_ret
   exact ⟨by rw [HX.out]; rfl, (Keep.refl NoB w).alloc _⟩
 ·have HX : Hid (inK k n = false) := decide_eq_false fun h => h1 h.1
  have h1' : decide (lo k ≤ n) = false := by simpa using h1
  clear h1
  go_enter Tryz.func82, Tryz.ntmps82
  go_wp2
  go_ret
  exact ⟨by rw [HX.out]; rfl, (Keep.refl NoB w).alloc _⟩

end Go.Proofs.YtghdibbooegocaaGreatDoor.O
