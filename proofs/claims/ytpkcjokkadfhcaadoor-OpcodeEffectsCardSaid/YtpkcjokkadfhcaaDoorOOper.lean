/-
  What operandOf hands out, and has. Conditions: the kind is from 0 to 10.
-/
import Derived.Test.YtpkcjokkadfhcaaDoorOTable
import Derived.Test.YtpkcjokkadfhcaaDoorKMixW
import Derived.Laws.EntriesVeiled
namespace Go.Proofs.YtpkcjokkadfhcaaDoor.O
open Go.RowKit

/-- A function value; one with a captured variable, which lies in block n. -/
abbrev fnV (f : Nat) : Value := .func (.func f) #[] #[]
abbrev boxV (f n : Nat) : Value := .func (.func f) #[] #[.pointer (some ⟨n, 0, none⟩)]
/-- Does the kind tell its numbers by digits; by words? -/
def digK (k : Int) : Bool := decide (k = 1 ∨ k = 4 ∨ k = 5 ∨ k = 6 ∨ k = 7 ∨ k = 10)
def wordK (k : Int) : Bool := decide (k = 2 ∨ k = 3 ∨ k = 8 ∨ k = 9)
/-- The functions that tell a kind's words, and read them. -/
def wordF (k : Int) : Nat := if k = 8 then 34 else if k = 9 then 36 else 32
def readF (k : Int) : Nat := if k = 8 then 35 else if k = 9 then 37 else 33

/-- An operand as a value, whatever its functions. -/
def opV (k : Int) (sh gu : Value) : Value := .agg #[.int .i64 k, .int .i64 (lo k), .int .i64 (hi k), sh, gu]
/-- The functions of a kind's operand, as they lie in memory. -/
def FnAt (k : Int) (sh gu : Value) (w : World) : Prop :=
  (k = 0 ∧ sh = .nilFunc ∧ gu = .nilFunc) ∨ (digK k = true ∧ sh = fnV 42 ∧ gu = fnV 44) ∨
    (wordK k = true ∧ ∃ b c, sh = boxV 46 b ∧ gu = boxV 47 c ∧ w.cell? ⟨b, 0, none⟩ = some (fnV (wordF k)) ∧ w.cell? ⟨c, 0, none⟩ = some (fnV (readF k)))
theorem FnAt.keep {k : Int} {sh gu : Value} {w w' : World} (h : FnAt k sh gu w) (hk : Keep NoB w w') : FnAt k sh gu w' := by
  rcases h with h | h | ⟨h, b, c, h1, h2, h3, h4⟩
  · exact .inl h
  · exact .inr (.inl h)
  · exact .inr (.inr ⟨h, b, c, h1, h2, hk.cell h3 id, hk.cell h4 id⟩)

theorem cell_far {w : World} {g b i : Nat} {u v : Value} (h : w.cell? ⟨b, 0, none⟩ = some v) (hn : g ≠ b) : (w.setCell ⟨g, i, none⟩ u).cell? ⟨b, 0, none⟩ = some v :=
  (World.cell?_of_block (Below.heap_setCell _ _ _ _ (fun e => hn e.symm))).trans h
theorem cell_far5 {w : World} {g b : Nat} {u0 u1 u2 u3 u4 v : Value} (h : w.cell? ⟨b, 0, none⟩ = some v) (hn : g ≠ b) :
    (((((w.setCell ⟨g, 0, none⟩ u0).setCell ⟨g, 1, none⟩ u1).setCell ⟨g, 2, none⟩ u2).setCell ⟨g, 3, none⟩ u3).setCell ⟨g, 4, none⟩ u4).cell? ⟨b, 0, none⟩ = some v :=
  cell_far (cell_far (cell_far (cell_far (cell_far h hn) hn) hn) hn) hn

set_option maxHeartbeats 1000000 in
theorem digits_any (k l m : Int) (w : World) :
    Calls Tryd.prog 30 #[.int .i64 k, .int .i64 l, .int .i64 m] w fun e w' => e = .returned (.agg #[.int .i64 k, .int .i64 l, .int .i64 m, fnV 42, fnV 44]) ∧ Keep NoB w w' := by
  go_enter Tryd.func30, Tryd.ntmps30
  go_wp2
  refine bodyPost_ret (v := .agg #[.int .i64 k, .int .i64 l, .int .i64 m, fnV 42, fnV 44]) (by simp [results, Tryd.results30, go_sem]) rfl ⟨rfl, (Keep.refl NoB w).alloc _⟩

set_option maxHeartbeats 1000000 in
theorem worded_any (k l m : Int) (f g : Nat) (w : World) :
    Calls Tryd.prog 31 #[.int .i64 k, .int .i64 l, .int .i64 m, fnV f, fnV g] w fun e w' => ∃ b c, e = .returned (.agg #[.int .i64 k, .int .i64 l, .int .i64 m, boxV 46 b, boxV 47 c]) ∧
      w'.cell? ⟨b, 0, none⟩ = some (fnV f) ∧ w'.cell? ⟨c, 0, none⟩ = some (fnV g) ∧ w.heap.size ≤ b ∧ w.heap.size ≤ c ∧ Keep NoB w w' := by
  go_enter Tryd.func31, Tryd.ntmps31
  go_wp2
  refine bodyPost_ret (v := .agg #[.int .i64 k, .int .i64 l, .int .i64 m, boxV 46 w.heap.size, boxV 47 (w.heap.size + 1)]) (by simp [results, Tryd.results31, go_sem]) rfl
    ⟨w.heap.size, w.heap.size + 1, rfl, by simp [go_sem], by simp [go_sem], Nat.le_refl _, Nat.le_succ _, (((Keep.refl NoB w).alloc _).alloc _).alloc _⟩

/-- What operandOf answers. -/
def OpR (k : Int) (w : World) (e : Ending) (w' : World) : Prop := ∃ sh gu, e = .returned (opV k sh gu) ∧ FnAt k sh gu w' ∧ Keep NoB w w'

set_option maxRecDepth 100000 in
set_option maxHeartbeats 4000000 in
theorem operandOf_any (k : Int) (hk : 0 ≤ k ∧ k ≤ 10) (w : World) : Calls Tryd.prog 23 #[.int .i64 k] w (OpR k w) := by
  have hK := (Keep.refl NoB w).alloc (.cells #[.int .i64 0, .int .i64 0, .int .i64 0, .nilFunc, .nilFunc] 58)
  obtain rfl | rfl | rfl | rfl | rfl | rfl | rfl | rfl | rfl | rfl | rfl : k = 0 ∨ k = 1 ∨ k = 2 ∨ k = 3 ∨ k = 4 ∨ k = 5 ∨ k = 6 ∨ k = 7 ∨ k = 8 ∨ k = 9 ∨ k = 10 := by omega
  all_goals clear hk
  · go_enter Tryd.func23, Tryd.ntmps23
    go_wp2
    exact bodyPost_ret (v := opV 0 .nilFunc .nilFunc) (by simp [results, Tryd.results23, go_sem, opV, lo, hi]) rfl ⟨_, _, rfl, .inl ⟨rfl, rfl, rfl⟩, hK⟩
  case inr.inl | inr.inr.inr.inr.inl | inr.inr.inr.inr.inr.inl | inr.inr.inr.inr.inr.inr.inl | inr.inr.inr.inr.inr.inr.inr.inl | inr.inr.inr.inr.inr.inr.inr.inr.inr.inr =>
    go_enter Tryd.func23, Tryd.ntmps23
    go_wp2_with fail
    refine (digits_any _ _ _ _).mono ?_
    rintro e w1 ⟨rfl, k1⟩
    have b1 := (Blk.new w 58 #[.int .i64 0, .int .i64 0, .int .i64 0, .nilFunc, .nilFunc]).keep k1 id
    have c0 := b1.cell 0
    have c1 := b1.cell 1
    have c2 := b1.cell 2
    have c3 := b1.cell 3
    have c4 := b1.cell 4
    have f0 := fun i => b1.frozen i
    simp at c0 c1 c2 c3 c4
    go_wp2
    exact bodyPost_ret (v := opV _ (fnV 42) (fnV 44)) (by simp [results, Tryd.results23, go_sem, opV, lo, hi, c0, c1, c2, c3, c4]) rfl
      ⟨_, _, rfl, .inr (.inl ⟨rfl, rfl, rfl⟩), (((((keepN hK k1).setCell (fun h => by simp at h) _).setCell (fun h => by simp at h) _).setCell (fun h => by simp at h) _).setCell (fun h => by simp at h) _).setCell (fun h => by simp at h) _⟩
  all_goals
    go_enter Tryd.func23, Tryd.ntmps23
    go_wp2_with fail
    refine (worded_any _ _ _ _ _ _).mono ?_
    rintro e w1 ⟨b, c, rfl, cb, cc, hb, hc, k1⟩
    have nb : w.heap.size ≠ b := by simp at hb; omega
    have nc : w.heap.size ≠ c := by simp at hc; omega
    have hC : Hid (w1.cell? ⟨b, 0, none⟩ = some _ ∧ w1.cell? ⟨c, 0, none⟩ = some _) := Lib.hid ⟨cb, cc⟩
    clear cb cc hb hc
    have b1 := (Blk.new w 58 #[.int .i64 0, .int .i64 0, .int .i64 0, .nilFunc, .nilFunc]).keep k1 id
    have c0 := b1.cell 0
    have c1 := b1.cell 1
    have c2 := b1.cell 2
    have c3 := b1.cell 3
    have c4 := b1.cell 4
    have f0 := fun i => b1.frozen i
    simp at c0 c1 c2 c3 c4
    go_wp2
    exact bodyPost_ret (v := opV _ (boxV 46 b) (boxV 47 c)) (by simp [results, Tryd.results23, go_sem, opV, lo, hi, c0, c1, c2, c3, c4]) rfl
      ⟨_, _, rfl, .inr (.inr ⟨rfl, b, c, rfl, rfl, cell_far5 hC.out.1 nb, cell_far5 hC.out.2 nc⟩), (((((keepN hK k1).setCell (fun h => by simp at h) _).setCell (fun h => by simp at h) _).setCell (fun h => by simp at h) _).setCell (fun h => by simp at h) _).setCell (fun h => by simp at h) _⟩

end Go.Proofs.YtpkcjokkadfhcaaDoor.O
