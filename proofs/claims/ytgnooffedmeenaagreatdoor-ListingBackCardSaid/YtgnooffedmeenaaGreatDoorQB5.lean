/-
  Part 5 of the proofs of LBackRow, LLabelsRow: what is laid, and what the functions that the law runs answer. Conditions: each theorem names its own.
-/
import Derived.IntWalk
import Derived.LaidLaws
import Derived.LaidMore
import Derived.Laws.EntriesVeiled
import Derived.Lib.AppendIntMem
import Derived.Lib.SmallJoins
import Derived.OpenShut
import Derived.Test.YtgnooffedmeenaaGreatDoorQB4
namespace Go.Proofs.YtgnooffedmeenaaGreatDoor.O
open Go.RowKit

abbrev fnV (f : Nat) : Value := .func (.func f) #[] #[]
abbrev boxV (f n : Nat) : Value := .func (.func f) #[] #[.pointer (some ⟨n, 0, none⟩)]
def digK (k : Int) : Bool := decide (k = 1 ∨ k = 4 ∨ k = 5 ∨ k = 6 ∨ k = 7 ∨ k = 10)
def wordK (k : Int) : Bool := decide (k = 2 ∨ k = 3 ∨ k = 8 ∨ k = 9)
def wordF (k : Int) : Nat := if k = 8 then 273 else if k = 9 then 275 else 271
def readF (k : Int) : Nat := if k = 8 then 274 else if k = 9 then 276 else 272

def opV (k : Int) (sh gu : Value) : Value := .agg #[.int .i64 k, .int .i64 (lo k), .int .i64 (hi k), sh, gu]
def FnAt (k : Int) (sh gu : Value) (w : World) : Prop :=
 (k = 0 ∧ sh = .nilFunc ∧ gu = .nilFunc) ∨ (digK k = true ∧ sh = fnV 304 ∧ gu = fnV 306) ∨
  (wordK k = true ∧ ∃ b c, sh = boxV 308 b ∧ gu = boxV 309 c ∧ w.cell? ⟨b, 0, none⟩ = some (fnV (wordF k)) ∧ w.cell? ⟨c, 0, none⟩ = some (fnV (readF k)))
theorem FnAt.keep {k : Int} {sh gu : Value} {w w' : World} (h : FnAt k sh gu w) (hk : Keep NoB w w') : FnAt k sh gu w' := by
 rcases h with h | h | ⟨h, b, c, h1, h2, h3, h4⟩
 ·exact .inl h
 ·exact .inr (.inl h)
 ·exact .inr (.inr ⟨h, b, c, h1, h2, hk.cell h3 id, hk.cell h4 id⟩)

theorem cell_far {w : World} {g b i : Nat} {u v : Value} (h : w.cell? ⟨b, 0, none⟩ = some v) (hn : g ≠ b) : (w.setCell ⟨g, i, none⟩ u).cell? ⟨b, 0, none⟩ = some v :=
 (World.cell?_of_block (Below.heap_setCell _ _ _ _ (fun e => hn e.symm))).trans h
theorem cell_far5 {w : World} {g b : Nat} {u0 u1 u2 u3 u4 v : Value} (h : w.cell? ⟨b, 0, none⟩ = some v) (hn : g ≠ b) :
  (((((w.setCell ⟨g, 0, none⟩ u0).setCell ⟨g, 1, none⟩ u1).setCell ⟨g, 2, none⟩ u2).setCell ⟨g, 3, none⟩ u3).setCell ⟨g, 4, none⟩ u4).cell? ⟨b, 0, none⟩ = some v :=
 cell_far (cell_far (cell_far (cell_far (cell_far h hn) hn) hn) hn) hn

set_option maxHeartbeats 1000000 in
theorem digits_any (k l m : Int) (w : World) :
  Calls Tryz.prog 269 #[.int .i64 k, .int .i64 l, .int .i64 m] w fun e w' => e = .returned (.agg #[.int .i64 k, .int .i64 l, .int .i64 m, fnV 304, fnV 306]) ∧ Keep NoB w w' := by
 go_enter Tryz.func269, Tryz.ntmps269
 go_wp2
 refine bodyPost_ret (v := .agg #[.int .i64 k, .int .i64 l, .int .i64 m, fnV 304, fnV 306]) (by simp [results, Tryz.results269, go_sem]) rfl ⟨rfl, (Keep.refl NoB w).alloc _⟩

set_option maxHeartbeats 1000000 in
theorem worded_any (k l m : Int) (f g : Nat) (w : World) :
  Calls Tryz.prog 270 #[.int .i64 k, .int .i64 l, .int .i64 m, fnV f, fnV g] w fun e w' => ∃ b c, e = .returned (.agg #[.int .i64 k, .int .i64 l, .int .i64 m, boxV 308 b, boxV 309 c]) ∧
   w'.cell? ⟨b, 0, none⟩ = some (fnV f) ∧ w'.cell? ⟨c, 0, none⟩ = some (fnV g) ∧ w.heap.size ≤ b ∧ w.heap.size ≤ c ∧ Keep NoB w w' := by
 go_enter Tryz.func270, Tryz.ntmps270
 go_wp2
 refine bodyPost_ret (v := .agg #[.int .i64 k, .int .i64 l, .int .i64 m, boxV 308 w.heap.size, boxV 309 (w.heap.size + 1)]) (by simp [results, Tryz.results270, go_sem]) rfl
  ⟨w.heap.size, w.heap.size + 1, rfl, by simp [go_sem], by simp [go_sem], Nat.le_refl _, Nat.le_succ _, (((Keep.refl NoB w).alloc _).alloc _).alloc _⟩

def OpR (k : Int) (w : World) (e : Ending) (w' : World) : Prop := ∃ sh gu, e = .returned (opV k sh gu) ∧ FnAt k sh gu w' ∧ Keep NoB w w'

set_option maxRecDepth 100000 in
set_option maxHeartbeats 4000000 in
theorem operandOf_any (k : Int) (hk : 0 ≤ k ∧ k ≤ 10) (w : World) : Calls Tryz.prog 216 #[.int .i64 k] w (OpR k w) := by
 have hK := (Keep.refl NoB w).alloc (.cells #[.int .i64 0, .int .i64 0, .int .i64 0, .nilFunc, .nilFunc] 256)
 obtain rfl | rfl | rfl | rfl | rfl | rfl | rfl | rfl | rfl | rfl | rfl : k = 0 ∨ k = 1 ∨ k = 2 ∨ k = 3 ∨ k = 4 ∨ k = 5 ∨ k = 6 ∨ k = 7 ∨ k = 8 ∨ k = 9 ∨ k = 10 := by omega
 all_goals clear hk
 ·go_enter Tryz.func216, Tryz.ntmps216
  go_wp2
  exact bodyPost_ret (v := opV 0 .nilFunc .nilFunc) (by simp [results, Tryz.results216, go_sem, opV, lo, hi]) rfl ⟨_, _, rfl, .inl ⟨rfl, rfl, rfl⟩, hK⟩
 case inr.inl | inr.inr.inr.inr.inl | inr.inr.inr.inr.inr.inl | inr.inr.inr.inr.inr.inr.inl | inr.inr.inr.inr.inr.inr.inr.inl | inr.inr.inr.inr.inr.inr.inr.inr.inr.inr =>
  go_enter Tryz.func216, Tryz.ntmps216
  go_wp2_with fail
  refine (digits_any _ _ _ _).mono ?_
  rintro e w1 ⟨rfl, k1⟩
  have b1 := (Blk.new w 256 #[.int .i64 0, .int .i64 0, .int .i64 0, .nilFunc, .nilFunc]).keep k1 id
  have c0 := b1.cell 0
  have c1 := b1.cell 1
  have c2 := b1.cell 2
  have c3 := b1.cell 3
  have c4 := b1.cell 4
  have f0 := fun i => b1.frozen i
  simp at c0 c1 c2 c3 c4
  go_wp2
  exact bodyPost_ret (v := opV _ (fnV 304) (fnV 306)) (by simp [results, Tryz.results216, go_sem, opV, lo, hi, c0, c1, c2, c3, c4]) rfl
   ⟨_, _, rfl, .inr (.inl ⟨rfl, rfl, rfl⟩), (((((keepN hK k1).setCell (fun h => by simp at h) _).setCell (fun h => by simp at h) _).setCell (fun h => by simp at h) _).setCell (fun h => by simp at h) _).setCell (fun h => by simp at h) _⟩
 all_goals
  go_enter Tryz.func216, Tryz.ntmps216
  go_wp2_with fail
  refine (worded_any _ _ _ _ _ _).mono ?_
  rintro e w1 ⟨b, c, rfl, cb, cc, hb, hc, k1⟩
  have nb : w.heap.size ≠ b := by simp at hb; omega
  have nc : w.heap.size ≠ c := by simp at hc; omega
  have hC : Hid (w1.cell? ⟨b, 0, none⟩ = some _ ∧ w1.cell? ⟨c, 0, none⟩ = some _) := Lib.hid ⟨cb, cc⟩
  clear cb cc hb hc
  have b1 := (Blk.new w 256 #[.int .i64 0, .int .i64 0, .int .i64 0, .nilFunc, .nilFunc]).keep k1 id
  have c0 := b1.cell 0
  have c1 := b1.cell 1
  have c2 := b1.cell 2
  have c3 := b1.cell 3
  have c4 := b1.cell 4
  have f0 := fun i => b1.frozen i
  simp at c0 c1 c2 c3 c4
  go_wp2
  exact bodyPost_ret (v := opV _ (boxV 308 b) (boxV 309 c)) (by simp [results, Tryz.results216, go_sem, opV, lo, hi, c0, c1, c2, c3, c4]) rfl
   ⟨_, _, rfl, .inr (.inr ⟨rfl, b, c, rfl, rfl, cell_far5 hC.out.1 nb, cell_far5 hC.out.2 nc⟩), (((((keepN hK k1).setCell (fun h => by simp at h) _).setCell (fun h => by simp at h) _).setCell (fun h => by simp at h) _).setCell (fun h => by simp at h) _).setCell (fun h => by simp at h) _⟩

end Go.Proofs.YtgnooffedmeenaaGreatDoor.O

namespace Go.Proofs.YtgnooffedmeenaaGreatDoor.O
open Go.RowKit

abbrev rowV (r : Row) : Value := .agg #[.string (str r.name), .int .i64 r.ka, .int .i64 r.kb, .int .i64 r.ta, .int .i64 r.tb, .int .i64 r.la, .int .i64 r.lb, .bool r.hop, .bool r.fin]
abbrev rowZ : Array Value := #[.string ⟨#[]⟩, .int .i64 0, .int .i64 0, .int .i64 0, .int .i64 0, .int .i64 0, .int .i64 0, .bool false, .bool false]
theorem blk9 {w : World} {g : Nat} {t : TypeId} {a0 a1 a2 a3 a4 a5 a6 a7 a8 : Value} (h : Blk w g t #[a0, a1, a2, a3, a4, a5, a6, a7, a8]) :
  w.cell? ⟨g, 0, none⟩ = some a0 ∧ w.cell? ⟨g, 1, none⟩ = some a1 ∧ w.cell? ⟨g, 2, none⟩ = some a2 ∧ w.cell? ⟨g, 3, none⟩ = some a3 ∧ w.cell? ⟨g, 4, none⟩ = some a4 ∧ w.cell? ⟨g, 5, none⟩ = some a5 ∧
   w.cell? ⟨g, 6, none⟩ = some a6 ∧ w.cell? ⟨g, 7, none⟩ = some a7 ∧ w.cell? ⟨g, 8, none⟩ = some a8 := ⟨h.cell 0, h.cell 1, h.cell 2, h.cell 3, h.cell 4, h.cell 5, h.cell 6, h.cell 7, h.cell 8⟩
theorem keep9 {w w1 : World} {g : Nat} (h : Keep NoB w w1) (hg : w.heap.size ≤ g) (u0 u1 u2 u3 u4 u5 u6 u7 u8 : Value) :
  Keep NoB w (((((((((w1.setCell ⟨g, 0, none⟩ u0).setCell ⟨g, 1, none⟩ u1).setCell ⟨g, 2, none⟩ u2).setCell ⟨g, 3, none⟩ u3).setCell ⟨g, 4, none⟩ u4).setCell ⟨g, 5, none⟩ u5).setCell ⟨g, 6, none⟩ u6).setCell ⟨g, 7, none⟩ u7).setCell ⟨g, 8, none⟩ u8) := by
 have hn : ∀ i, (⟨g, i, none⟩ : Addr).block < w.heap.size → NoB (⟨g, i, none⟩ : Addr).block := fun i hl => by have : g < w.heap.size := hl; omega
 exact ((((((((h.setCell (hn 0) _).setCell (hn 1) _).setCell (hn 2) _).setCell (hn 3) _).setCell (hn 4) _).setCell (hn 5) _).setCell (hn 6) _).setCell (hn 7) _).setCell (hn 8) _

set_option maxRecDepth 100000 in
set_option maxHeartbeats 4000000 in
theorem rowOf_any (op : Int) (r : Row) (w : World) (hr : Hid (rowAt op = r)) :
  Calls Tryz.prog 72 #[.int .i64 op] w fun e w' => e = .returned (.tuple #[rowV r, .bool (isOp op)]) ∧ Keep NoB w w' := by
 have hK := (Keep.refl NoB w).alloc (.cells rowZ 137)
 cases ho : isOp op
 ·have hb := isOp_no ho
  have hr0 := hr.out
  rw [rowAt_no ho] at hr0
  subst hr0
  clear ho hr
  by_cases h0 : op < 0
  ·clear hb
   go_enter Tryz.func72, Tryz.ntmps72
   go_wp2
   exact bodyPost_ret (v := .tuple #[rowV row0, .bool false]) (by simp [results, Tryz.results72, go_sem, row0]) rfl ⟨rfl, hK⟩
  ·have h0' : decide (op < 0) = false := by simpa using h0
   have h1 : 30 ≤ op := by omega
   clear hb
   go_enter Tryz.func72, Tryz.ntmps72
   go_wp2
   exact bodyPost_ret (v := .tuple #[rowV row0, .bool false]) (by simp [results, Tryz.results72, go_sem, row0]) rfl ⟨rfl, hK⟩
 ·obtain ⟨h0, h1⟩ := isOp_yes ho
  have hix : ∀ w, (Instr.index 187 (.agg tableC) (.int .i64 op)).run Tryz.prog w = .ok (rowV r) w := fun w => by
   have := run_index_row op ho w
   rw [hr.out] at this
   exact this
  clear ho hr
  have h0' : decide (op < 0) = false := by simpa using h0
  have h1' : decide (30 ≤ op) = false := by simpa using h1
  go_enter Tryz.func72, Tryz.ntmps72
  go_wp2_with fail
  refine (table_any _).mono ?_
  rintro e w1 ⟨rfl, k1⟩
  have b1 := (Blk.new w 137 rowZ).keep k1 id
  have f0 := fun i => b1.frozen i
  obtain ⟨c0, c1, c2, c3, c4, c5, c6, c7, c8⟩ := blk9 b1
  have hz := b1.lt
  go_wp2
  exact bodyPost_ret (v := .tuple #[rowV r, .bool true]) (by simp [results, Tryz.results72, go_sem, c0, c1, c2, c3, c4, c5, c6, c7, c8]) rfl ⟨rfl, keep9 (keepN hK k1) (Nat.le_refl _) _ _ _ _ _ _ _ _ _⟩

set_option maxHeartbeats 1000000 in
theorem has_any (k n : Int) (v : Value) (w : World) (hv : ∃ sh gu, v = opV k sh gu) :
  Calls Tryz.prog 217 #[v, .int .i64 n] w fun e w' => e = .returned (.bool (inK k n)) ∧ Keep NoB w w' := by
 obtain ⟨sh, gu, rfl⟩ := hv
 unfold opV
 by_cases h1 : lo k ≤ n
 ·by_cases h2 : n ≤ hi k
  ·have HX : Hid (inK k n = true) := decide_eq_true ⟨h1, h2⟩
   go_enter Tryz.func217, Tryz.ntmps217
   go_wp2
   go_ret
   exact ⟨by rw [HX.out]; rfl, (Keep.refl NoB w).alloc _⟩
  ·have HX : Hid (inK k n = false) := decide_eq_false fun h => h2 h.2
   have h2' : decide (n ≤ hi k) = false := by simpa using h2
   clear h2
   go_enter Tryz.func217, Tryz.ntmps217
   go_wp2
   go_ret
   exact ⟨by rw [HX.out]; rfl, (Keep.refl NoB w).alloc _⟩
 ·have HX : Hid (inK k n = false) := decide_eq_false fun h => h1 h.1
  have h1' : decide (lo k ≤ n) = false := by simpa using h1
  clear h1
  go_enter Tryz.func217, Tryz.ntmps217
  go_wp2
  go_ret
  exact ⟨by rw [HX.out]; rfl, (Keep.refl NoB w).alloc _⟩

end Go.Proofs.YtgnooffedmeenaaGreatDoor.O

namespace Go.Proofs.YtgnooffedmeenaaGreatDoor.O
open Go.RowKit

abbrev instV (op a b : Int) : Value := .agg #[.int .i64 op, .int .i64 a, .int .i64 b]
def rowR (op a b : Int) : Row := if okI op a b = true then rowAt op else row0
theorem rowR_ok {op a b : Int} (h : okI op a b = true) : rowR op a b = rowAt op := by unfold rowR; rw [if_pos h]
theorem rowR_no {op a b : Int} (h : okI op a b = false) : rowR op a b = row0 := by unfold rowR; rw [if_neg (by rw [h]; decide)]
theorem kinds_ok (op : Int) : 0 ≤ (rowAt op).ka ∧ (rowAt op).ka ≤ 10 ∧ 0 ≤ (rowAt op).kb ∧ (rowAt op).kb ≤ 10 := by
 have := rowAt_all (p := fun r => decide (0 ≤ r.ka ∧ r.ka ≤ 10 ∧ 0 ≤ r.kb ∧ r.kb ≤ 10)) (by decide) (by decide) op
 simpa using this

theorem has_gen (k n : Int) (v : Value) (t : Bool) (w : World) (ht : inK k n = t) (hv : ∃ sh gu, v = opV k sh gu) :
  Calls Tryz.prog 217 #[v, .int .i64 n] w fun e w' => e = .returned (.bool t) ∧ Keep NoB w w' := by
 subst ht; exact has_any k n v w hv
theorem op_gen (k : Int) (hk : 0 ≤ k ∧ k ≤ 10) (w : World) :
  Calls Tryz.prog 216 #[.int .i64 k] w fun e w' => ∃ u, e = .returned u ∧ (∃ sh gu, u = opV k sh gu) ∧ Keep NoB w w' :=
 (operandOf_any k hk w).mono fun _ _ ⟨sh, gu, he, _, hk⟩ => ⟨_, he, ⟨sh, gu, rfl⟩, hk⟩
abbrev cells9 (q : Row) : Array Value := #[.string (str q.name), .int .i64 q.ka, .int .i64 q.kb, .int .i64 q.ta, .int .i64 q.tb, .int .i64 q.la, .int .i64 q.lb, .bool q.hop, .bool q.fin]

def ForR (q : Row) (t : Bool) (w : World) (e : Ending) (w' : World) : Prop := e = .returned (.tuple #[rowV q, .bool t]) ∧ Keep NoB w w'

set_option maxRecDepth 100000 in
set_option maxHeartbeats 1000000 in
theorem rowFor_a (op a b : Int) (q : Row) (w : World) (HQ : Hid (rowAt op = q)) (HI : Hid (isOp op = false)) :
  Calls Tryz.prog 166 #[instV op a b] w (ForR row0 false w) := by
 go_enter Tryz.func166, Tryz.ntmps166
 go_wp2_with fail
 refine (rowOf_any op q _ HQ).mono ?_
 rw [HI.out]
 rintro e w1 ⟨rfl, k1⟩
 have bx := ((Blk.new w 55 #[.int .i64 op, .int .i64 a, .int .i64 b]).alloc (.cells rowZ 137)).keep k1 id
 have br := (Blk.new (w.alloc (.cells #[.int .i64 op, .int .i64 a, .int .i64 b] 55)) 137 rowZ).keep k1 id
 rw [World.size_alloc] at br
 have hK := keepN (((Keep.refl NoB w).alloc _).alloc _) k1
 have hz := br.lt
 go_wp2_with fail
 have b2 := Blk.new w1 137 #[.string (str q.name), .int .i64 q.ka, .int .i64 q.kb, .int .i64 q.ta, .int .i64 q.tb, .int .i64 q.la, .int .i64 q.lb, .bool q.hop, .bool q.fin]
 have bx2 := bx.alloc (.cells #[.string (str q.name), .int .i64 q.ka, .int .i64 q.kb, .int .i64 q.ta, .int .i64 q.tb, .int .i64 q.la, .int .i64 q.lb, .bool q.hop, .bool q.fin] 137)
 have br2 := br.alloc (.cells #[.string (str q.name), .int .i64 q.ka, .int .i64 q.kb, .int .i64 q.ta, .int .i64 q.tb, .int .i64 q.la, .int .i64 q.lb, .bool q.hop, .bool q.fin] 137)
 have hK2 := hK.alloc (.cells #[.string (str q.name), .int .i64 q.ka, .int .i64 q.kb, .int .i64 q.ta, .int .i64 q.tb, .int .i64 q.la, .int .i64 q.lb, .bool q.hop, .bool q.fin] 137)
 obtain ⟨w2, hw2⟩ : ∃ w2, w1.alloc (.cells #[.string (str q.name), .int .i64 q.ka, .int .i64 q.kb, .int .i64 q.ta, .int .i64 q.tb, .int .i64 q.la, .int .i64 q.lb, .bool q.hop, .bool q.fin] 137) = w2 := ⟨_, rfl⟩
 rw [hw2] at b2 bx2 br2 hK2
 have HW := Lib.hid hw2
 rw [hw2]
 clear hw2 bx br hK k1
 ·refine wp_region_sh ((0, false) :: (1, false) :: (2, false) :: (3, false) :: (4, false) :: (5, false) :: (7, false) :: (8, false) :: (6, true) :: (9, false) :: (10, false) :: (11, false) :: (12, false) :: (13, false) :: (14, false) :: (15, false) :: (17, false) :: (18, false) :: (16, true) :: (19, false) :: (20, false) :: (21, false) :: []) (fun w' => Keep NoB w2 w') (by kernel_rfl) (by kernel_rfl) (by rfl) (by kernel_rfl) (stable_keep w2) (Keep.refl NoB w2).drew ?_
  refine shM_step rfl rfl rfl (by rfl) (by rfl) ?_
  apply Exists.intro
  refine ⟨fun n K hK => ?_, ?_, ?_⟩
  ·go_big_quiet_op
   exact hK _ rfl
  ·kernel_rfl
  refine shM_step rfl rfl rfl (by rfl) (by rfl) ?_
  apply Exists.intro
  refine ⟨fun n K hK => ?_, ?_, ?_⟩
  ·go_big_quiet_op
   exact hK _ rfl
  ·kernel_rfl
  refine shM_step rfl rfl rfl (by rfl) (by rfl) ?_
  apply Exists.intro
  refine ⟨fun n K hK => ?_, ?_, ?_⟩
  ·go_big_quiet_op
   exact hK _ rfl
  ·kernel_rfl
  refine shM_skip rfl (by kernel_rfl) (by kernel_rfl) ?_
  refine shM_skip rfl (by kernel_rfl) (by kernel_rfl) ?_
  refine shM_skip rfl (by kernel_rfl) (by kernel_rfl) ?_
  refine shM_skip rfl (by kernel_rfl) (by kernel_rfl) ?_
  refine shM_skip rfl (by kernel_rfl) (by kernel_rfl) ?_
  refine shM_skip rfl (by kernel_rfl) (by kernel_rfl) ?_
  refine shM_skip rfl (by kernel_rfl) (by kernel_rfl) ?_
  refine shM_skip rfl (by kernel_rfl) (by kernel_rfl) ?_
  refine shM_step rfl rfl rfl (by rfl) (by rfl) ?_
  apply Exists.intro
  refine ⟨fun n K hK => ?_, ?_, ?_⟩
  ·go_big_quiet_op
   exact hK _ rfl
  ·kernel_rfl
  refine shM_step rfl rfl rfl (by rfl) (by rfl) ?_
  apply Exists.intro
  refine ⟨fun n K hK => ?_, ?_, ?_⟩
  ·go_big_quiet_op
   exact hK _ rfl
  ·kernel_rfl
  refine shM_skip rfl (by kernel_rfl) (by kernel_rfl) ?_
  refine shM_skip rfl (by kernel_rfl) (by kernel_rfl) ?_
  refine shM_skip rfl (by kernel_rfl) (by kernel_rfl) ?_
  refine shM_skip rfl (by kernel_rfl) (by kernel_rfl) ?_
  refine shM_skip rfl (by kernel_rfl) (by kernel_rfl) ?_
  refine shM_skip rfl (by kernel_rfl) (by kernel_rfl) ?_
  refine shM_skip rfl (by kernel_rfl) (by kernel_rfl) ?_
  refine shM_skip rfl (by kernel_rfl) (by kernel_rfl) ?_
  refine shM_step rfl rfl rfl (by rfl) (by rfl) ?_
  apply Exists.intro
  refine ⟨fun n K hK => ?_, ?_, ?_⟩
  ·go_big_quiet_op
   exact hK _ rfl
  ·kernel_rfl
  refine shM_nil (fun n => ?_)
  have k3 := n.has
  generalize n.w = w3 at k3 ⊢
  have b3 := b2.keep k3 id
  have br3 := br2.keep k3 id
  have hK3 := keepN hK2 k3
  have f0 := fun i => br3.frozen i
  obtain ⟨c0, c1, c2, c3, c4, c5, c6, c7, c8⟩ := blk9 br3
  have hz3 := br3.lt
  clear k3 b2 br2 hK2 bx2
  go_wp2
  exact bodyPost_ret (v := .tuple #[rowV row0, .bool false]) (by simp [results, Tryz.results166, go_sem, c0, c1, c2, c3, c4, c5, c6, c7, c8, row0]) rfl ⟨rfl, keep9 hK3 (Nat.le_succ _) _ _ _ _ _ _ _ _ _⟩

set_option maxRecDepth 100000 in
set_option maxHeartbeats 1000000 in
theorem rowFor_b (op a b : Int) (q : Row) (w : World) (HQ : Hid (rowAt op = q)) (HI : Hid (isOp op = true)) (HA : Hid (inK q.ka a = false)) (hka : 0 ≤ q.ka ∧ q.ka ≤ 10) :
  Calls Tryz.prog 166 #[instV op a b] w (ForR row0 false w) := by
 go_enter Tryz.func166, Tryz.ntmps166
 go_wp2_with fail
 refine (rowOf_any op q _ HQ).mono ?_
 rw [HI.out]
 rintro e w1 ⟨rfl, k1⟩
 have bx := ((Blk.new w 55 #[.int .i64 op, .int .i64 a, .int .i64 b]).alloc (.cells rowZ 137)).keep k1 id
 have br := (Blk.new (w.alloc (.cells #[.int .i64 op, .int .i64 a, .int .i64 b] 55)) 137 rowZ).keep k1 id
 rw [World.size_alloc] at br
 have hK := keepN (((Keep.refl NoB w).alloc _).alloc _) k1
 have hz := br.lt
 go_wp2_with fail
 have b2 := Blk.new w1 137 #[.string (str q.name), .int .i64 q.ka, .int .i64 q.kb, .int .i64 q.ta, .int .i64 q.tb, .int .i64 q.la, .int .i64 q.lb, .bool q.hop, .bool q.fin]
 have bx2 := bx.alloc (.cells #[.string (str q.name), .int .i64 q.ka, .int .i64 q.kb, .int .i64 q.ta, .int .i64 q.tb, .int .i64 q.la, .int .i64 q.lb, .bool q.hop, .bool q.fin] 137)
 have br2 := br.alloc (.cells #[.string (str q.name), .int .i64 q.ka, .int .i64 q.kb, .int .i64 q.ta, .int .i64 q.tb, .int .i64 q.la, .int .i64 q.lb, .bool q.hop, .bool q.fin] 137)
 have hK2 := hK.alloc (.cells #[.string (str q.name), .int .i64 q.ka, .int .i64 q.kb, .int .i64 q.ta, .int .i64 q.tb, .int .i64 q.la, .int .i64 q.lb, .bool q.hop, .bool q.fin] 137)
 obtain ⟨w2, hw2⟩ : ∃ w2, w1.alloc (.cells #[.string (str q.name), .int .i64 q.ka, .int .i64 q.kb, .int .i64 q.ta, .int .i64 q.tb, .int .i64 q.la, .int .i64 q.lb, .bool q.hop, .bool q.fin] 137) = w2 := ⟨_, rfl⟩
 rw [hw2] at b2 bx2 br2 hK2
 have HW := Lib.hid hw2
 rw [hw2]
 clear hw2 bx br hK k1
 ·refine wp_region_sh ((0, false) :: (1, false) :: (2, false) :: (3, false) :: (4, false) :: (5, false) :: (7, false) :: (8, false) :: (6, true) :: (9, false) :: (10, false) :: (11, false) :: (12, false) :: (13, false) :: (14, false) :: (15, false) :: (17, false) :: (18, false) :: (16, true) :: (19, false) :: (20, false) :: (21, false) :: []) (fun w' => Keep NoB w2 w') (by kernel_rfl) (by kernel_rfl) (by rfl) (by kernel_rfl) (stable_keep w2) (Keep.refl NoB w2).drew ?_
  refine shM_step rfl rfl rfl (by rfl) (by rfl) ?_
  apply Exists.intro
  refine ⟨fun n K hK => ?_, ?_, ?_⟩
  ·go_big_quiet_op
   exact hK _ rfl
  ·kernel_rfl
  refine shM_step rfl rfl rfl (by rfl) (by rfl) ?_
  apply Exists.intro
  refine ⟨fun n K hK => ?_, ?_, ?_⟩
  ·go_big_quiet_op
   exact hK _ rfl
  ·kernel_rfl
  refine shM_step rfl rfl rfl (by rfl) (by rfl) ?_
  apply Exists.intro
  refine ⟨fun n K hK => ?_, ?_, ?_⟩
  ·go_big_quiet_op
   exact hK _ rfl
  ·kernel_rfl
  refine shM_step rfl rfl rfl (by rfl) (by rfl) ?_
  apply Exists.intro
  refine ⟨fun n K hK => ?_, ?_, ?_⟩
  ·go_big_quiet_op
   exact hK _ rfl
  ·kernel_rfl
  refine shM_step rfl rfl rfl (by rfl) (by rfl) ?_
  apply Exists.intro
  refine ⟨fun n K hK => ?_, ?_, ?_⟩
  ·go_big_quiet_op
   exact hK _ rfl
  ·kernel_rfl
  refine shM_step rfl rfl rfl (by rfl) (by rfl) ?_
  apply Exists.intro
  refine ⟨fun n K hK => ?_, ?_, ?_⟩
  ·have q1 : ∀ m : KW n.w, m.w.cell? ⟨w1.heap.size, 1, none⟩ = some (.int .i64 q.ka) := fun m => (b2.keep (keepN n.has m.keep) id).cell 1
   go_big_quiet_op
   exact hK _ rfl
  ·kernel_rfl
  refine shM_step rfl rfl rfl (by rfl) (by rfl) ?_
  apply Exists.intro
  refine ⟨fun n K hK => ?_, ?_, ?_⟩
  ·go_big_quiet_op
   exact hK _ rfl
  ·kernel_rfl
  refine shM_step rfl rfl rfl (by rfl) (by rfl) ?_
  apply Exists.intro
  refine ⟨fun n K hK => ?_, ?_, ?_⟩
  ·have x1 : ∀ m : KW n.w, m.w.cell? ⟨w.heap.size, 1, none⟩ = some (.int .i64 a) := fun m => (bx2.keep (keepN n.has m.keep) id).cell 1
   go_big_quiet_op
   exact hK _ rfl
  ·kernel_rfl
  refine shM_gen rfl rfl (by kernel_rfl) (fun v _ => ∃ sh gu, v = opV q.ka sh gu) (fun v w w' h _ => h) (fun n => ?_) (fun v1 => ?_)
  ·unfold yieldsK
   go_simp
   exact op_gen q.ka hka _
  simp only [Act.put, List.setIfInBounds_toArray, List.set_cons_zero, List.set_cons_succ]
  refine shM_step rfl rfl rfl (by rfl) (by rfl) ?_
  apply Exists.intro
  refine ⟨fun n K hK => ?_, ?_, ?_⟩
  ·go_big_quiet_op
   apply Exists.intro
   refine ⟨fun m => ?_, ?_⟩
   ·go_at_call 217
    exact kept_of (has_gen q.ka a v1 false _ HA.out n.has.2)
   ·exact hK _ rfl
  ·kernel_rfl
  refine shM_step rfl rfl rfl (by rfl) (by rfl) ?_
  apply Exists.intro
  refine ⟨fun n K hK => ?_, ?_, ?_⟩
  ·go_big_quiet_op
   exact hK _ rfl
  ·kernel_rfl
  refine shM_step rfl rfl rfl (by rfl) (by rfl) ?_
  apply Exists.intro
  refine ⟨fun n K hK => ?_, ?_, ?_⟩
  ·go_big_quiet_op
   exact hK _ rfl
  ·kernel_rfl
  refine shM_step rfl rfl rfl (by rfl) (by rfl) ?_
  apply Exists.intro
  refine ⟨fun n K hK => ?_, ?_, ?_⟩
  ·go_big_quiet_op
   exact hK _ rfl
  ·kernel_rfl
  refine shM_skip rfl (by kernel_rfl) (by kernel_rfl) ?_
  refine shM_skip rfl (by kernel_rfl) (by kernel_rfl) ?_
  refine shM_skip rfl (by kernel_rfl) (by kernel_rfl) ?_
  refine shM_skip rfl (by kernel_rfl) (by kernel_rfl) ?_
  refine shM_skip rfl (by kernel_rfl) (by kernel_rfl) ?_
  refine shM_skip rfl (by kernel_rfl) (by kernel_rfl) ?_
  refine shM_skip rfl (by kernel_rfl) (by kernel_rfl) ?_
  refine shM_skip rfl (by kernel_rfl) (by kernel_rfl) ?_
  refine shM_step rfl rfl rfl (by rfl) (by rfl) ?_
  apply Exists.intro
  refine ⟨fun n K hK => ?_, ?_, ?_⟩
  ·go_big_quiet_op
   exact hK _ rfl
  ·kernel_rfl
  refine shM_nil (fun n => ?_)
  have k3 := n.has.1
  generalize n.w = w3 at k3 ⊢
  have b3 := b2.keep k3 id
  have br3 := br2.keep k3 id
  have hK3 := keepN hK2 k3
  have f0 := fun i => br3.frozen i
  obtain ⟨c0, c1, c2, c3, c4, c5, c6, c7, c8⟩ := blk9 br3
  have hz3 := br3.lt
  clear k3 b2 br2 hK2 bx2
  go_wp2
  exact bodyPost_ret (v := .tuple #[rowV row0, .bool false]) (by simp [results, Tryz.results166, go_sem, c0, c1, c2, c3, c4, c5, c6, c7, c8, row0]) rfl ⟨rfl, keep9 hK3 (Nat.le_succ _) _ _ _ _ _ _ _ _ _⟩

set_option maxRecDepth 100000 in
set_option maxHeartbeats 1000000 in
theorem rowFor_c (op a b : Int) (q : Row) (w : World) (HQ : Hid (rowAt op = q)) (HI : Hid (isOp op = true)) (HA : Hid (inK q.ka a = true)) (HB : Hid (inK q.kb b = false)) (hka : 0 ≤ q.ka ∧ q.ka ≤ 10) (hkb : 0 ≤ q.kb ∧ q.kb ≤ 10) :
  Calls Tryz.prog 166 #[instV op a b] w (ForR row0 false w) := by
 go_enter Tryz.func166, Tryz.ntmps166
 go_wp2_with fail
 refine (rowOf_any op q _ HQ).mono ?_
 rw [HI.out]
 rintro e w1 ⟨rfl, k1⟩
 have bx := ((Blk.new w 55 #[.int .i64 op, .int .i64 a, .int .i64 b]).alloc (.cells rowZ 137)).keep k1 id
 have br := (Blk.new (w.alloc (.cells #[.int .i64 op, .int .i64 a, .int .i64 b] 55)) 137 rowZ).keep k1 id
 rw [World.size_alloc] at br
 have hK := keepN (((Keep.refl NoB w).alloc _).alloc _) k1
 have hz := br.lt
 go_wp2_with fail
 have b2 := Blk.new w1 137 #[.string (str q.name), .int .i64 q.ka, .int .i64 q.kb, .int .i64 q.ta, .int .i64 q.tb, .int .i64 q.la, .int .i64 q.lb, .bool q.hop, .bool q.fin]
 have bx2 := bx.alloc (.cells #[.string (str q.name), .int .i64 q.ka, .int .i64 q.kb, .int .i64 q.ta, .int .i64 q.tb, .int .i64 q.la, .int .i64 q.lb, .bool q.hop, .bool q.fin] 137)
 have br2 := br.alloc (.cells #[.string (str q.name), .int .i64 q.ka, .int .i64 q.kb, .int .i64 q.ta, .int .i64 q.tb, .int .i64 q.la, .int .i64 q.lb, .bool q.hop, .bool q.fin] 137)
 have hK2 := hK.alloc (.cells #[.string (str q.name), .int .i64 q.ka, .int .i64 q.kb, .int .i64 q.ta, .int .i64 q.tb, .int .i64 q.la, .int .i64 q.lb, .bool q.hop, .bool q.fin] 137)
 obtain ⟨w2, hw2⟩ : ∃ w2, w1.alloc (.cells #[.string (str q.name), .int .i64 q.ka, .int .i64 q.kb, .int .i64 q.ta, .int .i64 q.tb, .int .i64 q.la, .int .i64 q.lb, .bool q.hop, .bool q.fin] 137) = w2 := ⟨_, rfl⟩
 rw [hw2] at b2 bx2 br2 hK2
 have HW := Lib.hid hw2
 rw [hw2]
 clear hw2 bx br hK k1
 ·refine wp_region_sh ((0, false) :: (1, false) :: (2, false) :: (3, false) :: (4, false) :: (5, false) :: (7, false) :: (8, false) :: (6, true) :: (9, false) :: (10, false) :: (11, false) :: (12, false) :: (13, false) :: (14, false) :: (15, false) :: (17, false) :: (18, false) :: (16, true) :: (19, false) :: (20, false) :: (21, false) :: []) (fun w' => Keep NoB w2 w') (by kernel_rfl) (by kernel_rfl) (by rfl) (by kernel_rfl) (stable_keep w2) (Keep.refl NoB w2).drew ?_
  refine shM_step rfl rfl rfl (by rfl) (by rfl) ?_
  apply Exists.intro
  refine ⟨fun n K hK => ?_, ?_, ?_⟩
  ·go_big_quiet_op
   exact hK _ rfl
  ·kernel_rfl
  refine shM_step rfl rfl rfl (by rfl) (by rfl) ?_
  apply Exists.intro
  refine ⟨fun n K hK => ?_, ?_, ?_⟩
  ·go_big_quiet_op
   exact hK _ rfl
  ·kernel_rfl
  refine shM_step rfl rfl rfl (by rfl) (by rfl) ?_
  apply Exists.intro
  refine ⟨fun n K hK => ?_, ?_, ?_⟩
  ·go_big_quiet_op
   exact hK _ rfl
  ·kernel_rfl
  refine shM_step rfl rfl rfl (by rfl) (by rfl) ?_
  apply Exists.intro
  refine ⟨fun n K hK => ?_, ?_, ?_⟩
  ·go_big_quiet_op
   exact hK _ rfl
  ·kernel_rfl
  refine shM_step rfl rfl rfl (by rfl) (by rfl) ?_
  apply Exists.intro
  refine ⟨fun n K hK => ?_, ?_, ?_⟩
  ·go_big_quiet_op
   exact hK _ rfl
  ·kernel_rfl
  refine shM_step rfl rfl rfl (by rfl) (by rfl) ?_
  apply Exists.intro
  refine ⟨fun n K hK => ?_, ?_, ?_⟩
  ·have q1 : ∀ m : KW n.w, m.w.cell? ⟨w1.heap.size, 1, none⟩ = some (.int .i64 q.ka) := fun m => (b2.keep (keepN n.has m.keep) id).cell 1
   go_big_quiet_op
   exact hK _ rfl
  ·kernel_rfl
  refine shM_step rfl rfl rfl (by rfl) (by rfl) ?_
  apply Exists.intro
  refine ⟨fun n K hK => ?_, ?_, ?_⟩
  ·go_big_quiet_op
   exact hK _ rfl
  ·kernel_rfl
  refine shM_step rfl rfl rfl (by rfl) (by rfl) ?_
  apply Exists.intro
  refine ⟨fun n K hK => ?_, ?_, ?_⟩
  ·have x1 : ∀ m : KW n.w, m.w.cell? ⟨w.heap.size, 1, none⟩ = some (.int .i64 a) := fun m => (bx2.keep (keepN n.has m.keep) id).cell 1
   go_big_quiet_op
   exact hK _ rfl
  ·kernel_rfl
  refine shM_gen rfl rfl (by kernel_rfl) (fun v _ => ∃ sh gu, v = opV q.ka sh gu) (fun v w w' h _ => h) (fun n => ?_) (fun v1 => ?_)
  ·unfold yieldsK
   go_simp
   exact op_gen q.ka hka _
  simp only [Act.put, List.setIfInBounds_toArray, List.set_cons_zero, List.set_cons_succ]
  refine shM_step rfl rfl rfl (by rfl) (by rfl) ?_
  apply Exists.intro
  refine ⟨fun n K hK => ?_, ?_, ?_⟩
  ·go_big_quiet_op
   apply Exists.intro
   refine ⟨fun m => ?_, ?_⟩
   ·go_at_call 217
    exact kept_of (has_gen q.ka a v1 true _ HA.out n.has.2)
   ·exact hK _ rfl
  ·kernel_rfl
  refine shM_step rfl rfl rfl (by rfl) (by rfl) ?_
  apply Exists.intro
  refine ⟨fun n K hK => ?_, ?_, ?_⟩
  ·go_big_quiet_op
   exact hK _ rfl
  ·kernel_rfl
  refine shM_step rfl rfl rfl (by rfl) (by rfl) ?_
  apply Exists.intro
  refine ⟨fun n K hK => ?_, ?_, ?_⟩
  ·go_big_quiet_op
   exact hK _ rfl
  ·kernel_rfl
  refine shM_step rfl rfl rfl (by rfl) (by rfl) ?_
  apply Exists.intro
  refine ⟨fun n K hK => ?_, ?_, ?_⟩
  ·go_big_quiet_op
   exact hK _ rfl
  ·kernel_rfl
  refine shM_step rfl rfl rfl (by rfl) (by rfl) ?_
  apply Exists.intro
  refine ⟨fun n K hK => ?_, ?_, ?_⟩
  ·go_big_quiet_op
   exact hK _ rfl
  ·kernel_rfl
  refine shM_step rfl rfl rfl (by rfl) (by rfl) ?_
  apply Exists.intro
  refine ⟨fun n K hK => ?_, ?_, ?_⟩
  ·go_big_quiet_op
   exact hK _ rfl
  ·kernel_rfl
  refine shM_step rfl rfl rfl (by rfl) (by rfl) ?_
  apply Exists.intro
  refine ⟨fun n K hK => ?_, ?_, ?_⟩
  ·have q1 : ∀ m : KW n.w, m.w.cell? ⟨w1.heap.size, 2, none⟩ = some (.int .i64 q.kb) := fun m => (b2.keep (keepN n.has.1 m.keep) id).cell 2
   go_big_quiet_op
   exact hK _ rfl
  ·kernel_rfl
  refine shM_step rfl rfl rfl (by rfl) (by rfl) ?_
  apply Exists.intro
  refine ⟨fun n K hK => ?_, ?_, ?_⟩
  ·go_big_quiet_op
   exact hK _ rfl
  ·kernel_rfl
  refine shM_step rfl rfl rfl (by rfl) (by rfl) ?_
  apply Exists.intro
  refine ⟨fun n K hK => ?_, ?_, ?_⟩
  ·have x1 : ∀ m : KW n.w, m.w.cell? ⟨w.heap.size, 2, none⟩ = some (.int .i64 b) := fun m => (bx2.keep (keepN n.has.1 m.keep) id).cell 2
   go_big_quiet_op
   exact hK _ rfl
  ·kernel_rfl
  refine shM_gen rfl rfl (by kernel_rfl) (fun v _ => ∃ sh gu, v = opV q.kb sh gu) (fun v w w' h _ => h) (fun n => ?_) (fun v2 => ?_)
  ·unfold yieldsK
   go_simp
   exact op_gen q.kb hkb _
  simp only [Act.put, List.setIfInBounds_toArray, List.set_cons_zero, List.set_cons_succ]
  refine shM_step rfl rfl rfl (by rfl) (by rfl) ?_
  apply Exists.intro
  refine ⟨fun n K hK => ?_, ?_, ?_⟩
  ·go_big_quiet_op
   apply Exists.intro
   refine ⟨fun m => ?_, ?_⟩
   ·go_at_call 217
    exact kept_of (has_gen q.kb b v2 false _ HB.out n.has.2)
   ·exact hK _ rfl
  ·kernel_rfl
  refine shM_step rfl rfl rfl (by rfl) (by rfl) ?_
  apply Exists.intro
  refine ⟨fun n K hK => ?_, ?_, ?_⟩
  ·go_big_quiet_op
   exact hK _ rfl
  ·kernel_rfl
  refine shM_step rfl rfl rfl (by rfl) (by rfl) ?_
  apply Exists.intro
  refine ⟨fun n K hK => ?_, ?_, ?_⟩
  ·go_big_quiet_op
   exact hK _ rfl
  ·kernel_rfl
  refine shM_nil (fun n => ?_)
  have k3 := n.has.1.1
  generalize n.w = w3 at k3 ⊢
  have b3 := b2.keep k3 id
  have br3 := br2.keep k3 id
  have hK3 := keepN hK2 k3
  have f0 := fun i => br3.frozen i
  obtain ⟨c0, c1, c2, c3, c4, c5, c6, c7, c8⟩ := blk9 br3
  have hz3 := br3.lt
  clear k3 b2 br2 hK2 bx2
  go_wp2
  exact bodyPost_ret (v := .tuple #[rowV row0, .bool false]) (by simp [results, Tryz.results166, go_sem, c0, c1, c2, c3, c4, c5, c6, c7, c8, row0]) rfl ⟨rfl, keep9 hK3 (Nat.le_succ _) _ _ _ _ _ _ _ _ _⟩

set_option maxRecDepth 100000 in
set_option maxHeartbeats 1000000 in
theorem rowFor_d (op a b : Int) (q : Row) (w : World) (HQ : Hid (rowAt op = q)) (HI : Hid (isOp op = true)) (HA : Hid (inK q.ka a = true)) (HB : Hid (inK q.kb b = true)) (hka : 0 ≤ q.ka ∧ q.ka ≤ 10) (hkb : 0 ≤ q.kb ∧ q.kb ≤ 10) :
  Calls Tryz.prog 166 #[instV op a b] w (ForR q true w) := by
 go_enter Tryz.func166, Tryz.ntmps166
 go_wp2_with fail
 refine (rowOf_any op q _ HQ).mono ?_
 rw [HI.out]
 rintro e w1 ⟨rfl, k1⟩
 have bx := ((Blk.new w 55 #[.int .i64 op, .int .i64 a, .int .i64 b]).alloc (.cells rowZ 137)).keep k1 id
 have br := (Blk.new (w.alloc (.cells #[.int .i64 op, .int .i64 a, .int .i64 b] 55)) 137 rowZ).keep k1 id
 rw [World.size_alloc] at br
 have hK := keepN (((Keep.refl NoB w).alloc _).alloc _) k1
 have hz := br.lt
 go_wp2_with fail
 have b2 := Blk.new w1 137 #[.string (str q.name), .int .i64 q.ka, .int .i64 q.kb, .int .i64 q.ta, .int .i64 q.tb, .int .i64 q.la, .int .i64 q.lb, .bool q.hop, .bool q.fin]
 have bx2 := bx.alloc (.cells #[.string (str q.name), .int .i64 q.ka, .int .i64 q.kb, .int .i64 q.ta, .int .i64 q.tb, .int .i64 q.la, .int .i64 q.lb, .bool q.hop, .bool q.fin] 137)
 have br2 := br.alloc (.cells #[.string (str q.name), .int .i64 q.ka, .int .i64 q.kb, .int .i64 q.ta, .int .i64 q.tb, .int .i64 q.la, .int .i64 q.lb, .bool q.hop, .bool q.fin] 137)
 have hK2 := hK.alloc (.cells #[.string (str q.name), .int .i64 q.ka, .int .i64 q.kb, .int .i64 q.ta, .int .i64 q.tb, .int .i64 q.la, .int .i64 q.lb, .bool q.hop, .bool q.fin] 137)
 obtain ⟨w2, hw2⟩ : ∃ w2, w1.alloc (.cells #[.string (str q.name), .int .i64 q.ka, .int .i64 q.kb, .int .i64 q.ta, .int .i64 q.tb, .int .i64 q.la, .int .i64 q.lb, .bool q.hop, .bool q.fin] 137) = w2 := ⟨_, rfl⟩
 rw [hw2] at b2 bx2 br2 hK2
 have HW := Lib.hid hw2
 rw [hw2]
 clear hw2 bx br hK k1
 ·refine wp_region_sh ((0, false) :: (1, false) :: (2, false) :: (3, false) :: (4, false) :: (5, false) :: (7, false) :: (8, false) :: (6, true) :: (9, false) :: (10, false) :: (11, false) :: (12, false) :: (13, false) :: (14, false) :: (15, false) :: (17, false) :: (18, false) :: (16, true) :: (19, false) :: (20, false) :: (21, false) :: []) (fun w' => Keep NoB w2 w') (by kernel_rfl) (by kernel_rfl) (by rfl) (by kernel_rfl) (stable_keep w2) (Keep.refl NoB w2).drew ?_
  refine shM_step rfl rfl rfl (by rfl) (by rfl) ?_
  apply Exists.intro
  refine ⟨fun n K hK => ?_, ?_, ?_⟩
  ·go_big_quiet_op
   exact hK _ rfl
  ·kernel_rfl
  refine shM_step rfl rfl rfl (by rfl) (by rfl) ?_
  apply Exists.intro
  refine ⟨fun n K hK => ?_, ?_, ?_⟩
  ·go_big_quiet_op
   exact hK _ rfl
  ·kernel_rfl
  refine shM_step rfl rfl rfl (by rfl) (by rfl) ?_
  apply Exists.intro
  refine ⟨fun n K hK => ?_, ?_, ?_⟩
  ·go_big_quiet_op
   exact hK _ rfl
  ·kernel_rfl
  refine shM_step rfl rfl rfl (by rfl) (by rfl) ?_
  apply Exists.intro
  refine ⟨fun n K hK => ?_, ?_, ?_⟩
  ·go_big_quiet_op
   exact hK _ rfl
  ·kernel_rfl
  refine shM_step rfl rfl rfl (by rfl) (by rfl) ?_
  apply Exists.intro
  refine ⟨fun n K hK => ?_, ?_, ?_⟩
  ·go_big_quiet_op
   exact hK _ rfl
  ·kernel_rfl
  refine shM_step rfl rfl rfl (by rfl) (by rfl) ?_
  apply Exists.intro
  refine ⟨fun n K hK => ?_, ?_, ?_⟩
  ·have q1 : ∀ m : KW n.w, m.w.cell? ⟨w1.heap.size, 1, none⟩ = some (.int .i64 q.ka) := fun m => (b2.keep (keepN n.has m.keep) id).cell 1
   go_big_quiet_op
   exact hK _ rfl
  ·kernel_rfl
  refine shM_step rfl rfl rfl (by rfl) (by rfl) ?_
  apply Exists.intro
  refine ⟨fun n K hK => ?_, ?_, ?_⟩
  ·go_big_quiet_op
   exact hK _ rfl
  ·kernel_rfl
  refine shM_step rfl rfl rfl (by rfl) (by rfl) ?_
  apply Exists.intro
  refine ⟨fun n K hK => ?_, ?_, ?_⟩
  ·have x1 : ∀ m : KW n.w, m.w.cell? ⟨w.heap.size, 1, none⟩ = some (.int .i64 a) := fun m => (bx2.keep (keepN n.has m.keep) id).cell 1
   go_big_quiet_op
   exact hK _ rfl
  ·kernel_rfl
  refine shM_gen rfl rfl (by kernel_rfl) (fun v _ => ∃ sh gu, v = opV q.ka sh gu) (fun v w w' h _ => h) (fun n => ?_) (fun v1 => ?_)
  ·unfold yieldsK
   go_simp
   exact op_gen q.ka hka _
  simp only [Act.put, List.setIfInBounds_toArray, List.set_cons_zero, List.set_cons_succ]
  refine shM_step rfl rfl rfl (by rfl) (by rfl) ?_
  apply Exists.intro
  refine ⟨fun n K hK => ?_, ?_, ?_⟩
  ·go_big_quiet_op
   apply Exists.intro
   refine ⟨fun m => ?_, ?_⟩
   ·go_at_call 217
    exact kept_of (has_gen q.ka a v1 true _ HA.out n.has.2)
   ·exact hK _ rfl
  ·kernel_rfl
  refine shM_step rfl rfl rfl (by rfl) (by rfl) ?_
  apply Exists.intro
  refine ⟨fun n K hK => ?_, ?_, ?_⟩
  ·go_big_quiet_op
   exact hK _ rfl
  ·kernel_rfl
  refine shM_step rfl rfl rfl (by rfl) (by rfl) ?_
  apply Exists.intro
  refine ⟨fun n K hK => ?_, ?_, ?_⟩
  ·go_big_quiet_op
   exact hK _ rfl
  ·kernel_rfl
  refine shM_step rfl rfl rfl (by rfl) (by rfl) ?_
  apply Exists.intro
  refine ⟨fun n K hK => ?_, ?_, ?_⟩
  ·go_big_quiet_op
   exact hK _ rfl
  ·kernel_rfl
  refine shM_step rfl rfl rfl (by rfl) (by rfl) ?_
  apply Exists.intro
  refine ⟨fun n K hK => ?_, ?_, ?_⟩
  ·go_big_quiet_op
   exact hK _ rfl
  ·kernel_rfl
  refine shM_step rfl rfl rfl (by rfl) (by rfl) ?_
  apply Exists.intro
  refine ⟨fun n K hK => ?_, ?_, ?_⟩
  ·go_big_quiet_op
   exact hK _ rfl
  ·kernel_rfl
  refine shM_step rfl rfl rfl (by rfl) (by rfl) ?_
  apply Exists.intro
  refine ⟨fun n K hK => ?_, ?_, ?_⟩
  ·have q1 : ∀ m : KW n.w, m.w.cell? ⟨w1.heap.size, 2, none⟩ = some (.int .i64 q.kb) := fun m => (b2.keep (keepN n.has.1 m.keep) id).cell 2
   go_big_quiet_op
   exact hK _ rfl
  ·kernel_rfl
  refine shM_step rfl rfl rfl (by rfl) (by rfl) ?_
  apply Exists.intro
  refine ⟨fun n K hK => ?_, ?_, ?_⟩
  ·go_big_quiet_op
   exact hK _ rfl
  ·kernel_rfl
  refine shM_step rfl rfl rfl (by rfl) (by rfl) ?_
  apply Exists.intro
  refine ⟨fun n K hK => ?_, ?_, ?_⟩
  ·have x1 : ∀ m : KW n.w, m.w.cell? ⟨w.heap.size, 2, none⟩ = some (.int .i64 b) := fun m => (bx2.keep (keepN n.has.1 m.keep) id).cell 2
   go_big_quiet_op
   exact hK _ rfl
  ·kernel_rfl
  refine shM_gen rfl rfl (by kernel_rfl) (fun v _ => ∃ sh gu, v = opV q.kb sh gu) (fun v w w' h _ => h) (fun n => ?_) (fun v2 => ?_)
  ·unfold yieldsK
   go_simp
   exact op_gen q.kb hkb _
  simp only [Act.put, List.setIfInBounds_toArray, List.set_cons_zero, List.set_cons_succ]
  refine shM_step rfl rfl rfl (by rfl) (by rfl) ?_
  apply Exists.intro
  refine ⟨fun n K hK => ?_, ?_, ?_⟩
  ·go_big_quiet_op
   apply Exists.intro
   refine ⟨fun m => ?_, ?_⟩
   ·go_at_call 217
    exact kept_of (has_gen q.kb b v2 true _ HB.out n.has.2)
   ·exact hK _ rfl
  ·kernel_rfl
  refine shM_step rfl rfl rfl (by rfl) (by rfl) ?_
  apply Exists.intro
  refine ⟨fun n K hK => ?_, ?_, ?_⟩
  ·go_big_quiet_op
   exact hK _ rfl
  ·kernel_rfl
  refine shM_step rfl rfl rfl (by rfl) (by rfl) ?_
  apply Exists.intro
  refine ⟨fun n K hK => ?_, ?_, ?_⟩
  ·go_big_quiet_op
   exact hK _ rfl
  ·kernel_rfl
  refine shM_nil (fun n => ?_)
  have k3 := n.has.1.1
  generalize n.w = w3 at k3 ⊢
  have b3 := b2.keep k3 id
  have br3 := br2.keep k3 id
  have hK3 := keepN hK2 k3
  have f0 := fun i => br3.frozen i
  obtain ⟨c0, c1, c2, c3, c4, c5, c6, c7, c8⟩ := blk9 br3
  obtain ⟨d0, d1, d2, d3, d4, d5, d6, d7, d8⟩ := blk9 b3
  have hz3 := br3.lt
  clear k3 b2 br2 hK2 bx2
  go_wp2
  exact bodyPost_ret (v := .tuple #[rowV q, .bool true]) (by simp [results, Tryz.results166, go_sem, c0, c1, c2, c3, c4, c5, c6, c7, c8]) rfl ⟨rfl, keep9 hK3 (Nat.le_succ _) _ _ _ _ _ _ _ _ _⟩

theorem rowFor_any (op a b : Int) (r : Row) (w : World) (hr : Hid (rowR op a b = r)) : Calls Tryz.prog 166 #[instV op a b] w (ForR r (okI op a b) w) := by
 obtain ⟨h1, h2, h3, h4⟩ := kinds_ok op
 have hr := hr.out
 subst hr
 cases ho : isOp op
 ·have hok : okI op a b = false := by unfold okI; rw [ho]; rfl
  rw [rowR_no hok, hok]
  exact rowFor_a op a b _ w rfl ho
 ·cases ha : inK (rowAt op).ka a
  ·have hok : okI op a b = false := by unfold okI; rw [ho, ha]; rfl
   rw [rowR_no hok, hok]
   exact rowFor_b op a b _ w rfl ho ha ⟨h1, h2⟩
  ·cases hb : inK (rowAt op).kb b
   ·have hok : okI op a b = false := by unfold okI; rw [ho, ha, hb]; rfl
    rw [rowR_no hok, hok]
    exact rowFor_c op a b _ w rfl ho ha hb ⟨h1, h2⟩ ⟨h3, h4⟩
   ·have hok : okI op a b = true := by unfold okI; rw [ho, ha, hb]; rfl
    rw [rowR_ok hok, hok]
    exact rowFor_d op a b _ w rfl ho ha hb ⟨h1, h2⟩ ⟨h3, h4⟩

end Go.Proofs.YtgnooffedmeenaaGreatDoor.O

namespace Go.Proofs.YtgnooffedmeenaaGreatDoor.O
open Go.RowKit

def chk (op a b : Int) : Int := if okI op a b = true then 0 else 40
def endsI (op a b : Int) : Bool := (rowR op a b).fin
def goesI (op a b : Int) : Bool := decide ((rowR op a b).ka = 10)
def goesN (op a b : Int) : Int := if goesI op a b = true then a else 0
theorem pr2 {a a' : Int} {b b' : Bool} (h1 : a = a') (h2 : b = b') : Ending.returned (.tuple #[.int .i64 a, .bool b]) = .returned (.tuple #[.int .i64 a', .bool b']) := by rw [h1, h2]

set_option maxHeartbeats 1000000 in
theorem check_any (op a b : Int) (w : World) :
  Calls Tryz.prog 165 #[instV op a b] w fun e w' => e = .returned (.int .i64 (chk op a b)) ∧ Keep NoB w w' := by
 have hK := (Keep.refl NoB w).alloc (.cells #[.int .i64 op, .int .i64 a, .int .i64 b] 55)
 obtain ⟨r, hr⟩ : ∃ r, Hid (rowR op a b = r) := ⟨_, rfl⟩
 have HR := Lib.hid (fun w => rowFor_any op a b r w hr)
 cases hok : okI op a b
 ·have HX : Hid (chk op a b = 40) := by show _ = _; unfold chk; rw [if_neg (by rw [hok]; decide)]
  rw [hok] at HR
  clear hok hr
  go_enter Tryz.func165, Tryz.ntmps165
  go_wp2_with fail
  refine (HR.out _).mono ?_
  rintro e w1 ⟨rfl, k1⟩
  go_wp2
  go_ret
  exact ⟨by rw [HX.out]; rfl, (keepN hK k1).alloc _⟩
 ·have HX : Hid (chk op a b = 0) := by show _ = _; unfold chk; rw [if_pos hok]
  rw [hok] at HR
  clear hok hr
  go_enter Tryz.func165, Tryz.ntmps165
  go_wp2_with fail
  refine (HR.out _).mono ?_
  rintro e w1 ⟨rfl, k1⟩
  go_wp2
  go_ret
  exact ⟨by rw [HX.out]; rfl, (keepN hK k1).alloc _⟩

set_option maxHeartbeats 1000000 in
theorem ends_any (op a b : Int) (w : World) :
  Calls Tryz.prog 164 #[instV op a b] w fun e w' => e = .returned (.bool (endsI op a b)) ∧ Keep NoB w w' := by
 have hK := (Keep.refl NoB w).alloc (.cells #[.int .i64 op, .int .i64 a, .int .i64 b] 55)
 obtain ⟨r, hr⟩ : ∃ r, Hid (rowR op a b = r) := ⟨_, rfl⟩
 have HR := Lib.hid (fun w => rowFor_any op a b r w hr)
 have HX : Hid (endsI op a b = r.fin) := by show _ = _; unfold endsI; rw [hr.out]
 clear hr
 go_enter Tryz.func164, Tryz.ntmps164
 go_wp2_with fail
 refine (HR.out _).mono ?_
 rintro e w1 ⟨rfl, k1⟩
 go_wp2
 go_ret
 exact ⟨by rw [HX.out]; rfl, (keepN hK k1).alloc _⟩

set_option maxHeartbeats 1000000 in
theorem goes_any (op a b : Int) (w : World) :
  Calls Tryz.prog 106 #[instV op a b] w fun e w' => e = .returned (.tuple #[.int .i64 (goesN op a b), .bool (goesI op a b)]) ∧ Keep NoB w w' := by
 have hB := Blk.new w 55 #[.int .i64 op, .int .i64 a, .int .i64 b]
 have hK := (Keep.refl NoB w).alloc (.cells #[.int .i64 op, .int .i64 a, .int .i64 b] 55)
 obtain ⟨r, hr⟩ : ∃ r, Hid (rowR op a b = r) := ⟨_, rfl⟩
 have HR := Lib.hid (fun w => rowFor_any op a b r w hr)
 by_cases hg : r.ka = 10
 ·have h1 : goesI op a b = true := decide_eq_true (by rw [hr.out]; exact hg)
  have HX : Hid (goesN op a b = a ∧ goesI op a b = true) := ⟨by unfold goesN; rw [if_pos h1], h1⟩
  have hq : (r.ka != 10) = false := by rw [bne_eq_false_iff_eq]; exact hg
  clear hg h1 hr
  go_enter Tryz.func106, Tryz.ntmps106
  go_wp2_with fail
  refine (HR.out _).mono ?_
  rintro e w1 ⟨rfl, k1⟩
  have b1 := hB.keep k1 id
  have c1 : w1.cell? ⟨w.heap.size, 1, none⟩ = some (.int .i64 a) := b1.cell 1
  have hz := b1.lt
  have c2 : ∀ o, (w1.alloc o).cell? ⟨w.heap.size, 1, none⟩ = some (.int .i64 a) := fun o => (World.cell?_alloc_lt _ _ _ hz).trans c1
  go_wp2
  go_ret2
  exact ⟨pr2 HX.out.1.symm HX.out.2.symm, (keepN hK k1).alloc _⟩
 ·have h1 : goesI op a b = false := decide_eq_false (by rw [hr.out]; exact hg)
  have HX : Hid (goesN op a b = 0 ∧ goesI op a b = false) := ⟨by unfold goesN; rw [if_neg (by rw [h1]; decide)], h1⟩
  have hq : (r.ka != 10) = true := by rw [bne_iff_ne]; exact hg
  clear hg h1 hr
  go_enter Tryz.func106, Tryz.ntmps106
  go_wp2_with fail
  refine (HR.out _).mono ?_
  rintro e w1 ⟨rfl, k1⟩
  go_wp2
  go_ret2
  exact ⟨pr2 HX.out.1.symm HX.out.2.symm, (keepN hK k1).alloc _⟩

set_option maxHeartbeats 1000000 in
theorem kinds_any (op : Int) (w : World) :
  Calls Tryz.prog 78 #[.int .i64 op] w fun e w' => e = .returned (.tuple #[.int .i64 (rowAt op).ka, .int .i64 (rowAt op).kb]) ∧ Keep NoB w w' := by
 obtain ⟨r, hr⟩ : ∃ r, Hid (rowAt op = r) := ⟨_, rfl⟩
 have HR := Lib.hid (fun w => rowOf_any op r w hr)
 rw [hr.out]
 clear hr
 go_enter Tryz.func78, Tryz.ntmps78
 go_wp2_with fail
 refine (HR.out _).mono ?_
 rintro e w1 ⟨rfl, k1⟩
 have b2 := Blk.new w1 137 (cells9 r)
 go_wp2
 go_quiet (fail)
 go_wp2
 go_ret2
 exact ⟨rfl, (k1.alloc _).drewN _⟩

set_option maxHeartbeats 1000000 in
theorem name_any (op : Int) (w : World) :
  Calls Tryz.prog 36 #[.int .i64 op] w fun e w' => e = .returned (.string (str (rowAt op).name)) ∧ Keep NoB w w' := by
 obtain ⟨r, hr⟩ : ∃ r, Hid (rowAt op = r) := ⟨_, rfl⟩
 have HR := Lib.hid (fun w => rowOf_any op r w hr)
 rw [hr.out]
 clear hr
 go_enter Tryz.func36, Tryz.ntmps36
 go_wp2_with fail
 refine (HR.out _).mono ?_
 rintro e w1 ⟨rfl, k1⟩
 go_wp2
 go_ret
 exact ⟨rfl, k1.alloc _⟩

end Go.Proofs.YtgnooffedmeenaaGreatDoor.O

namespace Go.Proofs.YtgnooffedmeenaaGreatDoor.C
open Go.RowKit O

abbrev I3 := Int × Int × Int
def iis (l : List I3) : List Value := l.flatMap fun x => [.int .i64 x.1, .int .i64 x.2.1, .int .i64 x.2.2]
theorem iis_cons (x : I3) (l : List I3) : iis (x :: l) = [.int .i64 x.1, .int .i64 x.2.1, .int .i64 x.2.2] ++ iis l := by unfold iis; rw [List.flatMap_cons]
theorem iis_append (l r : List I3) : iis (l ++ r) = iis l ++ iis r := by unfold iis; rw [List.flatMap_append]
theorem iis_length (l : List I3) : (iis l).length = l.length * 3 := by
 induction l with
 | nil => rfl
 | cons v l ih => rw [iis_cons, List.length_append, ih]; simp; omega
theorem iis_at : ∀ (l : List I3) (i : Nat) (h : i < l.length), (iis l)[i * 3]? = some (.int .i64 l[i].1) ∧ (iis l)[i * 3 + 1]? = some (.int .i64 l[i].2.1) ∧ (iis l)[i * 3 + 2]? = some (.int .i64 l[i].2.2)
 | v :: l, 0, _ => by rw [iis_cons]; exact ⟨rfl, rfl, rfl⟩
 | v :: l, i + 1, h => by
  have := iis_at l i (by simpa using h)
  rw [iis_cons, show (i + 1) * 3 = i * 3 + 3 by omega]
  exact ⟨by simpa using this.1, by simpa using this.2.1, by simpa using this.2.2⟩
theorem rdJ_at {w : World} {A : Option Addr} {l : List I3} (h : Rd w A (iis l)) (h0 : 0 < l.length) : ∃ g off, A = some ⟨g, off, none⟩ ∧
  ∀ (i : Nat) (hi : i < l.length), w.cell? ⟨g, off + i * 3, none⟩ = some (.int .i64 l[i].1) ∧ w.cell? ⟨g, off + i * 3 + 1, none⟩ = some (.int .i64 l[i].2.1) ∧ w.cell? ⟨g, off + i * 3 + 2, none⟩ = some (.int .i64 l[i].2.2) := by
 obtain ⟨g, off, e, hc⟩ := h (by rw [iis_length]; omega)
 refine ⟨g, off, e, fun i hi => ?_⟩
 obtain ⟨h1, h2, h3⟩ := iis_at l i hi
 exact ⟨hc _ _ h1, hc _ _ h2, hc _ _ h3⟩

def ok1 (x : I3) : Bool := okI x.1 x.2.1 x.2.2
def eB (x : I3) : Bool := endsI x.1 x.2.1 x.2.2
def gB (x : I3) : Bool := goesI x.1 x.2.1 x.2.2
def gN (x : I3) : Int := goesN x.1 x.2.1 x.2.2
theorem gB_ka {x : I3} (h : gB x = true) : ok1 x = true ∧ (O.rowAt x.1).ka = 10 := by
 have h := of_decide_eq_true h
 cases hk : okI x.1 x.2.1 x.2.2
 ·rw [rowR_no hk] at h; exact absurd h (by decide)
 ·rw [rowR_ok hk] at h; exact ⟨hk, h⟩
theorem ka_gB {x : I3} (h : ok1 x = true) (hk : (O.rowAt x.1).ka = 10) : gB x = true := by
 unfold gB goesI; rw [rowR_ok h, hk]; rfl
theorem gB_in {x : I3} (h : gB x = true) : 0 ≤ x.2.1 ∧ x.2.1 ≤ 511 := by
 obtain ⟨h1, h2⟩ := gB_ka h
 have h3 := (ok_op h1).2.1
 rw [h2] at h3
 exact of_decide_eq_true h3
theorem gN_yes {x : I3} (h : gB x = true) : gN x = x.2.1 := if_pos h
theorem gN_no {x : I3} (h : gB x = false) : gN x = 0 := if_neg (by unfold gB at h; rw [h]; decide)
theorem gN_in (x : I3) : 0 ≤ gN x ∧ gN x ≤ 511 := by
 cases h : gB x
 ·rw [gN_no h]; decide
 ·rw [gN_yes h]; exact gB_in h
def itemB (n : Nat) (x : I3) : Bool := ok1 x && decide (gN x < (n : Int))
def lastB (l : List I3) : Bool := match l.getLast? with | some x => eB x | none => false
def okB (l : List I3) : Bool := decide (l.length ≤ 512) && lastB l && l.all (itemB l.length)
def chkB (l : List I3) : Int := if okB l = true then 0 else 50
theorem chkB_ok {l : List I3} (h : okB l = true) : chkB l = 0 := if_pos h
theorem chkB_no {l : List I3} (h : okB l = false) : chkB l = 50 := if_neg (by rw [h]; decide)
theorem okB_parts {l : List I3} (h : okB l = true) : 1 ≤ l.length ∧ l.length ≤ 512 ∧ lastB l = true ∧ l.all (itemB l.length) = true := by
 unfold okB at h
 simp only [Bool.and_eq_true, decide_eq_true_eq] at h
 refine ⟨?_, h.1.1, h.1.2, h.2⟩
 rcases l with _ | ⟨x, l⟩
 ·exact absurd h.1.2 (by decide)
 ·simp
theorem okB_mk {l : List I3} (h1 : l.length ≤ 512) (h2 : lastB l = true) (h3 : l.all (itemB l.length) = true) : okB l = true := by
 unfold okB; rw [decide_eq_true h1, h2, h3]; rfl
theorem okB_long {l : List I3} (h : ¬ l.length ≤ 512) : okB l = false := by unfold okB; rw [decide_eq_false h]; rfl
theorem okB_last {l : List I3} (h : lastB l = false) : okB l = false := by unfold okB; rw [h]; simp
theorem okB_item {l : List I3} (h : l.all (itemB l.length) = false) : okB l = false := by unfold okB; rw [h]; simp
theorem lastB_at {l : List I3} (h : 0 < l.length) : lastB l = eB (l[l.length - 1]'(by omega)) := by
 unfold lastB
 rw [List.getLast?_eq_getElem?, List.getElem?_eq_getElem (by omega)]
theorem item_no1 {n : Nat} {x : I3} (h : ok1 x = false) : itemB n x = false := by unfold itemB; rw [h]; rfl
theorem item_no2 {n : Nat} {x : I3} (h : ¬ gN x < (n : Int)) : itemB n x = false := by unfold itemB; rw [decide_eq_false h]; simp
theorem item_yes {n : Nat} {x : I3} (h1 : ok1 x = true) (h2 : gN x < (n : Int)) : itemB n x = true := by unfold itemB; rw [h1, decide_eq_true h2]; rfl
theorem all_no {n : Nat} {l : List I3} {k : Nat} (hk : k < l.length) (h : itemB n l[k] = false) : l.all (itemB n) = false := by
 rw [List.all_eq_false]; exact ⟨_, List.getElem_mem hk, by rw [h]; decide⟩
end Go.Proofs.YtgnooffedmeenaaGreatDoor.C

namespace Go.Proofs.YtgnooffedmeenaaGreatDoor.F
open Go.RowKit W

def letB (c : UInt8) : Bool := decide ((97 ≤ c.toNat ∧ c.toNat ≤ 122) ∨ (65 ≤ c.toNat ∧ c.toNat ≤ 90))
def digB (c : UInt8) : Bool := decide (48 ≤ c.toNat ∧ c.toNat ≤ 57)
def inB (c : UInt8) : Bool := letB c || digB c
def headB : List UInt8 → Bool
 | [] => false
 | c :: _ => letB c
def okN (s : List UInt8) : Bool := decide (s.length ≤ 32) && (headB s && s.all inB)
def chkN (s : List UInt8) : Int := if okN s = true then 0 else 71
theorem okN_iff (s : List UInt8) : okN s = true ↔ s.length ≤ 32 ∧ headB s = true ∧ s.all inB = true := by unfold okN; rw [Bool.and_eq_true, Bool.and_eq_true, decide_eq_true_iff]
theorem chkN_ok {s : List UInt8} (h : okN s = true) : chkN s = 0 := if_pos h
theorem chkN_no {s : List UInt8} (h : okN s = false) : chkN s = 71 := if_neg (by rw [h]; decide)
theorem okN_long {s : List UInt8} (h : ¬ s.length ≤ 32) : okN s = false := by unfold okN; rw [decide_eq_false h]; rfl
theorem okN_head {s : List UInt8} (h : headB s = false) : okN s = false := by unfold okN; rw [h]; simp
theorem okN_in {s : List UInt8} (h : s.all inB = false) : okN s = false := by unfold okN; rw [h]; simp
theorem headB_at {s : List UInt8} (h : 0 < s.length) : headB s = letB s[0] := by
 cases s with
 | nil => simp at h
 | cons c l => rfl
theorem letB_iff (c : UInt8) : letB c = true ↔ (97 ≤ c.toNat ∧ c.toNat ≤ 122) ∨ (65 ≤ c.toNat ∧ c.toNat ≤ 90) := by unfold letB; rw [decide_eq_true_iff]
theorem digB_iff (c : UInt8) : digB c = true ↔ 48 ≤ c.toNat ∧ c.toNat ≤ 57 := by unfold digB; rw [decide_eq_true_iff]

structure Fu where
 nm : List UInt8
 ar : List Int
 rs : List Int
 lc : List Int
 bd : List C.I3
def okF (f : Fu) : Bool := okN f.nm && (S.okG f.ar f.rs && (f.lc.all knownB && (C.okB f.bd && decide (f.ar.length + f.rs.length + f.lc.length ≤ 64))))
def chkF (f : Fu) : Int := if okF f = true then 0 else 70
theorem okF_iff (f : Fu) : okF f = true ↔ okN f.nm = true ∧ S.okG f.ar f.rs = true ∧ f.lc.all knownB = true ∧ C.okB f.bd = true ∧ f.ar.length + f.rs.length + f.lc.length ≤ 64 := by
 unfold okF; rw [Bool.and_eq_true, Bool.and_eq_true, Bool.and_eq_true, Bool.and_eq_true, decide_eq_true_iff]
theorem chkF_ok {f : Fu} (h : okF f = true) : chkF f = 0 := if_pos h
theorem chkF_no {f : Fu} (h : okF f = false) : chkF f = 70 := if_neg (by rw [h]; decide)
theorem okF_not {f : Fu} (h : ¬ (okN f.nm = true ∧ S.okG f.ar f.rs = true ∧ f.lc.all knownB = true ∧ C.okB f.bd = true ∧ f.ar.length + f.rs.length + f.lc.length ≤ 64)) : okF f = false := by
 cases ho : okF f
 ·rfl
 ·exact absurd ((okF_iff f).1 ho) h
theorem okG_one (l : List Int) : S.okG l [] = true ↔ l.length ≤ 64 ∧ l.all knownB = true := by rw [S.okG_iff]; simp

def sameF (f g : Fu) : Bool := decide (f.nm = g.nm ∧ (f.ar = g.ar ∧ f.rs = g.rs) ∧ f.lc = g.lc ∧ f.bd = g.bd)
theorem sameF_iff (f g : Fu) : sameF f g = true ↔ f = g := by
 unfold sameF
 rw [decide_eq_true_iff]
 constructor
 ·rintro ⟨h1, ⟨h2, h3⟩, h4, h5⟩
  cases f; cases g
  simp only at h1 h2 h3 h4 h5
  subst h1 h2 h3 h4 h5; rfl
 ·rintro rfl; exact ⟨rfl, ⟨rfl, rfl⟩, rfl, rfl⟩

end Go.Proofs.YtgnooffedmeenaaGreatDoor.F

namespace Go.Proofs.YtgnooffedmeenaaGreatDoor.O

theorem in_bounds {k n : Int} (h : inK k n = true) : (-9223372036854775808 ≤ n ∧ n ≤ 9223372036854775807) ∧ (k ≠ 1 → 0 ≤ n ∧ n ≤ 511) ∧ (k = 0 → n = 0) := by
 have h := of_decide_eq_true h
 unfold lo hi at h
 repeat' split at h
 all_goals omega

def upto (l : List UInt8) : List UInt8 := l.takeWhile (fun c => decide (c ≠ 32))
theorem upto_of {s r : List UInt8} (hs : ∀ c ∈ s, c ≠ 32) (hr : r = [] ∨ ∃ r', r = 32 :: r') : upto (s ++ r) = s := by
 unfold upto
 rw [List.takeWhile_append_of_pos (by intro c hc; simpa using hs c hc)]
 rcases hr with rfl | ⟨r', rfl⟩
 ·simp
 ·simp
theorem split_at {s t r q : List UInt8} (hs : ∀ c ∈ s, c ≠ 32) (ht : ∀ c ∈ t, c ≠ 32) (hr : r = [] ∨ ∃ r', r = 32 :: r') (hq : q = [] ∨ ∃ q', q = 32 :: q') (h : s ++ r = t ++ q) : s = t ∧ r = q := by
 have e := congrArg upto h
 rw [upto_of hs hr, upto_of ht hq] at e
 subst e
 exact ⟨rfl, List.append_cancel_left h⟩

theorem itoa_no (n : Int) : ∀ c ∈ Lib.itoa n, c ≠ 32 := by
 have hd : ∀ u, ∀ c ∈ Lib.decDigits u, c ≠ 32 := fun u c hc e => by
  have := W.dec_digits u c hc
  rw [e] at this
  exact absurd this (by decide)
 intro c hc
 rcases Int.lt_or_le n 0 with h | h
 ·rw [W.itoa_minus h] at hc
  rcases List.mem_cons.1 hc with rfl | hc
  ·decide
  ·exact hd _ c hc
 ·rw [W.itoa_pos h] at hc
  exact hd _ c hc
theorem nameAt_all {l : List (List UInt8)} {p : List UInt8 → Bool} (h : l.all p = true) (h0 : p [] = true) (n : Int) : p (A.nameAt l n) = true := by
 unfold A.nameAt
 split
 ·rcases Nat.lt_or_ge n.toNat l.length with hlt | hge
  ·rw [A.getD_at hlt]
   exact List.all_eq_true.1 h _ (List.getElem_mem hlt)
  ·rw [A.getD_past hge]; exact h0
 ·exact h0
def noSp (s : List UInt8) : Bool := s.all fun c => decide (c ≠ 32)
theorem noSp_mem {s : List UInt8} (h : noSp s = true) : ∀ c ∈ s, c ≠ 32 := fun c hc => by simpa using List.all_eq_true.1 h c hc
theorem word_no (k n : Int) : ∀ c ∈ word k n, c ≠ 32 := by
 unfold word
 split
 ·apply noSp_mem
  unfold W.letC
  repeat' split
  all_goals decide
 ·split
  ·exact noSp_mem (nameAt_all (p := noSp) (by decide) (by decide) n)
  ·split
   ·exact noSp_mem (nameAt_all (p := noSp) (by decide) (by decide) n)
   ·exact itoa_no n
theorem name_no (op : Int) : ∀ c ∈ (rowAt op).name, c ≠ 32 := noSp_mem (rowAt_all (p := fun r => noSp r.name) (by decide) (by decide) op)
theorem part_sp (k n : Int) : partL k n = [] ∨ ∃ r, partL k n = 32 :: r := by
 unfold partL
 split
 ·exact .inl rfl
 ·exact .inr ⟨_, rfl⟩
theorem rowsN_nodup : (List.range 30).all (fun i => (List.range 30).all fun j => decide ((rowsL.getD i row0).name = (rowsL.getD j row0).name → i = j)) = true := by decide +kernel
theorem name_inj {op op' : Int} (h1 : isOp op = true) (h2 : isOp op' = true) (h : (rowAt op).name = (rowAt op').name) : op = op' := by
 have x1 := isOp_yes h1
 have x2 := isOp_yes h2
 unfold rowAt at h
 rw [if_pos h1, if_pos h2] at h
 have e1 := List.all_eq_true.1 rowsN_nodup op.toNat (List.mem_range.2 (by omega))
 have e2 := List.all_eq_true.1 e1 op'.toNat (List.mem_range.2 (by omega))
 have := of_decide_eq_true e2 h
 omega
end Go.Proofs.YtgnooffedmeenaaGreatDoor.O

namespace Go.Proofs.YtgnooffedmeenaaGreatDoor.O

def decP (k : Int) (l : List UInt8) (p : Nat) : Int × Nat × Nat :=
 if k = 0 then (0, 0, p)
 else if k = 1 then V.SigR l p (lo 1) (hi 1)
 else if (V.NumR l p (hi k).toNat).2.1 ≠ 0 then (0, (V.NumR l p (hi k).toNat).2.1, (V.NumR l p (hi k).toNat).2.2)
 else if inK k (V.NumR l p (hi k).toNat).1 = true then ((V.NumR l p (hi k).toNat).1, 0, (V.NumR l p (hi k).toNat).2.2) else (0, 40, (V.NumR l p (hi k).toNat).2.2)

structure Dec where
 op : Int
 a : Int
 b : Int
 er : Nat
 pl : Nat
def decI (l : List UInt8) (p : Nat) : Dec :=
 if (V.NumR l p 29).2.1 ≠ 0 then ⟨0, 0, 0, (V.NumR l p 29).2.1, (V.NumR l p 29).2.2⟩
 else if (decP (rowAt (V.NumR l p 29).1).ka l (V.NumR l p 29).2.2).2.1 ≠ 0 then ⟨0, 0, 0, (decP (rowAt (V.NumR l p 29).1).ka l (V.NumR l p 29).2.2).2.1, (decP (rowAt (V.NumR l p 29).1).ka l (V.NumR l p 29).2.2).2.2⟩
 else if (decP (rowAt (V.NumR l p 29).1).kb l (decP (rowAt (V.NumR l p 29).1).ka l (V.NumR l p 29).2.2).2.2).2.1 ≠ 0 then
  ⟨0, 0, 0, (decP (rowAt (V.NumR l p 29).1).kb l (decP (rowAt (V.NumR l p 29).1).ka l (V.NumR l p 29).2.2).2.2).2.1, (decP (rowAt (V.NumR l p 29).1).kb l (decP (rowAt (V.NumR l p 29).1).ka l (V.NumR l p 29).2.2).2.2).2.2⟩
 else ⟨(V.NumR l p 29).1, (decP (rowAt (V.NumR l p 29).1).ka l (V.NumR l p 29).2.2).1, (decP (rowAt (V.NumR l p 29).1).kb l (decP (rowAt (V.NumR l p 29).1).ka l (V.NumR l p 29).2.2).2.2).1, 0,
  (decP (rowAt (V.NumR l p 29).1).kb l (decP (rowAt (V.NumR l p 29).1).ka l (V.NumR l p 29).2.2).2.2).2.2⟩

end Go.Proofs.YtgnooffedmeenaaGreatDoor.O

namespace Go.Proofs.YtgnooffedmeenaaGreatDoor.C
open Go.RowKit O

def d3 (l : List UInt8) (q : Nat) : I3 := ((decI l q).op, (decI l q).a, (decI l q).b)
def fwd (l : List UInt8) (p : Nat) : Nat → Option (List I3 × Nat)
 | 0 => some ([], p)
 | k + 1 => match fwd l p k with
  | none => none
  | some x => if (decI l x.2).er = 0 then some (x.1 ++ [d3 l x.2], (decI l x.2).pl) else none
def bodyOf (y : Option (List I3 × Nat)) : Option (List I3 × Nat) := match y with
 | none => none
 | some x => if okB x.1 = true then some x else none
def decB (l : List UInt8) (p : Nat) : Option (List I3 × Nat) := if (V.NumR l p 512).2.1 ≠ 0 then none else bodyOf (fwd l (V.NumR l p 512).2.2 (V.NumR l p 512).1)
end Go.Proofs.YtgnooffedmeenaaGreatDoor.C

namespace Go.Proofs.YtgnooffedmeenaaGreatDoor.F
open Go.RowKit W

def nmR (l : List UInt8) (p : Nat) : Option (List UInt8 × Nat) :=
 if (V.bnd (V.nx (l.drop p)) 32).2.2 ≠ 0 then none else
 if l.length < p + (V.bnd (V.nx (l.drop p)) 32).2.1 + (V.bnd (V.nx (l.drop p)) 32).1 then none else
 some ((l.drop (p + (V.bnd (V.nx (l.drop p)) 32).2.1)).take (V.bnd (V.nx (l.drop p)) 32).1, p + (V.bnd (V.nx (l.drop p)) 32).2.1 + (V.bnd (V.nx (l.drop p)) 32).1)
def lcR (l : List UInt8) (p : Nat) : Option (List Int × Nat) := match S.decG l p with
 | none => none
 | some x => if x.1.2 = [] then some (x.1.1, x.2) else none
def nilF : Fu := ⟨[], [], [], [], []⟩
end Go.Proofs.YtgnooffedmeenaaGreatDoor.F

namespace Go.Proofs.YtgnooffedmeenaaGreatDoor.I
open Go.RowKit W

structure Im where
 sh : List (List Int)
 fn : List F.Fu
def nilI : Im := ⟨[], []⟩
def names (p : Im) : List (List UInt8) := p.fn.map fun f => f.nm
def okI (p : Im) : Bool := decide (p.sh.length ≤ 64 ∧ (1 ≤ p.fn.length ∧ p.fn.length ≤ 64) ∧ (names p).Nodup) && (p.sh.all S.okS && p.fn.all F.okF)
def chkI (p : Im) : Int := if okI p = true then 0 else 80
theorem okI_iff (p : Im) : okI p = true ↔ (p.sh.length ≤ 64 ∧ (1 ≤ p.fn.length ∧ p.fn.length ≤ 64) ∧ (names p).Nodup) ∧ p.sh.all S.okS = true ∧ p.fn.all F.okF = true := by
 unfold okI; rw [Bool.and_eq_true, Bool.and_eq_true, decide_eq_true_iff]
theorem chkI_ok {p : Im} (h : okI p = true) : chkI p = 0 := if_pos h
theorem chkI_no {p : Im} (h : okI p = false) : chkI p = 80 := if_neg (by rw [h]; decide)

def adS (s : Nat × Nat) (x : UInt8) : Nat × Nat := (s.1 + x.toNat, s.2 + (s.1 + x.toNat))
def ad (l : List UInt8) : Nat × Nat := l.foldl adS (1, 0)
def four (n : Nat) : List UInt8 := [UInt8.ofNat (n / 16777216), UInt8.ofNat (n / 65536 % 256), UInt8.ofNat (n / 256 % 256), UInt8.ofNat (n % 256)]
section
variable {α : Type}
end

def findI (l : List F.Fu) (s : List UInt8) : Option Nat := l.findIdx? fun f => decide (f.nm = s)
instance fuEq : DecidableEq F.Fu := fun a b => decidable_of_iff (F.sameF a b = true) (F.sameF_iff a b)
def sameI (p q : Im) : Bool := decide (p.sh = q.sh ∧ p.fn = q.fn)

end Go.Proofs.YtgnooffedmeenaaGreatDoor.I

namespace Go.Proofs.YtgnooffedmeenaaGreatDoor.O
open Go.RowKit

theorem pr_ii {a b a' b' : Int} (h1 : a = a') (h2 : b = b') : Ending.returned (.tuple #[.int .i64 a, .int .i64 b]) = .returned (.tuple #[.int .i64 a', .int .i64 b']) := by rw [h1, h2]

end Go.Proofs.YtgnooffedmeenaaGreatDoor.O

namespace Go.Proofs.YtgnooffedmeenaaGreatDoor.W
open Go.RowKit

def chk (t n : Int) : Int := if okB t n = true then 0 else 21
set_option maxHeartbeats 400000 in
theorem known_any (t : Int) (w : World) :
  Calls Tryz.prog 161 #[.int .i64 t] w fun e w' => e = .returned (.bool (knownB t)) ∧ w = w' := by
 by_cases h1 : 1 ≤ t
 ·by_cases h2 : t < 5
  ·go_enter Tryz.func161, Tryz.ntmps161
   go_wp2
   go_ret
   exact ⟨ret_bool (by simp [knownB]; omega), rfl⟩
  ·go_enter Tryz.func161, Tryz.ntmps161
   go_wp2
   go_ret
   exact ⟨ret_bool (by simp [knownB]; omega), rfl⟩
 ·go_enter Tryz.func161, Tryz.ntmps161
  go_wp2
  go_ret
  exact ⟨ret_bool (by simp [knownB]; omega), rfl⟩

/-! ### Zero, Nil -/

end Go.Proofs.YtgnooffedmeenaaGreatDoor.W

namespace Go.Proofs.YtgnooffedmeenaaGreatDoor.W
open Go.RowKit

/-! ### great -/

end Go.Proofs.YtgnooffedmeenaaGreatDoor.W

namespace Go.Proofs.YtgnooffedmeenaaGreatDoor.W
open Go.RowKit

end Go.Proofs.YtgnooffedmeenaaGreatDoor.W

namespace Go.Proofs.YtgnooffedmeenaaGreatDoor.W
open Go.RowKit

theorem rd_new (w : World) (E : TypeId) (cs : Array Value) : Rd (w.alloc (.cells cs E)) (some ⟨w.heap.size, 0, none⟩) cs.toList := fun _ =>
 ⟨_, _, rfl, fun j u hu => by rw [Nat.zero_add, (Blk.new w E cs).cell j]; simpa using hu⟩

theorem own_after {w W W' : World} {E size n : Nat} {v v' : Value} {xs : List Value} (ho : ∀ g, v.ownBlock = some g → Fresh w g) (hK : Keep NoB w W) (hg : W.grownBy W' v.ownBlock)
  (hv : v'.ownBlock = v.ownBlock ∨ v'.ownBlock = some W.heap.size) (hrow : W'.ownsRow 0 E size v' n xs) : Own W' E size (Fresh w) v' n xs ∧ Keep NoB w W' := by
 refine ⟨⟨hrow, fun g e => ?_⟩, hK.grown hg (fun g e h => by have := ho g e; unfold Fresh at this; omega)⟩
 rcases hv with h | h
 ·exact ho g (h ▸ e)
 ·rw [h] at e; cases e; exact hK.size

theorem rd_made {w : World} {E : TypeId} {cs : Array Value} {b : Nat} {xs : List Value} (hb : b = w.heap.size) (hx : xs = cs.toList) : Rd (w.alloc (.cells cs E)) (some ⟨b, 0, none⟩) xs := by
 subst hb hx; exact rd_new w E cs

def zs (l : List Int) : List (Int × Int) := l.map fun t => (t, 0)

def ts (x : List (Int × Int)) : List Int := x.map (·.1)

end Go.Proofs.YtgnooffedmeenaaGreatDoor.W

namespace Go.Proofs.YtgnooffedmeenaaGreatDoor.W
open Go.RowKit

end Go.Proofs.YtgnooffedmeenaaGreatDoor.W

namespace Go.Proofs.YtgnooffedmeenaaGreatDoor.W
open Go.RowKit

theorem gLet : Tryz.prog.globalNamed "backstay/value.letters" = some 1 := by kernel_rfl
theorem gPow : Tryz.prog.globalNamed "internal/strconv.uint64pow10" = some 4 := by kernel_rfl
theorem gSyn : Tryz.prog.globalNamed "strconv.ErrSyntax" = some 9 := by kernel_rfl
theorem gRng : Tryz.prog.globalNamed "strconv.ErrRange" = some 10 := by kernel_rfl

theorem var_keep {n : String} {g : Nat} {cs : Array Value} {w w' : World} (hg : Tryz.prog.globalNamed n = some g) (h : w.var? Tryz.prog n = some cs) (hk : Keep NoB w w') : w'.var? Tryz.prog n = some cs :=
 Go.Joins.var_stays hg h hk.toBelow (Nat.le_refl _)

def letV : Array Value := #[.int .i32 0, .int .i32 73, .int .i32 82, .int .i32 70, .int .i32 80]
def LetAt (w : World) : Prop := w.var? Tryz.prog "backstay/value.letters" = some letV
theorem LetAt.keep {w w' : World} (h : LetAt w) (hk : Keep NoB w w') : LetAt w' := var_keep gLet h hk
theorem LetAt.cell {w : World} (h : LetAt w) (i : Nat) : w.cell? ⟨1, i, none⟩ = letV[i]? := World.var?_cell gLet h i

structure Laid (w : World) : Prop where
 pow : Lib.TabIs Tryz.prog w "internal/strconv.uint64pow10" .u64 Lib.pow10Tab
 syn : ∃ tp p, w.var? Tryz.prog "strconv.ErrSyntax" = some #[.iface tp p]
 rng : ∃ tp p, w.var? Tryz.prog "strconv.ErrRange" = some #[.iface tp p]
theorem Laid.keep {w w' : World} (h : Laid w) (hk : Keep NoB w w') : Laid w' :=
 ⟨var_keep gPow h.pow hk, h.syn.imp fun _ ⟨p, hp⟩ => ⟨p, var_keep gSyn hp hk⟩, h.rng.imp fun _ ⟨p, hp⟩ => ⟨p, var_keep gRng hp hk⟩⟩
set_option maxRecDepth 100000 in
set_option maxHeartbeats 1000000 in
theorem letter_any (t : Int) (w : World) (h : LetAt w) :
  Calls Tryz.prog 271 #[.int .i64 t] w fun e w' => e = .returned (.string (str (letC t))) ∧ w = w' := by
 cases hk : knownB t
 ·have HL := Lib.hid (letC_none hk)
  go_enter Tryz.func271, Tryz.ntmps271
  go_wp2_with (go_at_call 161; refine (known_any _ _).mono ?_; rintro e w' ⟨rfl, rfl⟩)
  go_ret
  exact ⟨by rw [HL.out]; rfl, rfl⟩
 ·rcases known_cases hk with rfl | rfl | rfl | rfl
  ·have c : w.cell? ⟨1, 1, none⟩ = some (.int .i32 73) := h.cell 1
   go_enter Tryz.func271, Tryz.ntmps271
   go_wp2_with (go_at_call 161; refine (known_any _ _).mono ?_; rintro e w' ⟨rfl, rfl⟩)
   go_ret
   exact ⟨rfl, rfl⟩
  ·have c : w.cell? ⟨1, 2, none⟩ = some (.int .i32 82) := h.cell 2
   go_enter Tryz.func271, Tryz.ntmps271
   go_wp2_with (go_at_call 161; refine (known_any _ _).mono ?_; rintro e w' ⟨rfl, rfl⟩)
   go_ret
   exact ⟨rfl, rfl⟩
  ·have c : w.cell? ⟨1, 3, none⟩ = some (.int .i32 70) := h.cell 3
   go_enter Tryz.func271, Tryz.ntmps271
   go_wp2_with (go_at_call 161; refine (known_any _ _).mono ?_; rintro e w' ⟨rfl, rfl⟩)
   go_ret
   exact ⟨rfl, rfl⟩
  ·have c : w.cell? ⟨1, 4, none⟩ = some (.int .i32 80) := h.cell 4
   go_enter Tryz.func271, Tryz.ntmps271
   go_wp2_with (go_at_call 161; refine (known_any _ _).mono ?_; rintro e w' ⟨rfl, rfl⟩)
   go_ret
   exact ⟨rfl, rfl⟩

end Go.Proofs.YtgnooffedmeenaaGreatDoor.W

namespace Go.Proofs.YtgnooffedmeenaaGreatDoor.W
open Go.RowKit

theorem format_any (n : Int) (w : World) (h0 : -9223372036854775808 ≤ n) (h1 : n ≤ 9223372036854775807) (h : Laid w) :
  Calls Tryz.prog 305 #[.int .i64 n, .int .i64 10] w fun e w' => ∃ d, e = .returned (.string d) ∧ d.size ≤ 21 ∧ Hid (d = str (Lib.itoa n)) ∧ Keep NoB w w' := by
 refine (Tryz.strconv_FormatInt_10 n h0 h1 w h.pow).mono ?_
 rintro e w' ⟨rfl, k, os, rfl⟩
 exact ⟨_, rfl, by have := Lib.itoa_length_le n h0 h1; rw [size_of (s := Lib.itoa n) (by simp)]; exact this, rfl, Keep.of_below (Go.Lib.below_grow _ w (Nat.le_refl _) k os)⟩

end Go.Proofs.YtgnooffedmeenaaGreatDoor.W

namespace Go.Proofs.YtgnooffedmeenaaGreatDoor.A
open Go.ChangeShapes Go.WideShapes Go.ChangeAt Go.RowKit

def strD (l : List (List UInt8)) : DataW Unit := .agg (l.map fun s => .lit (.string s))

theorem strs_of_head {P : Program} {W : World} {name : String} {l : List (List UInt8)} {rest : List (String × DataW Unit)} {g : Nat} {t e : TypeId} {n : Nat}
  (hg : P.globalNamed name = some g) (hty : (P.globals[g]?).map (·.type) = some t) (ht : P.underlying t = some (.array n e)) (he : P.underlying e = some .string) (hce : P.cellsOf e = 1) (hct : P.cellsOf t = n)
  (h : laidMet P ((name, strD l) :: rest) W) : W.var? P name = some (svs l).toArray := by
 obtain ⟨ps, ⟨g', t', cs, fuel, p, q, hg', ht', hvar, hd, _, _⟩, _⟩ := h
 obtain rfl := Option.some.inj (hg.symm.trans hg')
 obtain rfl := Option.some.inj (hty.symm.trans ht')
 obtain ⟨xs, m, _, ex, hlen, hl, hel⟩ := DataW.trod_array ht hd
 rw [hct] at hlen
 rw [hce] at hel
 have e3 : l.map (fun s => (DataW.lit (.string s) : DataW Unit)) = xs.map (·.1) := DataW.agg.inj (Prod.mk.inj ex).1
 have hll : l.length = n := by have := congrArg List.length e3; simpa [hl] using this
 have key : cs.toList = svs l := by
  refine List.ext_getElem (by simp [hlen, hll]) fun i h1 h2 => ?_
  have hin : i < n := by rw [← hlen]; exact h1
  have k := hel i hin
  have hix : i < xs.length := by rw [hl]; exact hin
  rw [List.getElem?_eq_getElem hix, Nat.mul_one, List.drop_eq_getElem_cons h1] at k
  obtain ⟨z, a0, b0, _⟩ := DataW.trod_string he k
  have a1 : cs.toList[i] = .string z := by simpa using a0
  have hil : i < l.length := by rw [hll]; exact hin
  have b1 : (DataW.lit (.string l[i]) : DataW Unit) = (xs[i]).1 := by
   have := congrArg (fun y => y[i]?) e3
   simpa [hil, hix] using this
  rw [b0] at b1
  simp only [DataW.lit.injEq, Lit.string.injEq] at b1
  rw [a1, List.getElem_map, b1]
 rw [hvar]
 have : cs = (svs l).toArray := by rw [← key]
 rw [this]

theorem strs_cell {P : Program} {W : World} {name : String} {l : List (List UInt8)} {g : Nat} (hg : P.globalNamed name = some g) (h : W.var? P name = some (svs l).toArray) (i : Nat) (hi : i < l.length) :
  W.cell? ⟨g, i, none⟩ = some (.string (str l[i])) := by
 have := World.var?_cell hg h i
 simpa [hi] using this

end Go.Proofs.YtgnooffedmeenaaGreatDoor.A

namespace Go.Proofs.YtgnooffedmeenaaGreatDoor.A
open Go.RowKit

theorem gBin : Tryz.prog.globalNamed "backstay/alu.binNames" = some 5 := by kernel_rfl
theorem gUn : Tryz.prog.globalNamed "backstay/alu.unNames" = some 6 := by kernel_rfl
theorem var_keepA {n : String} {g : Nat} {cs : Array Value} {w w' : World} (hg : Tryz.prog.globalNamed n = some g) (h : w.var? Tryz.prog n = some cs) (hk : Keep NoB w w') : w'.var? Tryz.prog n = some cs :=
 Go.Joins.var_stays hg h hk.toBelow (Nat.le_refl _)

structure NamesAt (w : World) : Prop where
 bin : w.var? Tryz.prog "backstay/alu.binNames" = some (svs binNs).toArray
 un : w.var? Tryz.prog "backstay/alu.unNames" = some (svs unNs).toArray
theorem NamesAt.keep (w w' : World) (h : NamesAt w) (hk : Keep NoB w w') : NamesAt w' := ⟨var_keepA gBin h.bin hk, var_keepA gUn h.un hk⟩

def NmS (f : FuncId) (l : List (List UInt8)) : Prop := ∀ (n : Int) (W : World), NamesAt W → -9223372036854775808 ≤ n ∧ n ≤ 9223372036854775807 →
 Calls Tryz.prog f #[.int .i64 n] W fun e w' => e = .returned (.string (str (nameAt l n))) ∧ W = w'
set_option maxHeartbeats 4000000 in
theorem binName_any : NmS 273 binNs := fun n w h _ => by
 by_cases hi : 0 ≤ n ∧ n < 14
 ·obtain ⟨k, rfl⟩ := Int.eq_ofNat_of_zero_le hi.1
  have hkl : k < binNs.length := by have : binNs.length = 14 := rfl; omega
  have hck := strs_cell gBin h.bin k hkl
  have HD : Hid (nameAt binNs (k : Int) = binNs[k]) := Lib.hid (by unfold nameAt; rw [if_pos hi.1, Int.toNat_natCast, getD_at hkl])
  generalize binNs[k] = x at hck HD
  clear h hkl
  go_enter Tryz.func273, Tryz.ntmps273
  go_wp2
  go_ret
  exact ⟨by rw [HD.out]; rfl, rfl⟩
 ·have HD : Hid (nameAt binNs n = []) := Lib.hid (by
   unfold nameAt
   split
   ·have : binNs.length ≤ n.toNat := by have : binNs.length = 14 := rfl; omega
    exact getD_past this
   ·rfl)
  by_cases h0 : n < 0
  ·go_enter Tryz.func273, Tryz.ntmps273
   go_wp2
   go_ret
   exact ⟨by rw [HD.out]; rfl, rfl⟩
  ·have h2 : (14 : Int) ≤ n := by omega
   have h0' : decide (n < 0) = false := by simpa using h0
   go_enter Tryz.func273, Tryz.ntmps273
   go_wp2
   go_ret
   exact ⟨by rw [HD.out]; rfl, rfl⟩

set_option maxHeartbeats 4000000 in
theorem unName_any : NmS 275 unNs := fun n w h _ => by
 by_cases hi : 0 ≤ n ∧ n < 9
 ·obtain ⟨k, rfl⟩ := Int.eq_ofNat_of_zero_le hi.1
  have hkl : k < unNs.length := by have : unNs.length = 9 := rfl; omega
  have hck := strs_cell gUn h.un k hkl
  have HD : Hid (nameAt unNs (k : Int) = unNs[k]) := Lib.hid (by unfold nameAt; rw [if_pos hi.1, Int.toNat_natCast, getD_at hkl])
  generalize unNs[k] = x at hck HD
  clear h hkl
  go_enter Tryz.func275, Tryz.ntmps275
  go_wp2
  go_ret
  exact ⟨by rw [HD.out]; rfl, rfl⟩
 ·have HD : Hid (nameAt unNs n = []) := Lib.hid (by
   unfold nameAt
   split
   ·have : unNs.length ≤ n.toNat := by have : unNs.length = 9 := rfl; omega
    exact getD_past this
   ·rfl)
  by_cases h0 : n < 0
  ·go_enter Tryz.func275, Tryz.ntmps275
   go_wp2
   go_ret
   exact ⟨by rw [HD.out]; rfl, rfl⟩
  ·have h2 : (9 : Int) ≤ n := by omega
   have h0' : decide (n < 0) = false := by simpa using h0
   go_enter Tryz.func275, Tryz.ntmps275
   go_wp2
   go_ret
   exact ⟨by rw [HD.out]; rfl, rfl⟩

set_option maxHeartbeats 4000000 in
theorem named_any (f : FuncId) (hcf : ∀ (args : Array Value) (w : World), (callFunc f args).run Tryz.prog w = .ok (.enter f args) w) (l : List (List UInt8)) (n : Nat) (N : Hid (NmS f l)) (S : ByteArray) (s : List UInt8) (w : World) (h : NamesAt w)
  (hn : Hid (l.length = n)) (h1 : n ≤ 100000) (hs : Hid (S.data.toList = s)) :
  Calls Tryz.prog 310 #[.string S, .int .i64 n, .func (.func f) #[] #[]] w fun e w' => e = .returned (.tuple #[.int .i64 (ofI l s), .int .i64 (ofE l s)]) ∧ w = w' := by
 have hS : S.toList = s := by rw [ByteArray.toList_eq, hs.out]
 have HN := Lib.hid (fun n hn => N.out n w h hn)
 clear h N
 go_enter Tryz.func310, Tryz.ntmps310
 go_wp2
 go_loop [10] (fun i => ∃ k : Nat, k ≤ n ∧ i = .int .i64 (k : Int) ∧ Hid (∀ j (_ : j < k), l.getD j [] ≠ s)) (fun i => n - (intOf i).toNat)
 case atStart => exact ⟨0, Nat.zero_le _, rfl, fun j hj => by omega⟩
 case round =>
  obtain ⟨k, hk, rfl, hb⟩ := hrel
  by_cases hlt : k < n
  ·have hkl : k < l.length := by rw [hn.out]; exact hlt
   have HK := Lib.hid (HN.out (k : Int) ⟨by omega, by omega⟩)
   have hD : nameAt l (k : Int) = l[k] := by unfold nameAt; rw [if_pos (by omega), Int.toNat_natCast, getD_at hkl]
   have hE : Hid (l.getD k [] = l[k]) := getD_at hkl
   rw [hD] at HK
   clear hD
   by_cases he : l[k] = s
   ·have HH := Lib.hid (of_hit hkl he hb.out)
    have hq : (l[k] == S.toList) = true := by rw [hS, he]; simp
    generalize l[k] = x at HK hq
    clear he hE hS
    go_wp2_with fail
    refine HK.out.mono ?_
    rintro e w' ⟨rfl, rfl⟩
    go_wp2
    go_ret2
    exact ⟨ret2 HH.out.1.symm HH.out.2.symm, rfl⟩
   ·have hq : (l[k] == S.toList) = false := by rw [hS]; simpa using he
    have HB : Hid (∀ j (_ : j < k + 1), l.getD j [] ≠ s) := fun j hj => by
     rcases Nat.lt_succ_iff_lt_or_eq.1 hj with h | rfl
     ·exact hb.out j h
     ·rw [hE.out]; exact he
    generalize l[k] = x at HK hq
    clear he hE hS
    go_wp2_with fail
    refine HK.out.mono ?_
    rintro e w' ⟨rfl, rfl⟩
    go_wp2
    go_round
    case rel => exact ⟨k + 1, by omega, by go_num, HB⟩
    case measure => simp [intOf]; omega
  ·obtain rfl : k = n := by omega
   have HH := Lib.hid (of_miss (l := l) (s := s) (fun j hj => hb.out j (by rw [← hn.out]; exact hj)))
   clear hS
   go_wp2
   go_ret2
   exact ⟨ret2 HH.out.1.symm HH.out.2.symm, rfl⟩

theorem binOf_all (S : ByteArray) (s : List UInt8) (w : World) (h : NamesAt w) (hs : S.data.toList = s) : Calls Tryz.prog 274 #[.string S] w fun e w' => e = .returned (.tuple #[.int .i64 (ofI binNs s), .int .i64 (ofE binNs s)]) ∧ Keep NoB w w' := by
 have H := Lib.hid (fun W hW => named_any 273 Tryz.call273 binNs 14 (Lib.hid binName_any) S s W hW rfl (by omega) hs)
 go_enter Tryz.func274, Tryz.ntmps274
 go_wp2_with (go_at_call 310; refine (H.out _ h).mono ?_; rintro e w' ⟨rfl, rfl⟩)
 go_ret2
 exact ⟨rfl, Keep.refl _ _⟩
theorem unOf_all (S : ByteArray) (s : List UInt8) (w : World) (h : NamesAt w) (hs : S.data.toList = s) : Calls Tryz.prog 276 #[.string S] w fun e w' => e = .returned (.tuple #[.int .i64 (ofI unNs s), .int .i64 (ofE unNs s)]) ∧ Keep NoB w w' := by
 have H := Lib.hid (fun W hW => named_any 275 Tryz.call275 unNs 9 (Lib.hid unName_any) S s W hW rfl (by omega) hs)
 go_enter Tryz.func276, Tryz.ntmps276
 go_wp2_with (go_at_call 310; refine (H.out _ h).mono ?_; rintro e w' ⟨rfl, rfl⟩)
 go_ret2
 exact ⟨rfl, Keep.refl _ _⟩

end Go.Proofs.YtgnooffedmeenaaGreatDoor.A

namespace Go.Proofs.YtgnooffedmeenaaGreatDoor.O
open Go.RowKit

structure LaidO (w : World) : Prop where
 lets : W.LetAt w
 names : A.NamesAt w
 lib : W.Laid w
theorem LaidO.keep {w w' : World} (h : LaidO w) (hk : Keep NoB w w') : LaidO w' := ⟨h.lets.keep hk, A.NamesAt.keep _ _ h.names hk, h.lib.keep hk⟩
def I64 (n : Int) : Prop := -9223372036854775808 ≤ n ∧ n ≤ 9223372036854775807

theorem word_dig {k n : Int} (h : digK k = true) : word k n = Lib.itoa n := by
 have h := of_decide_eq_true h
 unfold word
 rw [if_neg (by omega), if_neg (by omega), if_neg (by omega)]
theorem dig_0 {k : Int} (h : digK k = true) : k ≠ 0 := by have h := of_decide_eq_true h; omega
theorem word_0 {k : Int} (h : wordK k = true) : k ≠ 0 := by have h := of_decide_eq_true h; omega

theorem nameAt_len {l : List (List UInt8)} {m : Nat} (h : l.all (fun s => decide (s.length ≤ m)) = true) (n : Int) : (A.nameAt l n).length ≤ m := by
 unfold A.nameAt
 split
 ·rcases Nat.lt_or_ge n.toNat l.length with hlt | hge
  ·rw [A.getD_at hlt]
   exact of_decide_eq_true (List.all_eq_true.1 h _ (List.getElem_mem hlt))
  ·rw [A.getD_past hge]; exact Nat.zero_le _
 ·exact Nat.zero_le _
theorem word_len (k n : Int) (hn : I64 n) : (word k n).length ≤ 21 := by
 unfold word
 split
 ·unfold W.letC
  repeat' split
  all_goals simp
 ·split
  ·exact Nat.le_trans (nameAt_len (m := 6) (by decide) n) (by omega)
  ·split
   ·exact Nat.le_trans (nameAt_len (m := 6) (by decide) n) (by omega)
   ·exact Lib.itoa_length_le n hn.1 hn.2

set_option maxHeartbeats 1000000 in
theorem show_dig (k n : Int) (w : World) (hk : digK k = true) (hn : I64 n) (h : LaidO w) :
  Calls Tryz.prog 304 #[.int .i64 n] w fun e w' => ∃ d, e = .returned (.string d) ∧ Hid (d = str (word k n)) ∧ Keep NoB w w' := by
 have HW := Lib.hid (word_dig (n := n) hk)
 have HF := Lib.hid (W.format_any n w hn.1 hn.2 h.lib)
 clear h hk hn
 go_enter Tryz.func304, Tryz.ntmps304
 go_wp2_with fail
 refine HF.out.mono ?_
 rintro e w1 ⟨d, rfl, _, hd, k1⟩
 go_wp2
 go_ret
 exact ⟨d, rfl, by show _ = _; rw [hd.out, HW.out], k1⟩

set_option maxHeartbeats 1000000 in
theorem show_word (k n : Int) (b : Nat) (w : World) (hk : wordK k = true) (hn : I64 n) (h : LaidO w) (hb : w.cell? ⟨b, 0, none⟩ = some (fnV (wordF k))) :
  Calls Tryz.prog 308 #[.int .i64 n, .pointer (some ⟨b, 0, none⟩)] w fun e w' => ∃ d, e = .returned (.string d) ∧ Hid (d = str (word k n)) ∧ Keep NoB w w' := by
 have hk := of_decide_eq_true hk
 have hc : k = 8 ∨ k = 9 ∨ (k = 2 ∨ k = 3) := by omega
 clear hk
 rcases hc with rfl | rfl | hk
 ·have HF := Lib.hid (A.binName_any n w h.names hn)
  have hb' : w.cell? ⟨b, 0, none⟩ = some (fnV 273) := hb
  clear h hn hb
  go_enter Tryz.func308, Tryz.ntmps308
  go_wp2_with fail
  refine HF.out.mono ?_
  rintro e w1 ⟨rfl, rfl⟩
  go_wp2
  go_ret
  exact ⟨_, rfl, rfl, Keep.refl _ _⟩
 ·have HF := Lib.hid (A.unName_any n w h.names hn)
  have hb' : w.cell? ⟨b, 0, none⟩ = some (fnV 275) := hb
  clear h hn hb
  go_enter Tryz.func308, Tryz.ntmps308
  go_wp2_with fail
  refine HF.out.mono ?_
  rintro e w1 ⟨rfl, rfl⟩
  go_wp2
  go_ret
  exact ⟨_, rfl, rfl, Keep.refl _ _⟩
 ·have HF := Lib.hid (W.letter_any n w h.lets)
  have hb' : w.cell? ⟨b, 0, none⟩ = some (fnV 271) := by rw [hb]; unfold wordF; rw [if_neg (by omega), if_neg (by omega)]
  have HW : Hid (word k n = W.letC n) := by show _ = _; unfold word; rw [if_pos (by omega)]
  clear h hn hb hk
  go_enter Tryz.func308, Tryz.ntmps308
  go_wp2_with fail
  refine HF.out.mono ?_
  rintro e w1 ⟨rfl, rfl⟩
  go_wp2
  go_ret
  exact ⟨_, rfl, by show _ = _; rw [HW.out], Keep.refl _ _⟩

end Go.Proofs.YtgnooffedmeenaaGreatDoor.O
